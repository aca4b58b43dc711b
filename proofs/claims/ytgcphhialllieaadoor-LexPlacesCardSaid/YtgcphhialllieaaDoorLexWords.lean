/- Package lex: Reserved; the library's strings.Clone. No conditions. -/
import Derived.Test.YtgcphhialllieaaDoorLexBase
import Derived.Test.YtgcphhialllieaaDoorShelf
namespace Go.Proofs.YtgcphhialllieaaDoor.Lx
open Go.ChangeShapes Go.WideShapes Go.ChangeAt Go.RowKit
set_option linter.unusedVariables false

theorem clone_any (s : ByteArray) (w : World) (hs : s.size ≤ 65536) : Calls Tryd.prog 39 #[.string s] w fun e w' => e = .returned (.string s) ∧ Below w.heap.size w w' := by
  go_enter Tryd.func39, Tryd.ntmps39
  go_wp2_with (go_at_call 46; refine (Tryd.stringslite_Clone s _ (by omega)).mono ?_; rintro e w1 ⟨rfl, hb⟩)
  go_ret
  exact ⟨rfl, hb⟩

set_option maxHeartbeats 1000000 in
theorem reserved_lit (l : List UInt8) (h : l ∈ reservedL) (w : World) : Calls Tryd.prog 12 #[.string ⟨l.toArray⟩] w fun e w' => e = .returned (.bool true) ∧ w = w' := by
  simp only [reservedL, List.mem_cons, List.not_mem_nil, or_false] at h
  rcases h with rfl | rfl | rfl | rfl | rfl | rfl | rfl | rfl | rfl | rfl | rfl | rfl | rfl | rfl | rfl
  all_goals
    go_enter Tryd.func12, Tryd.ntmps12
    go_wp2
    go_ret
    exact ⟨rfl, rfl⟩
theorem ne_lit {s : ByteArray} {l : List UInt8} (h : s.data.toList ≠ l) : (s.toList == l) = false := by rw [ByteArray.toList_eq, beq_eq_false_iff_ne]; exact h
set_option maxHeartbeats 1000000 in
theorem reserved_no (s : ByteArray) (h : isRes s.data.toList = false) (w : World) : Calls Tryd.prog 12 #[.string s] w fun e w' => e = .returned (.bool false) ∧ w = w' := by
  have hm : ∀ l ∈ reservedL, (s.toList == l) = false := fun l hl => ne_lit (fun e => by
    have : reservedL.contains s.data.toList = true := by rw [e]; exact List.contains_iff_mem.2 hl
    unfold isRes at h; rw [this] at h; cases h)
  simp only [reservedL, List.mem_cons, List.not_mem_nil, or_false, forall_eq_or_imp, forall_eq] at hm
  obtain ⟨h1, h2, h3, h4, h5, h6, h7, h8, h9, h10, h11, h12, h13, h14, h15⟩ := hm
  clear h
  go_enter Tryd.func12, Tryd.ntmps12
  go_wp2
  go_ret
  exact ⟨rfl, rfl⟩
theorem reserved_any (s : ByteArray) (w : World) : Calls Tryd.prog 12 #[.string s] w fun e w' => e = .returned (.bool (isRes s.data.toList)) ∧ w = w' := by
  cases h : isRes s.data.toList with
  | false => exact reserved_no s h w
  | true => exact reserved_lit s.data.toList (List.contains_iff_mem.1 h) w
end Go.Proofs.YtgcphhialllieaaDoor.Lx
