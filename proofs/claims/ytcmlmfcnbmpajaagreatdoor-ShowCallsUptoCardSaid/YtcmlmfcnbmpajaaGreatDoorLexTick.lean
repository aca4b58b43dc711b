/- The row's condition on the library's variables gives what the library's text reads (Env); start-up's heap meets it. -/
import Derived.Test.YtcmlmfcnbmpajaaGreatDoorShelf
import Derived.Test.YtcmlmfcnbmpajaaGreatDoorRows
import Derived.Test.YtcmlmfcnbmpajaaGreatDoorPlain
import Derived.WalkKit
import Derived.ProofKit
import Derived.OpenShut
import Derived.Handy
import Derived.Lib.AppendIntMem
import Derived.Lib.ItoaLen
import Derived.Lib.Slices
import Derived.Lib.Hide
import Derived.Lib.LaidTab
import Derived.Laws.IdiomStrings
import Derived.Deep.RegionWith
import Derived.WalkLawsBesides
import Derived.OwnWalk
import Derived.BigCall
import Derived.LaidMore
import Derived.Stop.Joined
import Derived.Stop.LaidErr
namespace Go.Proofs.YtcmlmfcnbmpajaaGreatDoor.Tk
open Go.Shelf Go.ChangeShapes Go.WideShapes Go.ChangeAt Go.RowKit
set_option linter.unusedVariables false

theorem ret_b {a b : Bool} (h : a = b) : Ending.returned (.bool b) = .returned (.bool a) := by rw [h]
theorem ret_2 {a b c d : Int} (h : a = c ∧ b = d) : Ending.returned (.tuple #[.int .i64 c, .int .i64 d]) = .returned (.tuple #[.int .i64 a, .int .i64 b]) := by rw [h.1, h.2]

theorem below_trans {a b c : World} (h1 : Below a.heap.size a b) (h2 : Below b.heap.size b c) : Below a.heap.size a c :=
  h1.trans (h2.mono h1.size)
theorem var_on {w w' : World} {n : String} {cs : Array Value} (h : w.var? Tryz.prog n = some cs) (hb : Below w.heap.size w w') : w'.var? Tryz.prog n = some cs := by
  unfold World.var? at *
  cases hg : Tryz.prog.globalNamed n with
  | none => simp [hg] at h
  | some g =>
    simp only [hg, Option.bind_some] at h ⊢
    have hlt : g < w.heap.size := by
      rcases Nat.lt_or_ge g w.heap.size with h' | h'
      · exact h'
      · rw [Array.getElem?_eq_none h'] at h; simp at h
    rw [hb.block g hlt]
    exact h
/-- what the library's text reads of package-level variables -/
structure Env (w : World) : Prop where
  tab : Lib.TabIs Tryz.prog w "internal/strconv.uint64pow10" .u64 Lib.pow10Tab
theorem Env.on {w w' : World} (h : Env w) (hb : Below w.heap.size w w') : Env w' :=
  ⟨var_on h.tab hb⟩

theorem ret_s {a b : List UInt8} (h : a = b) : Ending.returned (.string ⟨b.toArray⟩) = .returned (.string ⟨a.toArray⟩) := by rw [h]

theorem take_snoc (s : ByteArray) (k : Nat) (h : k < s.size) : s.data.toList.take (k + 1) = s.data.toList.take k ++ [s[k]] := by
  rw [List.take_succ_eq_append_getElem (by simpa using h)]; rfl
theorem allDig_no {l : List UInt8} {k : Nat} (hk : k < l.length) (h : isDig l[k] = false) : allDig l = false := by
  cases ha : allDig l with
  | false => rfl
  | true =>
    have := List.all_eq_true.1 ha l[k] (List.getElem_mem hk)
    rw [h] at this; cases this

def NumB (l : List UInt8) (w : World) (e : Ending) (w' : World) : Prop := ∃ n : Int, e = .returned (.tuple #[.int .i64 n, .bool (canon l)]) ∧ (canon l = true → n = (dval l : Int)) ∧ Below w.heap.size w w'
theorem ret_ib {a c : Int} {b d : Bool} (h1 : a = c) (h2 : b = d) : Ending.returned (.tuple #[.int .i64 a, .bool b]) = .returned (.tuple #[.int .i64 c, .bool d]) := by rw [h1, h2]

def ParB (l : List UInt8) (w : World) (e : Ending) (w' : World) : Prop := e = .returned (.tuple #[.int .i64 (parseV l), .int .i64 (parseE l)]) ∧ Below w.heap.size w w'
theorem ext_data (s : ByteArray) (a b : Nat) : (s.extract a b).data.toList = (s.data.toList.take b).drop a := by
  rw [Lib.extract_data, List.drop_take]
theorem ext_head (s : ByteArray) (k : Nat) : (s.extract 0 k).data.toList = s.data.toList.take k := by rw [ext_data]; simp
theorem ext_tail (s : ByteArray) (k : Nat) : (s.extract k s.size).data.toList = s.data.toList.drop k := by
  rw [ext_data, List.take_of_length_le (by rw [← Lib.size_eq]; exact Nat.le_refl _)]
theorem ext_all (s : ByteArray) : s.extract 0 s.size = s := by
  apply Go.WideShapes.bytes_inj; rw [ext_head, List.take_of_length_le (by rw [← Lib.size_eq]; exact Nat.le_refl _)]
theorem inf_t {s : ByteArray} (h : s.data.toList = infL) : (s.toList == [105, 110, 102]) = true := by rw [ByteArray.toList_eq, h]; rfl
theorem inf_f {s : ByteArray} (h : s.data.toList ≠ infL) : (s.toList == [105, 110, 102]) = false := by rw [ByteArray.toList_eq, beq_eq_false_iff_ne]; exact h

end Go.Proofs.YtcmlmfcnbmpajaaGreatDoor.Tk
namespace Go.Proofs.YtcmlmfcnbmpajaaGreatDoor.Tk
open Go.ChangeShapes Go.WideShapes Go.ChangeAt Go.RowKit
set_option linter.unusedVariables false

def laidAll : List (String × DataW Unit) := [("math/bits.deBruijn32tab", Rows.laid_math_bits_deBruijn32tab), ("math/bits.deBruijn64tab", Rows.laid_math_bits_deBruijn64tab), ("internal/strconv.uint64pow10", Rows.laid_internal_strconv_uint64pow10)]

theorem gTab : Tryz.prog.globalNamed "internal/strconv.uint64pow10" = some 0 := by kernel_rfl
theorem tTab : (Tryz.prog.globals[0]?).map (·.type) = some 172 := by kernel_rfl
theorem cE : Tryz.prog.cellsOf 155 = 1 := by kernel_rfl
theorem cT : Tryz.prog.cellsOf 172 = 20 := by kernel_rfl
theorem c9 : Tryz.prog.cellsOf 9 = 1 := by kernel_rfl
theorem star : "*" ++ "errors.errorString" = "*errors.errorString" := by decide
theorem tab_eq {H : Type} : (Rows.laid_internal_strconv_uint64pow10 : DataW H) = Lib.tabData .u64 Lib.pow10Tab := rfl

/-- The row's condition gives what the library's text reads. -/
theorem env_of_laid {W : World} (h : laidMetH Tryz.prog laidAll W) : Env W := by
  rw [MakeChecks.laidMetH_plain _ _ _ (by kernel_rfl)] at h
  have h1 : laidMet Tryz.prog laidAll W := h
  have h3 := h1.tail.tail
  exact ⟨Lib.tabIs_of_head gTab tTab Tryz.underlying172 Tryz.underlying155 cE cT h3⟩

/-- The heap that start-up leaves meets the condition. -/
theorem door_met (os : Os) (args : Array Value) : laidMetH Tryz.prog laidAll ((World.doorLaid Tryz.prog 24 os).forCall (fun _ _ => 0) ⟨#[], args, []⟩).memory :=
  laidMetH_of_parts3 (fuel := 8) (laidMet_of_run' 8 (by kernel_rfl) (by kernel_rfl)) (by kernel_rfl) (by kernel_rfl)
end Go.Proofs.YtcmlmfcnbmpajaaGreatDoor.Tk

