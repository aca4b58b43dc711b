/- The chapter's example holds (lives), at every world in which the library's table lies. -/
import Derived.Test.YtffphlbbophjfaaDoorBitMake
import Derived.Test.YtffphlbbophjfaaDoorBitWrite
namespace Go.Proofs.YtffphlbbophjfaaDoor.Bs
open Go.ChangeShapes Go.WideShapes Go.ChangeAt Go.RowKit
set_option linter.unusedVariables false

def f70 : Fs := fPut (fPut (fPut fEmpty 3) 69) 3
theorem f70_next : nxt f70 70 4 = 69 := nxt_some (j := 69) (by omega) (by omega) (by decide) (fun i h1 h2 => by
  have e1 : decide (i = 3) = false := decide_eq_false (by omega)
  have e2 : decide (i = 69) = false := decide_eq_false (by omega)
  simp [f70, fPut, fEmpty, e1, e2])
theorem f70_count : cnt f70 70 = 2 := by decide +kernel
/-- a call that writes one new set alone, after others -/
theorem wr_below {t : TypeId} {g : Nat} {a w w' : World} (h : Below a.heap.size a w) (hg : Wr t g w w') (hr : a.heap.size ≤ g) : Below a.heap.size a w' := Wr.below h hg h.size hr
set_option maxHeartbeats 2000000 in
theorem lives_any (w : World) (hE : Env w) : Calls Tryd.prog 12 #[] w (BoolPost w true) := by
  have HE := Lib.hid hE
  clear hE
  go_enter Tryd.func12, Tryd.ntmps12
  go_wp2_with fail
  refine (new_any 70 _ (by omega)).mono ?_
  rintro e w1 ⟨B, g, rfl, hB, hg, hs, hb⟩
  go_wp2_with fail
  refine (put_any hs 3 true 0 (fPut fEmpty 3) (by decide) (by decide) (by rw [if_pos (by decide)]; rfl)).mono ?_
  rintro e w2 ⟨rfl, hs2, hw2⟩
  have hb2 := wr_below hb hw2 hg
  clear hs hw2 hb
  go_wp2_with fail
  refine (put_any hs2 69 true 0 (fPut (fPut fEmpty 3) 69) (by decide) (by decide) (by rw [if_pos (by decide)]; rfl)).mono ?_
  rintro e w3 ⟨rfl, hs3, hw3⟩
  have hb3 := wr_below hb2 hw3 hg
  clear hs2 hw3 hb2
  go_wp2_with fail
  refine (put_any hs3 3 false 0 f70 (by decide) (by decide) (by rw [if_pos (by decide)]; rfl)).mono ?_
  rintro e w4 ⟨rfl, hs4, hw4⟩
  have hb4 := wr_below hb3 hw4 hg
  clear hs3 hw4 hb3
  go_wp2_with fail
  refine (next_any hs4 (HE.out.after hb4) 4).mono ?_
  rintro e w5 ⟨rfl, hb5⟩
  have hs5 := hs4.after hb5
  have hb6 := keep_trans hb4 hb5
  clear hs4 hb4 hb5
  rw [show (4 : Int).toNat = 4 from rfl, f70_next]
  go_wp2_with fail
  refine (count_any hs5).mono ?_
  rintro e w7 ⟨rfl, hb7⟩
  have hb8 := Lib.hid (keep_trans hb6 hb7)
  clear hs5 hb6 hb7
  rw [f70_count]
  go_wp2
  go_ret
  exact ⟨rfl, hb8.out⟩
end Go.Proofs.YtffphlbbophjfaaDoor.Bs
