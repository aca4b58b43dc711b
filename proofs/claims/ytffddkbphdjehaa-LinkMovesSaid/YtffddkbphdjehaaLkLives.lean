/- The chapter's examples come out: timetablelaw11's lives. No conditions. -/
import Derived.Test.YtffddkbphdjehaaLkLv
namespace Go.Proofs.Ytffddkbphdjehaa.Lk
open Go.ChangeShapes Go.WideShapes Go.ChangeAt Go.RowKit Go.Sort
open Wn
set_option linter.unusedVariables false
set_option linter.unusedSimpArgs false
attribute [local go_sem] Oper.semAt_some

theorem at_ex (f : Int) (h : f ≠ inf) : at_ exL f = f + 3 := by unfold at_; rw [if_neg h]
theorem ok0 : ok (exN []) = true := by decide
theorem ok4 : ok (exN [(4, 16)]) = true := by decide
theorem first_ex {W : World} {r : RwA} {bc bo bl : Nat} {t f : Int} (h : ExAt W r bc bo bl) (hr : r.z.length ≤ 10000) (hok : ok (exN r.z) = true) (ht : tick t = true) (hf : ∀ g, Fst (exN r.z) exL t g → g = f) (hi : f ≠ inf) :
    Calls Try.prog 10 #[.agg #[.int .i64 40, .slice (some ⟨bc, 0, none⟩) 2 2, .slice (some ⟨bl, 0, none⟩) 1 1], .int .i64 0, .int .i64 t] W fun e w' => e = .returned (.tuple #[.int .i64 f, .int .i64 (f + 3)]) ∧ Below W.heap.size W w' :=
  (First_ok (exX r bc bo bl) 0 (exY bo) t W h.nt (ExAt.lt hr) hok rfl ht).mono fun e w' hh => by
    obtain ⟨g, rfl, hg, hb⟩ := hh
    have := hf g hg.out
    subst this
    exact ⟨by rw [at_ex g hi], hb⟩
abbrev W3 (wa : World) (bc bl : Nat) : World := (((wa.alloc (.cells #[.int .i64 40, .slice (some ⟨bc, 0, none⟩) 2 2, .slice (some ⟨bl, 0, none⟩) 1 1] 25)).alloc (.cells #[.int .i64 4, .int .i64 16] 41)).setCell ⟨bc, 0, none⟩ (.slice (some ⟨wa.heap.size + 1, 0, none⟩) 1 1))
theorem ex_third {wa : World} {bc bo bl : Nat} (h : ExAt wa ⟨[], none, 0⟩ bc bo bl) (h1 : bc ≠ bo) (h2 : bc ≠ bl) : ExAt (W3 wa bc bl) ⟨[(4, 16)], some ⟨wa.heap.size + 1, 0, none⟩, 1⟩ bc bo bl := by
  have hl := h.c.lt
  have b := Blk.new (wa.alloc (.cells #[.int .i64 40, .slice (some ⟨bc, 0, none⟩) 2 2, .slice (some ⟨bl, 0, none⟩) 1 1] 25)) 41 [.int .i64 4, .int .i64 16]
  rw [World.size_alloc] at b
  have b' := b.far (p := ⟨bc, 0, none⟩) (show wa.heap.size + 1 ≠ bc by omega) (.slice (some ⟨wa.heap.size + 1, 0, none⟩) 1 1)
  refine ⟨((h.c.alloc _).alloc _).set_ 0 _, ((h.o.alloc _).alloc _).far (p := ⟨bc, 0, none⟩) (Ne.symm h1) _, ((h.l.alloc _).alloc _).far (p := ⟨bc, 0, none⟩) (Ne.symm h2) _, ⟨Nat.le_refl _, ?_⟩⟩
  exact b'.rd b'.lt 0
set_option maxHeartbeats 4000000 in
theorem lives_any (w : World) : Calls Try.prog 4 #[] w fun e w' => e = .returned (.bool true) ∧ Below w.heap.size w w' := by
  have C1 : Hid (∀ W bc bo bl, ExAt W ⟨[], none, 0⟩ bc bo bl → Calls Try.prog 10 #[.agg #[.int .i64 40, .slice (some ⟨bc, 0, none⟩) 2 2, .slice (some ⟨bl, 0, none⟩) 1 1], .int .i64 0, .int .i64 6] W fun e w' => e = .returned (.tuple #[.int .i64 6, .int .i64 9]) ∧ Below W.heap.size W w') := Lib.hid fun W bc bo bl h => first_ex (f := 6) h (by decide) ok0 (by decide) (fun g => ex_f1) (by decide)
  have C2 : Hid (∀ W bc bo bl, ExAt W ⟨[], none, 0⟩ bc bo bl → Calls Try.prog 10 #[.agg #[.int .i64 40, .slice (some ⟨bc, 0, none⟩) 2 2, .slice (some ⟨bl, 0, none⟩) 1 1], .int .i64 0, .int .i64 7] W fun e w' => e = .returned (.tuple #[.int .i64 15, .int .i64 18]) ∧ Below W.heap.size W w') := Lib.hid fun W bc bo bl h => first_ex (f := 15) h (by decide) ok0 (by decide) (fun g => ex_f2) (by decide)
  have C3 : Hid (∀ W bc bo bl g, ExAt W ⟨[(4, 16)], some ⟨g, 0, none⟩, 1⟩ bc bo bl → Calls Try.prog 10 #[.agg #[.int .i64 40, .slice (some ⟨bc, 0, none⟩) 2 2, .slice (some ⟨bl, 0, none⟩) 1 1], .int .i64 0, .int .i64 1] W fun e w' => e = .returned (.tuple #[.int .i64 16, .int .i64 19]) ∧ Below W.heap.size W w') := Lib.hid fun W bc bo bl g h => first_ex (f := 16) h (show 1 ≤ 10000 by decide) ok4 (by decide) (fun g => ex_f3) (by decide)
  have CE := Lib.hid example_any
  go_enter Try.func4, Try.ntmps4
  have S := Lib.hid (Below.refl w.heap.size w)
  go_wp2_with (first | (go_at_call 11; refine (CE.out _).mono ?_; rintro e wa ⟨bc, bo, bl, rfl, hbc, hne1, hne2, HA, hba⟩; have hbw : w.heap.size ≤ bc := Nat.le_trans S.out.size hbc; have S := Lib.hid (S.out.trans (hba.mono S.out.size)); have X3 := Lib.hid (ex_third HA.out hne1 hne2); have FA := Lib.hid ((HA.out.c.alloc (.cells #[.int .i64 40, .slice (some ⟨bc, 0, none⟩) 2 2, .slice (some ⟨bl, 0, none⟩) 1 1] 25)).alloc (.cells #[.int .i64 4, .int .i64 16] 41)); have f0 := bc0 FA.out; have fz := FA.out.frozen 0; have NB := Lib.hid (((Blk.new wa 25 [.int .i64 40, .slice (some ⟨bc, 0, none⟩) 2 2, .slice (some ⟨bl, 0, none⟩) 1 1]).alloc (.cells #[.int .i64 4, .int .i64 16] 41)).far (p := ⟨bc, 0, none⟩) (show wa.heap.size ≠ bc by have := HA.out.c.lt; omega) (.slice (some ⟨wa.heap.size + 1, 0, none⟩) 1 1)); have g0 := bc0 NB.out; have g1 := bc1 NB.out; have g2 := bc2 NB.out) | (go_at_call 10; with_reducible refine (C1.out _ bc bo bl HA.out).mono ?_; rintro e w1 ⟨rfl, hb1⟩; have S := Lib.hid (S.out.trans (hb1.mono S.out.size))) | (go_at_call 10; with_reducible refine (C2.out _ bc bo bl HA.out).mono ?_; rintro e w2 ⟨rfl, hb2⟩; have S := Lib.hid (S.out.trans (hb2.mono S.out.size))) | (go_at_call 10; with_reducible refine (C3.out _ bc bo bl (wa.heap.size + 1) X3.out).mono ?_; rintro e w3 ⟨rfl, hb3⟩; have S1 := (S.out.alloc S.out.size (.cells #[.int .i64 40, .slice (some ⟨bc, 0, none⟩) 2 2, .slice (some ⟨bl, 0, none⟩) 1 1] 25)).alloc (by have := S.out.size; simp; omega) (.cells #[.int .i64 4, .int .i64 16] 41); have S := Lib.hid ((S1.setCell (p := ⟨bc, 0, none⟩) hbw (.slice (some ⟨wa.heap.size + 1, 0, none⟩) 1 1)).trans (hb3.mono (S1.setCell (p := ⟨bc, 0, none⟩) hbw (.slice (some ⟨wa.heap.size + 1, 0, none⟩) 1 1)).size)); clear S1) | fail)
  go_ret
  exact ⟨rfl, S.out⟩
end Go.Proofs.Ytffddkbphdjehaa.Lk
