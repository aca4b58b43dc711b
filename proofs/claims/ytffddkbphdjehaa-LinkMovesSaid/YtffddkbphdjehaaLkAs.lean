/- Contracts of package link's First and May at a net that may be. Conditions: rows hold at most 10,000 things. -/
import Derived.Test.YtffddkbphdjehaaLkFi
import Derived.Test.YtffddkbphdjehaaLkMore
namespace Go.Proofs.Ytffddkbphdjehaa.Lk
open Go.ChangeShapes Go.WideShapes Go.ChangeAt Go.RowKit Go.Sort
open Wn
set_option linter.unusedVariables false
set_option linter.unusedSimpArgs false
attribute [local go_sem] Oper.semAt_some

theorem add_fst {x : Nt} {l : Ln} {f : Int} (hok : ok x = true) (hlg : lgood x l = true) (hf : f = inf ∨ Lk.may x l f) : Tk.addV f l.len = at_ l f := by
  have hl := (lgood_parts hlg).2.2.2.1
  unfold Tk.addV at_
  rcases hf with e | e
  · subst e
    rw [if_pos ⟨.inl rfl, .inr (by omega)⟩, if_pos (.inl rfl), if_pos rfl]
  · have h1 := may_inf hok hlg e
    have h2 := (tick_iff f).1 (may_tick hok hlg e)
    rw [if_pos ⟨.inr (by omega), .inr (by omega)⟩, if_neg (by simp only [inf] at h1; omega), if_pos (by omega), if_neg h1.1]
abbrev WYL (y : LnA) (gn gl pf : Nat) : Array Value := #[.int .i64 y.l.a, .int .i64 y.l.b, .int .i64 y.l.len, .func (.func 29) #[] #[.pointer (some ⟨gn, 0, none⟩), .pointer (some ⟨gl, 0, none⟩)], .func (.func pf) #[] #[.pointer (some ⟨gl, 0, none⟩)], .func (.func 31) #[] #[.pointer (some ⟨gn, 0, none⟩), .pointer (some ⟨gl, 0, none⟩)]]

set_option maxHeartbeats 4000000 in
theorem First_ok (x : NtA) (k : Nat) (y : LnA) (t : Int) (w : World) (h : NtOk w (· < w.heap.size) x) (hl : Lt x) (hok : ok x.net = true) (hy : x.ls[k]? = some y) (ht : tick t = true) : Calls Try.prog 10 #[ntV x, .int .i64 k, .int .i64 t] w fun e w' => ∃ f : Int, e = .returned (.tuple #[.int .i64 f, .int .i64 (at_ y.l f)]) ∧ Hid (Fst x.net y.l t f) ∧ Below w.heap.size w w' := by
  have hym := List.mem_of_getElem? hy
  have hlg : lgood x.net y.l = true := (ok_parts hok).2.2.2.2 y.l (List.mem_map.2 ⟨y, hym, rfl⟩)
  have h0 := (tick_iff t).1 ht
  have B0 := Lib.hid ((Below.refl w.heap.size w).alloc (Nat.le_refl _) (.cells #[.int .i64 x.hz, .slice x.p x.rs.length x.c, .slice x.q x.ls.length x.d] 25))
  have CW := Lib.hid (wayOf_ok x k y _ (h.later B0.out) hl hok hy)
  have CK := Lib.hid fun W => Tk.check_ok t W h0.1 h0.2
  have CF : Hid (∀ W gn gl, WyAt W x y gn gl → Calls Try.prog 21 #[.agg (WYL y gn gl (passF y)), .int .i64 t] W fun e w' => ∃ f : Int, e = .returned (.int .i64 f) ∧ Hid (Fst x.net y.l t f) ∧ Below W.heap.size W w') := Lib.hid fun W gn gl hw => first_any hok hlg hl (hl.lo y hym) (hl.lc y hym) hw t ht
  have CA : Hid (∀ W f, Fst x.net y.l t f → Calls Try.prog 22 #[.int .i64 f, .int .i64 y.l.len] W fun e w' => e = .returned (.tuple #[.int .i64 (at_ y.l f), .int .i64 (Tk.addE f y.l.len)]) ∧ Below W.heap.size W w') := Lib.hid fun W f hf => by
    have := Tk.add_any f y.l.len W
    unfold Tk.Add at this
    rwa [add_fst hok hlg hf.may] at this
  show Calls _ _ #[.agg #[.int .i64 x.hz, .slice x.p x.rs.length x.c, .slice x.q x.ls.length x.d], .int .i64 k, .int .i64 t] _ _
  clear h hl hok hy ht h0 hym hlg
  go_enter Try.func10, Try.ntmps10
  go_wp2_with (first | (go_at_call 20; refine CW.out.mono ?_; rintro e w1 ⟨gn, gl, rfl, HW, hb1⟩; have HWA := Lib.hid (HW.out.later ((Below.refl w1.heap.size w1).alloc (Nat.le_refl _) (.cells (WYL y gn gl (passF y)) 55))); have BW := Lib.hid (Blk.new w1 55 (WYL y gn gl (passF y)).toList)) | (go_at_call 13; refine (CK.out _).mono ?_; rintro e w2 ⟨rfl, rfl⟩; have c0 := bc0 BW.out; have c1 := bc1 BW.out; have c2 := bc2 BW.out; have c3 := bc3 BW.out; have c4 := bc4 BW.out; have c5 := bc5 BW.out) | (go_at_call 21; refine (CF.out _ gn gl HWA.out).mono ?_; rintro e w3 ⟨f, rfl, HF, hb3⟩; have d2 := bc2 (BW.out.after hb3)) | (go_at_call 22; refine (CA.out _ f HF.out).mono ?_; rintro e w4 ⟨rfl, hb4⟩) | fail)
  go_ret2
  have q1 := B0.out.trans (hb1.mono B0.out.size)
  have q2 := q1.alloc q1.size (.cells (WYL y gn gl (passF y)) 55)
  have q3 := q2.trans (hb3.mono q2.size)
  exact ⟨f, rfl, HF, q3.trans (hb4.mono q3.size)⟩
set_option maxHeartbeats 4000000 in
theorem First_far (x : NtA) (k : Nat) (y : LnA) (t : Int) (w : World) (h : NtOk w (· < w.heap.size) x) (hl : Lt x) (hok : ok x.net = true) (hy : x.ls[k]? = some y) (ht : tick t = false) : Calls Try.prog 10 #[ntV x, .int .i64 k, .int .i64 t] w fun e w' => e = .returned (.tuple #[.int .i64 inf, .int .i64 inf]) ∧ Below w.heap.size w w' := by
  have h0 : t < 0 ∨ 1099511627776 < t := by
    have : ¬ tick t = true := by simp [ht]
    rw [tick_iff] at this; omega
  have B0 := Lib.hid ((Below.refl w.heap.size w).alloc (Nat.le_refl _) (.cells #[.int .i64 x.hz, .slice x.p x.rs.length x.c, .slice x.q x.ls.length x.d] 25))
  have CW := Lib.hid (wayOf_ok x k y _ (h.later B0.out) hl hok hy)
  have CK := Lib.hid fun W => Tk.check_bad t W h0
  show Calls _ _ #[.agg #[.int .i64 x.hz, .slice x.p x.rs.length x.c, .slice x.q x.ls.length x.d], .int .i64 k, .int .i64 t] _ _
  clear h hl hok hy ht h0
  go_enter Try.func10, Try.ntmps10
  go_wp2_with (first | (go_at_call 20; refine CW.out.mono ?_; rintro e w1 ⟨gn, gl, rfl, HW, hb1⟩) | (go_at_call 13; refine (CK.out _).mono ?_; rintro e w2 ⟨rfl, rfl⟩) | fail)
  go_ret2
  have q1 := B0.out.trans (hb1.mono B0.out.size)
  have q2 := q1.alloc q1.size (.cells (WYL y gn gl (passF y)) 55)
  exact ⟨rfl, q2⟩
end Go.Proofs.Ytffddkbphdjehaa.Lk
