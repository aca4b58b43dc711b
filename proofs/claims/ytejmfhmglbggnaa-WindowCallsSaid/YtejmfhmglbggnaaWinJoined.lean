/- Package window's joined, behind any iterator of windows that hands over a list: the list joined, in memory of its own. Conditions: the list holds fewer than a million windows. -/
import Derived.RangeFuncBox
import Derived.RangeFuncLeaves
import Derived.Shelf.Abstract
import Derived.OwnWalkIn
import Derived.TacticsInMore
import Derived.LoopNIn
import Derived.LoopIn
import Derived.BigRegionIn
import Derived.RangeFuncNested
import Derived.RangeFuncCalls
import Derived.Shelf.RegionOpen
import Derived.Sort.QuietIn
import Derived.StillTail
import Derived.StillTactics
import Derived.Maps.AppendAt
import Derived.Lib.SliceRun
import Derived.Test.YtejmfhmglbggnaaWinRound
import Derived.IntWalk
import Derived.Test.YtejmfhmglbggnaaWinLex
namespace Go.Proofs.Ytejmfhmglbggnaa.Wn
open Go.ChangeShapes Go.WideShapes Go.ChangeAt Go.RowKit Go.Shelf
set_option linter.unusedVariables false
set_option linter.unusedSimpArgs false
attribute [local go_sem] Oper.semAt_some

def Stop (p : Prop) : Prop := p
theorem stop {p : Prop} (h : Stop p) : p := h
theorem own_after {w w' : World} {base e size n : Nat} {v : Value} {xs : List Value} (h : w.ownsRow base e size v n xs) (hb : Below w.heap.size w w') : w'.ownsRow base e size v n xs :=
  h.kept (row := none) (below_grow hb) (by
    cases hv : v.ownBlock with
    | none => exact .inl rfl
    | some k => exact .inr (by simp))
/-- the variable's box holds a row of the call's own: what has been joined so far -/
def JI (w : World) (pre : List Win) (W : World) : Prop :=
  (∃ v, Boxed W w.heap.size 22 v ∧ W.ownsRow (w.heap.size + 1) 31 2 v (jn pre).length (kc (jn pre)) ∧ True) ∧ Below w.heap.size w W
theorem JI.own (w : World) (B : Nat) (hB : w.heap.size ≤ B) : OwnFrom B (JI w) :=
  OwnFrom.and (Own.from (holdsRow_own (w.heap.size + 1) w.heap.size 22 31 2 (fun pre : List Win => (jn pre).length) (fun pre => kc (jn pre)) (fun _ _ => True)) B) (ownFrom_below (Nat.le_refl _) hB)
def JA (w : World) (gf : Nat) (lb : Array Value) (x : Win) (a' : Act) (W : World) : Prop :=
  ∃ g, w.heap.size < g ∧ Blk W g 31 [.int .i64 x.1, .int .i64 x.2] ∧ a' = { tmps := #[.func (.func gf) #[] lb, undef, .slice none 0 0, .pointer (some ⟨w.heap.size, 0, none⟩), .pointer (some ⟨g, 0, none⟩), undef, .func (.func gf) #[] lb, .agg #[.int .i64 x.1, .int .i64 x.2], undef, undef, undef, undef, undef, undef, undef, undef, undef, undef, undef, undef, undef, undef, undef, undef, undef, undef, undef, undef, undef, undef, undef, undef, undef, undef, undef, undef, undef, undef, undef, undef], defers := [] }
theorem JA.own (w : World) (gf : Nat) (lb : Array Value) (B : Nat) (x : Win) (a' : Act) : OwnFrom B (fun (_ : Unit) W => JA w gf lb x a' W) := fun _ X Y row ⟨g, h1, h2, h3⟩ hg hrow =>
  ⟨g, h1, h2.grown hg (fun e => by
    obtain ⟨_, o, ho, hc⟩ := hrow g e.symm
    rw [show X.heap[g]? = _ from h2] at ho; cases ho; cases hc), h3⟩

theorem below_undraw {B k : Nat} {w w' : World} (h : Below B (w.drewN k) w') : Below B w w' := ⟨h.os, h.tape, h.output, h.size, h.block⟩
theorem keeps_undraw {k : Nat} {w w' : World} (h : KeepsOthers (w.drewN k) w') : KeepsOthers w w' := ⟨h.size, h.same⟩
theorem own_lower {w : World} {b b' e size n : Nat} {v : Value} {xs : List Value} (h : w.ownsRow b e size v n xs) (hb : b' ≤ b) : w.ownsRow b' e size v n xs := by
  refine ⟨h.1, ?_⟩
  rcases h.2 with h | ⟨g, cap, cur, e1, e2, r⟩
  · exact .inl h
  · exact .inr ⟨g, cap, cur, e1, Nat.le_trans hb e2, r⟩
theorem cells_two (w : World) (t : TypeId) (u v : Value) : ∀ j a, [u, v][j]? = some a → (w.alloc (.cells #[u, v] t)).cell? ((⟨w.heap.size, 0, none⟩ : Addr).add j) = some a := by
  obtain ⟨ad, e, _, h⟩ := lit_rd w #[u, v] t [u, v] rfl (by simp)
  injection e with e
  subst e
  exact h
theorem joined_fin {w W : World} {L : List Win} {v : Value} (hrow : W.ownsRow (w.heap.size + 1) 31 2 v (jn L).length (kc (jn L))) (hB : Below w.heap.size w W) {D : Nat} (o' : Obj) (hK : W.heap[D]? = some (.deferred (some []))) (hD : w.heap.size ≤ D) : WinsNew w (jn L) (.returned v) (W.putObj D o') := by
  have hr2 := ownsRow_putObj hrow o' hK rfl
  obtain ⟨A, c, rfl, hc, hrd⟩ := own_form hr2
  exact ⟨A, _, c, rfl, Lib.hid rfl, hc, hrd.more fun b h => ⟨by omega, h.2⟩, hB.trans (belowK_b (w := w) (Nat.le_refl _) W D _ _ hD hK rfl rfl)⟩
/-- a body's row is left so: it goes on -/
theorem joined_fine {w W W' : World} {n0 B m : Nat} {pre : List Win} {a : Act} (hB : B + m ≤ w.heap.size) (hn0 : n0 ≤ w.heap.size) (hk : KeepsOthers W W') (hb : Below w.heap.size W W') (hi : JI w pre W') (Bk : Nat) (Ix : Code → List Win → World → Prop) :
    ownPostG Bk (KpB n0 B m) (JI w) Ix pre W .normal a W' := ⟨hk.from _, KpB.of_below hb hn0 hB, hi⟩

theorem kc_set (q : List Win) (c1 c2 u : Int) : (kc (q ++ [(c1, c2)])).set (q.length * 2 + 1) (.int .i64 u) = kc (q ++ [(c1, u)]) := by
  rw [kc_append, kc_append, List.set_append_right _ _ (by rw [kc_length]; omega), kc_length]
  have e : q.length * 2 + 1 - q.length * 2 = 1 := by omega
  rw [e]; rfl
theorem joined_over {w W : World} {n0 B m k j gr cp : Nat} {pre q : List Win} {c1 c2 u : Int} {x : Win} {a : Act} (hB : B + m ≤ w.heap.size) (hn0 : n0 ≤ w.heap.size) (hb1 : Below w.heap.size w W)
    (hv : Boxed W w.heap.size 22 (.slice (some ⟨gr, 0, none⟩) (k + 1) cp)) (how : W.ownsRow (w.heap.size + 1) 31 2 (.slice (some ⟨gr, 0, none⟩) (k + 1) cp) (k + 1) (kc (q ++ [(c1, c2)]))) (hk : k = q.length)
    (HJ : jn (pre ++ [x]) = q ++ [(c1, u)]) (Bk : Nat) (Ix : Code → List Win → World → Prop) :
    ownPostG Bk (KpB n0 B m) (JI w) Ix (pre ++ [x]) W .normal a ((W.drewN j).setCell ⟨gr, k * 2 + 1, none⟩ (.int .i64 u)) := by
  have hg := (how.lt gr rfl).1
  have how2 : (W.drewN j).ownsRow (w.heap.size + 1) 31 2 (.slice (some ⟨gr, 0, none⟩) (k + 1) cp) (k + 1) (kc (q ++ [(c1, c2)])) := how
  obtain ⟨s1, s2⟩ := how2.stored (k * 2 + 1) (.int .i64 u)
  have hv2 : Boxed (W.drewN j) w.heap.size 22 (.slice (some ⟨gr, 0, none⟩) (k + 1) cp) := hv
  have hb2 : Below w.heap.size W ((W.drewN j).setCell ⟨gr, k * 2 + 1, none⟩ (.int .i64 u)) := below_undraw (k := j) ((Below.refl _ _).setCell (p := ⟨gr, k * 2 + 1, none⟩) (by show w.heap.size ≤ gr; omega) _)
  refine joined_fine hB hn0 (keeps_undraw (k := j) (KeepsOthers.setCell _ _ _)) hb2 ⟨⟨_, hv2.kept s2 (by simp; omega), ?_, trivial⟩, hb1.trans hb2⟩ _ _
  rw [HJ]
  subst hk
  rw [kc_set] at s1
  simpa using s1

set_option maxRecDepth 100000 in
set_option maxHeartbeats 4000000 in
theorem joined_in (gf : Nat) (lb : Array Value) (n0 B m : Nat) (L : List Win) (w : World) (eg : ∀ args w, (callFunc gf args).run Try.prog w = .ok (.enter gf args) w)
    (hseq : ∀ W, Below w.heap.size w W → SeqStopsK Fence.wide 5 Try.prog gf lb encw (KpB n0 B m) (fun ys => ys = L) (fun _ => True) L.length W)
    (hB : B + m ≤ w.heap.size) (hn0 : n0 ≤ w.heap.size) (hL : L.length ≤ 1000000) :
    CallsIn Fence.wide 6 Try.prog 33 #[.func (.func gf) #[] lb] w (WinsNew w (jn L)) := by
  refine callsIn_of_wp_marks Try.func33 rfl trivial ?_ rfl
  simp only [Try.ntmps33, List.size_toArray, List.length_cons, List.length_nil, Nat.reduceAdd, Nat.reduceSub, Array.replicate_succ, Array.replicate_zero, List.push_toArray, List.append_toArray, List.nil_append, List.cons_append]
  gi_wp2
  have bA := Boxed.new w 22 (.slice none 0 0)
  obtain ⟨W0, hW0⟩ : ∃ W0, W0 = w.alloc (.cells #[.slice none 0 0] 22) := ⟨_, rfl⟩
  have hB0 : Below w.heap.size w W0 := by rw [hW0]; exact (Below.refl _ w).alloc (Nat.le_refl _) _
  have hsz : W0.heap.size = w.heap.size + 1 := by rw [hW0]; simp
  rw [← hW0] at bA ⊢
  clear hW0
  refine wpIn_rangeFunc_ownH rfl (by omega) (gf := gf) (lb := lb) rfl trivial eg (hseq W0 hB0) KpB.t
    (fun W l o o' hl h h1 h2 => KpB.of_below (belowK_b (w := W0) (n₀ := w.heap.size) (by omega) W l o o' hl h h1 h2) hn0 hB) (Below.refl _ _) (fun _ => rfl)
    (JI w) (fun _ _ _ => False) (JI.own w _ (by omega)) (fun _ _ _ _ _ hs _ _ => hs)
    ⟨⟨_, bA, World.ownsRow_nil _ _ _ _, trivial⟩, hB0⟩
    (JA w gf lb) (fun x a' => JA.own w gf lb _ x a') ?assign ?body ?done ?stop
  case assign =>
    rintro l pre x W K ⟨⟨v, hv, hrow, _⟩, hB1⟩ hK
    have hlt := hv.lt
    dsimp only [encw]
    gi_wp2
    refine hK _ _ ((KeepsOthers.alloc _ _).from _) (KpB.of_below ((Below.refl _ W).alloc hB1.size _) hn0 hB) ⟨⟨v, hv.alloc _, hrow.alloc _, trivial⟩, hB1.alloc hB1.size _⟩ ⟨W.heap.size, hlt, Blk.new W _ _, rfl⟩
  case body =>
    rintro l pre x a' W hl ⟨r, hr⟩ ⟨⟨v, hv, hrow, _⟩, hB1⟩ ⟨g, hg, hX, rfl⟩ hlt
    have hcv := hv.cell
    have hfv := hv.frozen
    have hx0 := hX.cell 0
    have hx1 := hX.cell 1
    simp only [List.getElem?_cons_zero, List.getElem?_cons_succ] at hx0 hx1
    have hpl := jn_length pre
    have hsl := hB1.size
    obtain ⟨i0, hi, hz0, hz1, hz2⟩ := info_parts info_win
    have HSZ : Hid (w.heap.size + 1 ≤ W.heap.size) := Lib.hid (by have := hv.lt; omega)
    have HW1 := Lib.hid hB1
    have HBX : Hid (∀ k, Boxed (W.drewN k) w.heap.size 22 v) := Lib.hid fun _ => hv
    obtain ⟨x1, x2⟩ := x
    dsimp only at hx0 hx1
    rcases List.eq_nil_or_concat (jn pre) with hq | ⟨q, c, hq⟩
    · rw [hq] at hrow
      have HOW : Hid (∀ k, (W.drewN k).ownsRow (w.heap.size + 1) 31 2 v 0 []) := Lib.hid fun _ => hrow
      have HJ : Hid (jn (pre ++ [(x1, x2)]) = [(x1, x2)]) := Lib.hid (by rw [jn_snoc, hq]; rfl)
      obtain ⟨A, cp, rfl, _, _⟩ := own_form (HOW.out 0)
      clear hrow hv hX hq
      gi_wp2
      refine region_round mixed (by kernel_rfl) (by kernel_rfl) ?_
      repeat (gi_big_quiet_step (fail))
      refine wpQuietIn_nil ?_
      intro _ hw'
      obtain ⟨nq, hw''⟩ := hw'
      subst hw''
      gi_wp2_with (gi_at_builtin; refine stop ?_)
      unfold Stop
      refine wpListIn_append_own ((W.drewN nq).alloc (.cells #[.int .i64 x1, .int .i64 x2] 31)) rfl (.tmp 35) (.tmp 37) 22 rfl (w.heap.size + 1) 31 i0 _ 2 16 Try.underlying22 hi hz0 hz1 hz2 rfl (by decide) _ _ _ rfl ((HOW.out nq).alloc _) ⟨(W.drewN nq).heap.size, 0, none⟩ 1 1 [.int .i64 x1, .int .i64 x2] rfl rfl (cells_two (W.drewN nq) _ _ _) (by simp [Value.oneCell']) (by simp only [maxLen]; omega) (by omega) (by have := HSZ.out; simp; omega) ?_
      intro v' w3 hown' hg3 _
      obtain ⟨g', cap', rfl⟩ := ownsRow_succ hown'
      have AP := (HBX.out nq).appended (n₀ := w.heap.size) (by decide) (own_lower (HOW.out nq) (by omega)) (by have := HSZ.out; show w.heap.size ≤ W.heap.size; omega) (Nat.le_refl _) (own_lower hown' (by omega)) hg3
      have AS := hown'.kept (grownBy_setCell' w3 w.heap.size (.slice (some ⟨g', 0, none⟩) (0 + 1) cap')) (.inr (AP.1.not_row (by decide) hown').symm)
      have c3 := AP.1.cell
      have f3 := AP.1.frozen
      have AK := Lib.hid AP
      have AL := Lib.hid AS
      clear AP AS hown' hg3
      gi_wp2
      exact joined_fine hB hn0 (keeps_undraw AK.out.2.2.2.1) (below_undraw AK.out.2.2.2.2) ⟨⟨_, AK.out.2.1, by rw [HJ.out]; exact AL.out, trivial⟩, HW1.out.trans (below_undraw AK.out.2.2.2.2)⟩ _ _
    · rw [List.concat_eq_append] at hq
      have hql : q.length + 1 ≤ 1000000 := by rw [hq] at hpl; simp at hpl; omega
      rw [hq] at hrow
      have hrow2 : W.ownsRow (w.heap.size + 1) 31 2 v (q.length + 1) (kc (q ++ [c])) := by simpa using hrow
      have HOW : Hid (∀ k, (W.drewN k).ownsRow (w.heap.size + 1) 31 2 v (q.length + 1) (kc (q ++ [c]))) := Lib.hid fun _ => hrow2
      obtain ⟨gr, cp, rfl⟩ := ownsRow_succ (HOW.out 0)
      obtain ⟨c1, c2⟩ := c
      have hat := kc_at (q ++ [(c1, c2)]) q.length (c1, c2) (by simp)
      have hc0 := (hrow2.cellAt (q.length * 2) (by omega)).trans hat.1
      have hc1 := (hrow2.cellAt (q.length * 2 + 1) (by omega)).trans hat.2
      have hf1 := hrow2.frozenAt (q.length * 2 + 1)
      obtain ⟨k, hk⟩ : ∃ k, k = q.length := ⟨_, rfl⟩
      have HK := Lib.hid hk
      rw [← hk] at hc0 hc1 hf1 HOW hcv HBX hql
      clear hrow hrow2 hv hX hat hk
      have hk0 : (0 : Int) ≤ (k : Int) := by omega
      have hk1 : (k : Int) < (k : Int) + 1 := by omega
      dsimp only at hc1
      by_cases hov : x1 ≤ c2
      · have HJ : Hid (jn (pre ++ [(x1, x2)]) = q ++ [(c1, max c2 x2)]) := Lib.hid (by rw [jn_snoc, hq, jstep_last, if_pos hov])
        have dov : decide (x1 ≤ c2) = true := decide_eq_true hov
        clear hq
        gi_wp2
        refine region_round mixed (by kernel_rfl) (by kernel_rfl) ?_
        repeat (gi_big_quiet_step (fail))
        refine wpQuietIn_nil ?_
        intro _ hw'
        obtain ⟨nq, hw''⟩ := hw'
        subst hw''
        gi_wp2
        refine region_tail 12 (fun ⟨_, _, h⟩ => h) mixed (by kernel_rfl) (by kernel_rfl) ?_
        simp only [List.take_succ_cons, List.take_zero, List.drop_succ_cons, List.drop_zero]
        change wpStill _ _ (W.drewN (nq + 1)) (fun a' => wpList _ _ _ _ a' (W.drewN (nq + 1))) _ _
        iterate 12 still_step
        refine wpStill_nil ?_
        change wpList _ _ _ _ _ (W.drewN (nq + 1))
        go_wp2
        · exact joined_over hB hn0 HW1.out (HBX.out 0) (HOW.out 0) HK.out (by rw [HJ.out, Int.max_eq_right (by omega)]) _ _
        · exact joined_over hB hn0 HW1.out (HBX.out 0) (HOW.out 0) HK.out (by rw [HJ.out, Int.max_eq_left (by omega)]) _ _
      · have HJ : Hid (jn (pre ++ [(x1, x2)]) = q ++ [(c1, c2)] ++ [(x1, x2)]) := Lib.hid (by rw [jn_snoc, hq, jstep_last, if_neg hov])
        have dov : decide (x1 ≤ c2) = false := decide_eq_false hov
        clear hq
        gi_wp2
        refine region_round mixed (by kernel_rfl) (by kernel_rfl) ?_
        repeat (gi_big_quiet_step (fail))
        refine wpQuietIn_nil ?_
        intro _ hw'
        obtain ⟨nq, hw''⟩ := hw'
        subst hw''
        gi_wp2_with (gi_at_builtin; refine stop ?_)
        unfold Stop
        refine wpListIn_append_own ((W.drewN nq).alloc (.cells #[.int .i64 x1, .int .i64 x2] 31)) rfl (.tmp 35) (.tmp 37) 22 rfl (w.heap.size + 1) 31 i0 _ 2 16 Try.underlying22 hi hz0 hz1 hz2 rfl (by decide) _ _ _ rfl ((HOW.out nq).alloc _) ⟨(W.drewN nq).heap.size, 0, none⟩ 1 1 [.int .i64 x1, .int .i64 x2] rfl rfl (cells_two (W.drewN nq) _ _ _) (by simp [Value.oneCell']) (by simp only [maxLen]; omega) (by omega) (by have := HSZ.out; simp; omega) ?_
        intro v' w3 hown' hg3 _
        obtain ⟨g', cap', rfl⟩ := ownsRow_succ hown'
        have AP := (HBX.out nq).appended (n₀ := w.heap.size) (by decide) (own_lower (HOW.out nq) (by omega)) (by have := HSZ.out; show w.heap.size ≤ W.heap.size; omega) (Nat.le_refl _) (own_lower hown' (by omega)) hg3
        have AS := hown'.kept (grownBy_setCell' w3 w.heap.size (.slice (some ⟨g', 0, none⟩) (k + 1 + 1) cap')) (.inr (AP.1.not_row (by decide) hown').symm)
        have c3 := AP.1.cell
        have f3 := AP.1.frozen
        have AK := Lib.hid AP
        have AL := Lib.hid AS
        clear AP AS hown' hg3
        gi_wp2
        exact joined_fine hB hn0 (keeps_undraw AK.out.2.2.2.1) (below_undraw AK.out.2.2.2.2) ⟨⟨_, AK.out.2.1, by rw [HJ.out]; rw [kc_append]; simp only [List.length_append, List.length_cons, List.length_nil, ← HK.out]; exact AL.out, trivial⟩, HW1.out.trans (below_undraw AK.out.2.2.2.2)⟩ _ _
  case done =>
    rintro D ys W hD rfl ⟨⟨v, hv, hrow, _⟩, hB1⟩ hK
    have hcv := hv.cell
    gi_wp2
    refine ⟨by simp, .inl ⟨_, _, rfl, run_takeDeferred hK, ?_⟩⟩
    refine ⟨_, results_tmp rfl _ _ _, ?_⟩
    exact joined_fin hrow hB1 _ hK (Nat.le_trans (by omega) hD)
  case stop =>
    rintro D c pre W _ _ h _
    exact h.elim
end Go.Proofs.Ytejmfhmglbggnaa.Wn
