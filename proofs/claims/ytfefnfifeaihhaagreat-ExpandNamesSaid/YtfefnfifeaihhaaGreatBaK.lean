/- A region that draws its order, walked inside a round of a loop over an iterator: all orders at once, where its operations only read, or only its last one writes. No conditions. · Package window's joined, behind any iterator of windows that hands over a list: the list joined, in memory of its own. Conditions: the list holds fewer than a million windows. · Contracts of window.Union and window.Wins. Conditions: rows hold fewer than a million windows together. · Contract of window.Wins. No conditions but that the horizon and the times are int64. -/
import Derived.Test.YtfefnfifeaihhaaGreatBaJ
import Derived.RangeFuncNested
import Derived.RangeFuncCalls
import Derived.Shelf.RegionOpen
import Derived.Sort.QuietIn
import Derived.StillTail
import Derived.StillTactics
set_option linter.unusedVariables false
set_option linter.unusedSimpArgs false
set_option maxHeartbeats 4000000
set_option maxRecDepth 100000
namespace Go.Proofs.YtfefnfifeaihhaaGreat.Wn
open Go.ChangeShapes Go.WideShapes Go.ChangeAt Go.RowKit Go.Shelf
attribute [local go_sem] Oper.semAt_some
def noDefer (o : Oper) : Bool := match o.op with
  | .defer _ => false
  | _ => true
theorem noDefer_ne {o : Oper} (h : noDefer o = true) (c : _) : o.op ≠ .defer c := by
  intro e
  unfold noDefer at h
  rw [e] at h
  cases h
theorem oper_round {r n : Nat} {P : Program} {o : Oper} {a : Act} {w : World} {K : Act → World → Prop} {Q : Exit → Act → World → Prop} (hnd : noDefer o = true) (h : o.wpIn Fence.wide n P a w K Q) : o.wpIn (Fence.wide.inRound r) n P a w K Q := by
  unfold Oper.wpIn at h ⊢
  refine ⟨fun _ _ => trivial, ?_⟩
  rw [Oper.semAt_plain _ _ _ (noDefer_ne hnd)] at h ⊢
  exact h.2
theorem any_round {r n : Nat} {P : Program} {md : Region.Mode} {ops : Array Oper} {Q : Exit → Act → World → Prop} (hnd : ∀ (i : Nat) (o : Oper), ops[i]? = some o → noDefer o = true) : ∀ (fuel : Nat) (listed : Array Bool) (a : Act) (w : World), wpAnyIn Fence.wide n P md ops Q fuel listed a w → wpAnyIn (Fence.wide.inRound r) n P md ops Q fuel listed a w
  | 0, _, _, _, h => h
  | fuel + 1, listed, a, w, h => ⟨h.1, fun i hi => by
      have hh := h.2 i hi
      unfold wpOpIn at hh ⊢
      split
      · rename_i ho; simp only [ho] at hh; exact any_round hnd _ _ _ _ hh
      · rename_i o ho
        simp only [ho] at hh
        split
        · rename_i hw
          simp only [hw, if_true] at hh
          exact oper_round (hnd i o ho) (Oper.wpIn_mono (fun a w h => any_round hnd _ _ _ _ h) hh)
        · rename_i hw
          simp only [hw] at hh
          exact ⟨fun _ _ => trivial, any_round hnd _ _ _ _ hh.2⟩⟩
theorem region_round {r n id : Nat} {P : Program} {l : List Oper} {Q : Exit → Act → World → Prop} {a : Act} {w : World} (hm : P.follows .mixedOrders = true) (hB : Region.lexB .any l.toArray = true) (hnd : l.all noDefer = true)
    (h : wpQuietIn Fence.wide n P l.toArray (fun w' => ∃ k, w' = w.drewN k) (fun a' => ∀ w', (∃ k, w' = w.drewN k) → Q .normal a' w') l a) : (Code.region id l.toArray true).wpIn (Fence.wide.inRound r) n P Q a w := by
  simp only [Region.lexB, Bool.and_eq_true] at hB
  have hd : ∀ (i : Nat) (o : Oper), l.toArray[i]? = some o → noDefer o = true := fun i o ho => by
    rw [List.all_eq_true] at hnd
    exact hnd o (List.mem_of_getElem? (by simpa using ho))
  refine wpIn_region_any hm (any_round hd _ _ _ _ (wpAnyIn_of_quiet (C := fun w' => ∃ k, w' = w.drewN k) (Q := fun a' => ∀ w', (∃ k, w' = w.drewN k) → Q .normal a' w') rfl (fun _ w' hw' h => h w' hw') _ _ _ _ ⟨1, rfl⟩ ?_))
  have := wpAnyQIn_lex (F := Fence.wide) (n := n) (C := fun w' => ∃ k, w' = w.drewN k) (md := .any) hB.1 l 0 (Array.replicate l.toArray.size false) a (by simp) (by simpa using hB.2) h
  simpa using this
theorem oper_in {r n : Nat} {P : Program} {o : Oper} {a : Act} {w : World} {K : Act → World → Prop} {Q : Exit → Act → World → Prop} (hnd : noDefer o = true) (h : o.wp P a w K Q) : o.wpIn (Fence.wide.inRound r) n P a w K Q := by
  unfold Oper.wpIn
  refine ⟨fun _ _ => trivial, ?_⟩
  rw [Oper.semAt_plain _ _ _ (noDefer_ne hnd)]
  unfold Oper.wp at h
  generalize (execOp a.eval o).run P w = s at *
  cases s with
  | ok x w' =>
    cases x with
    | value u => exact h
    | skip => exact h
    | defer d => exact h
    | enter f args => exact ⟨fun h0 => (by cases h0), CallsIn.inRound r (callsIn_wide.2 h)⟩
    | row row args => exact ⟨fun h0 => (by cases h0), fun c cs _ => by
        obtain ⟨v, w2, h1, h2⟩ := h c cs
        exact ⟨v, w2, h1, stepsIn_wide.2 h2⟩⟩
    | _ => exact h.elim
  | halt x w' =>
    cases x with
    | panic v => exact h
    | _ => exact h.elim
theorem any_in {r n : Nat} {P : Program} {md : Region.Mode} {ops : Array Oper} {Q : Exit → Act → World → Prop} (hl : ¬ LetsOut Q) (hnd : ∀ (i : Nat) (o : Oper), ops[i]? = some o → noDefer o = true) : ∀ (fuel : Nat) (listed : Array Bool) (a : Act) (w : World), wpAny P md ops Q fuel listed a w → wpAnyIn (Fence.wide.inRound r) n P md ops Q fuel listed a w
  | 0, _, _, _, h => h
  | fuel + 1, listed, a, w, h => ⟨h.1, fun i hi => by
      have hh := h.2 i hi
      unfold wpOp at hh
      unfold wpOpIn
      split
      · rename_i ho; simp only [ho] at hh; exact any_in hl hnd _ _ _ _ hh
      · rename_i o ho
        simp only [ho] at hh
        split
        · rename_i hw
          simp only [hw, if_true] at hh
          rcases hh with hh | hh
          · exact Oper.wpIn_mono (fun a w h => any_in hl hnd _ _ _ _ h) (oper_in (hnd i o ho) hh)
          · exact (hl hh.2).elim
        · rename_i hw
          simp only [hw] at hh
          exact ⟨fun _ _ => trivial, any_in hl hnd _ _ _ _ hh⟩⟩
theorem region_tail {r n id : Nat} {P : Program} {l : List Oper} {Q : Exit → Act → World → Prop} {a : Act} {w : World} (k : Nat) (hl : ¬ LetsOut Q) (hm : P.follows .mixedOrders = true) (hB : Region.lexTailB .any l.toArray k = true) (hnd : l.all noDefer = true)
    (h : wpStill P l.toArray { w with drawn := w.drawn + 1 } (fun a' => wpList P l.toArray Q (l.drop k) a' { w with drawn := w.drawn + 1 }) (l.take k) a) : (Code.region id l.toArray true).wpIn (Fence.wide.inRound r) n P Q a w := by
  have hd : ∀ (i : Nat) (o : Oper), l.toArray[i]? = some o → noDefer o = true := fun i o ho => by
    rw [List.all_eq_true] at hnd
    exact hnd o (List.mem_of_getElem? (by simpa using ho))
  simp only [Region.lexTailB, Bool.and_eq_true, decide_eq_true_eq] at hB
  obtain ⟨⟨⟨⟨b1, b2⟩, b3⟩, b4⟩, b5⟩ := hB
  have hk : k < l.length := by simpa using b2
  have e1 : (l.take k).length = k := by simp; omega
  have e2 : k + (l.toArray.size - k) = l.toArray.size := by omega
  refine wpIn_region_any hm (any_in hl hd _ _ _ _ ?_)
  have H := wpAnyL_lex (md := .any) (g := l.toArray.size - k) b1 b3 b4 b2 (l.take k) 0 _ a (fun j hj => by rw [e1] at hj; simp [hj]) (by simpa using e1)
    (⟨by simp, fun j oj _ hj => (by rw [getD_replicate_false] at hj; cases hj), fun t _ ht => getD_in (by simpa using ht) (getD_replicate_false _ _)⟩ : HeadInv .any l.toArray k (Array.replicate l.toArray.size false)) (by rw [e1]; exact b5) h
  have h2 : (l.drop k).length = l.toArray.size - k := by simp
  have R := wpAny_of_head (Q' := Q) (g := l.toArray.size - k) (fun listed a' hL => by
    have := wpAny_of_seq (md := .any) (Q' := Q) (l.drop k) k listed a' { w with drawn := w.drawn + 1 } (fun j => by simp [List.getElem?_drop]) (by rw [h2]; exact hL.1) hL.2
    rwa [h2] at this) _ _ _ H
  rw [e1, e2] at R
  exact R
end Go.Proofs.YtfefnfifeaihhaaGreat.Wn
namespace Go.Proofs.YtfefnfifeaihhaaGreat.Wn
open Go.ChangeShapes Go.WideShapes Go.ChangeAt Go.RowKit Go.Shelf
attribute [local go_sem] Oper.semAt_some
def Stop (p : Prop) : Prop := p
theorem stop {p : Prop} (h : Stop p) : p := h
/-- the variable's box holds a row of the call's own: what has been joined so far -/
def JI (w : World) (pre : List Win) (W : World) : Prop :=
  (∃ v, Boxed W w.heap.size 144 v ∧ W.ownsRow (w.heap.size + 1) 182 2 v (jn pre).length (kc (jn pre)) ∧ True) ∧ Below w.heap.size w W
theorem JI.own (w : World) (B : Nat) (hB : w.heap.size ≤ B) : OwnFrom B (JI w) :=
  OwnFrom.and (Own.from (holdsRow_own (w.heap.size + 1) w.heap.size 144 182 2 (fun pre : List Win => (jn pre).length) (fun pre => kc (jn pre)) (fun _ _ => True)) B) (ownFrom_below (Nat.le_refl _) hB)
def JA (w : World) (gf : Nat) (lb : Array Value) (x : Win) (a' : Act) (W : World) : Prop :=
  ∃ g, w.heap.size < g ∧ Blk W g 182 [.int .i64 x.1, .int .i64 x.2] ∧ a' = { tmps := #[.func (.func gf) #[] lb, undef, .slice none 0 0, .pointer (some ⟨w.heap.size, 0, none⟩), .pointer (some ⟨g, 0, none⟩), undef, .func (.func gf) #[] lb, .agg #[.int .i64 x.1, .int .i64 x.2], undef, undef, undef, undef, undef, undef, undef, undef, undef, undef, undef, undef, undef, undef, undef, undef, undef, undef, undef, undef, undef, undef, undef, undef, undef, undef, undef, undef, undef, undef, undef, undef], defers := [] }
theorem JA.own (w : World) (gf : Nat) (lb : Array Value) (B : Nat) (x : Win) (a' : Act) : OwnFrom B (fun (_ : Unit) W => JA w gf lb x a' W) := fun _ X Y row ⟨g, h1, h2, h3⟩ hg hrow =>
  ⟨g, h1, h2.grown hg (fun e => by
    obtain ⟨_, o, ho, hc⟩ := hrow g e.symm
    rw [show X.heap[g]? = _ from h2] at ho; cases ho; cases hc), h3⟩
theorem below_undraw {B k : Nat} {w w' : World} (h : Below B (w.drewN k) w') : Below B w w' := ⟨h.os, h.tape, h.output, h.size, h.block⟩
theorem keeps_undraw {k : Nat} {w w' : World} (h : KeepsOthers (w.drewN k) w') : KeepsOthers w w' := ⟨h.size, h.same⟩
theorem own_lower {w : World} {b b' e size n : Nat} {v : Value} {xs : List Value} (h : w.ownsRow b e size v n xs) (hb : b' ≤ b) : w.ownsRow b' e size v n xs := by
  refine ⟨h.1, ?_⟩
  rcases h.2 with h | ⟨g, cap, cur, e1, e2, r⟩
  · exact .inl h
  · exact .inr ⟨g, cap, cur, e1, Nat.le_trans hb e2, r⟩
theorem cells_two (w : World) (t : TypeId) (u v : Value) : ∀ j a, [u, v][j]? = some a → (w.alloc (.cells #[u, v] t)).cell? ((⟨w.heap.size, 0, none⟩ : Addr).add j) = some a := by
  obtain ⟨ad, e, _, h⟩ := lit_rd w #[u, v] t [u, v] rfl (by simp)
  injection e with e
  subst e
  exact h
theorem joined_fin {w W : World} {L : List Win} {v : Value} (hrow : W.ownsRow (w.heap.size + 1) 182 2 v (jn L).length (kc (jn L))) (hB : Below w.heap.size w W) {D : Nat} (o' : Obj) (hK : W.heap[D]? = some (.deferred (some []))) (hD : w.heap.size ≤ D) : WinsNew w (jn L) (.returned v) (W.putObj D o') := by
  have hr2 := ownsRow_putObj hrow o' hK rfl
  obtain ⟨A, c, rfl, hc, hrd⟩ := own_form hr2
  exact ⟨A, _, c, rfl, HH rfl, hc, hrd.more fun b h => ⟨by omega, h.2⟩, hB.trans (belowK_b (w := w) (Nat.le_refl _) W D _ _ hD hK rfl rfl)⟩
/-- a body's row is left so: it goes on -/
theorem joined_fine {w W W' : World} {n0 B m : Nat} {pre : List Win} {a : Act} (hB : B + m ≤ w.heap.size) (hn0 : n0 ≤ w.heap.size) (hk : KeepsOthers W W') (hb : Below w.heap.size W W') (hi : JI w pre W') (Bk : Nat) (Ix : Code → List Win → World → Prop) :
    ownPostG Bk (KpB n0 B m) (JI w) Ix pre W .normal a W' := ⟨hk.from _, KpB.of_below hb hn0 hB, hi⟩
theorem kc_set (q : List Win) (c1 c2 u : Int) : (kc (q ++ [(c1, c2)])).set (q.length * 2 + 1) (.int .i64 u) = kc (q ++ [(c1, u)]) := by
  rw [kc_append, kc_append, List.set_append_right _ _ (by rw [kc_length]; omega), kc_length]
  have e : q.length * 2 + 1 - q.length * 2 = 1 := by omega
  rw [e]; rfl
theorem joined_over {w W : World} {n0 B m k j gr cp : Nat} {pre q : List Win} {c1 c2 u : Int} {x : Win} {a : Act} (hB : B + m ≤ w.heap.size) (hn0 : n0 ≤ w.heap.size) (hb1 : Below w.heap.size w W)
    (hv : Boxed W w.heap.size 144 (.slice (some ⟨gr, 0, none⟩) (k + 1) cp)) (how : W.ownsRow (w.heap.size + 1) 182 2 (.slice (some ⟨gr, 0, none⟩) (k + 1) cp) (k + 1) (kc (q ++ [(c1, c2)]))) (hk : k = q.length)
    (HJ : jn (pre ++ [x]) = q ++ [(c1, u)]) (Bk : Nat) (Ix : Code → List Win → World → Prop) :
    ownPostG Bk (KpB n0 B m) (JI w) Ix (pre ++ [x]) W .normal a ((W.drewN j).setCell ⟨gr, k * 2 + 1, none⟩ (.int .i64 u)) := by
  have hg := (how.lt gr rfl).1
  have how2 : (W.drewN j).ownsRow (w.heap.size + 1) 182 2 (.slice (some ⟨gr, 0, none⟩) (k + 1) cp) (k + 1) (kc (q ++ [(c1, c2)])) := how
  obtain ⟨s1, s2⟩ := how2.stored (k * 2 + 1) (.int .i64 u)
  have hv2 : Boxed (W.drewN j) w.heap.size 144 (.slice (some ⟨gr, 0, none⟩) (k + 1) cp) := hv
  have hb2 : Below w.heap.size W ((W.drewN j).setCell ⟨gr, k * 2 + 1, none⟩ (.int .i64 u)) := below_undraw (k := j) ((Below.refl _ _).setCell (p := ⟨gr, k * 2 + 1, none⟩) (by show w.heap.size ≤ gr; omega) _)
  refine joined_fine hB hn0 (keeps_undraw (k := j) (KeepsOthers.setCell _ _ _)) hb2 ⟨⟨_, hv2.kept s2 (by simp; omega), ?_, trivial⟩, hb1.trans hb2⟩ _ _
  rw [HJ]
  subst hk
  rw [kc_set] at s1
  simpa using s1
theorem joined_in (gf : Nat) (lb : Array Value) (n0 B m : Nat) (L : List Win) (w : World) (eg : ∀ args w, (callFunc gf args).run Tryz.prog w = .ok (.enter gf args) w)
    (hseq : ∀ W, Below w.heap.size w W → SeqStopsK Fence.wide 5 Tryz.prog gf lb encw (KpB n0 B m) (fun ys => ys = L) (fun _ => True) L.length W)
    (hB : B + m ≤ w.heap.size) (hn0 : n0 ≤ w.heap.size) (hL : L.length ≤ 1000000) :
    CallsIn Fence.wide 6 Tryz.prog 202 #[.func (.func gf) #[] lb] w (WinsNew w (jn L)) := by
  refine callsIn_of_wp_marks Tryz.func202 rfl trivial ?_ rfl
  simp only [Tryz.ntmps202, List.size_toArray, List.length_cons, List.length_nil, Nat.reduceAdd, Nat.reduceSub, Array.replicate_succ, Array.replicate_zero, List.push_toArray, List.append_toArray, List.nil_append, List.cons_append]
  gi_wp2
  have bA := Boxed.new w 144 (.slice none 0 0)
  obtain ⟨W0, hW0⟩ : ∃ W0, W0 = w.alloc (.cells #[.slice none 0 0] 144) := ⟨_, rfl⟩
  have hB0 : Below w.heap.size w W0 := by rw [hW0]; exact (Below.refl _ w).alloc (Nat.le_refl _) _
  have hsz : W0.heap.size = w.heap.size + 1 := by rw [hW0]; simp
  rw [← hW0] at bA ⊢
  clear hW0
  refine wpIn_rangeFunc_ownH rfl (by omega) (gf := gf) (lb := lb) rfl trivial eg (hseq W0 hB0) KpB.t
    (fun W l o o' hl h h1 h2 => KpB.of_below (belowK_b (w := W0) (n₀ := w.heap.size) (by omega) W l o o' hl h h1 h2) hn0 hB) (Below.refl _ _) (fun _ => rfl)
    (JI w) (fun _ _ _ => False) (JI.own w _ (by omega)) (fun _ _ _ _ _ hs _ _ => hs)
    ⟨⟨_, bA, World.ownsRow_nil _ _ _ _, trivial⟩, hB0⟩
    (JA w gf lb) (fun x a' => JA.own w gf lb _ x a') ?assign ?body ?done ?stop
  case assign =>
    rintro l pre x W K ⟨⟨v, hv, hrow, _⟩, hB1⟩ hK
    have hlt := hv.lt
    dsimp only [encw]
    gi_wp2
    refine hK _ _ ((KeepsOthers.alloc _ _).from _) (KpB.of_below ((Below.refl _ W).alloc hB1.size _) hn0 hB) ⟨⟨v, hv.alloc _, hrow.alloc _, trivial⟩, hB1.alloc hB1.size _⟩ ⟨W.heap.size, hlt, Blk.new W _ _, rfl⟩
  case body =>
    rintro l pre x a' W hl ⟨r, hr⟩ ⟨⟨v, hv, hrow, _⟩, hB1⟩ ⟨g, hg, hX, rfl⟩ hlt
    have hcv := hv.cell
    have hfv := hv.frozen
    have hx0 := hX.cell 0
    have hx1 := hX.cell 1
    simp only [List.getElem?_cons_zero, List.getElem?_cons_succ] at hx0 hx1
    have hpl := jn_length pre
    have hsl := hB1.size
    obtain ⟨i0, hi, hz0, hz1, hz2⟩ := info_parts info_win
    have HSZ : Hid (w.heap.size + 1 ≤ W.heap.size) := HH (by have := hv.lt; omega)
    have HW1 := HH hB1
    have HBX : Hid (∀ k, Boxed (W.drewN k) w.heap.size 144 v) := HH fun _ => hv
    obtain ⟨x1, x2⟩ := x
    dsimp only at hx0 hx1
    rcases List.eq_nil_or_concat (jn pre) with hq | ⟨q, c, hq⟩
    · rw [hq] at hrow
      have HOW : Hid (∀ k, (W.drewN k).ownsRow (w.heap.size + 1) 182 2 v 0 []) := HH fun _ => hrow
      have HJ : Hid (jn (pre ++ [(x1, x2)]) = [(x1, x2)]) := HH (by rw [jn_snoc, hq]; rfl)
      obtain ⟨A, cp, rfl, _, _⟩ := own_form (HOW.out 0)
      clear hrow hv hX hq
      gi_wp2
      refine region_round mixed (by kernel_rfl) (by kernel_rfl) ?_
      repeat (gi_big_quiet_step (fail))
      refine wpQuietIn_nil ?_
      intro _ hw'
      obtain ⟨nq, hw''⟩ := hw'
      subst hw''
      gi_wp2_with (gi_at_builtin; refine stop ?_)
      unfold Stop
      refine wpListIn_append_own ((W.drewN nq).alloc (.cells #[.int .i64 x1, .int .i64 x2] 182)) rfl (.tmp 35) (.tmp 37) 144 rfl (w.heap.size + 1) 182 i0 _ 2 16 Tryz.underlying144 hi hz0 hz1 hz2 rfl (by decide) _ _ _ rfl ((HOW.out nq).alloc _) ⟨(W.drewN nq).heap.size, 0, none⟩ 1 1 [.int .i64 x1, .int .i64 x2] rfl rfl (cells_two (W.drewN nq) _ _ _) (by simp [Value.oneCell']) (by simp only [maxLen]; omega) (by omega) (by have := HSZ.out; simp; omega) ?_
      intro v' w3 hown' hg3 _
      obtain ⟨g', cap', rfl⟩ := ownsRow_succ hown'
      have AP := (HBX.out nq).appended (n₀ := w.heap.size) (by decide) (own_lower (HOW.out nq) (by omega)) (by have := HSZ.out; show w.heap.size ≤ W.heap.size; omega) (Nat.le_refl _) (own_lower hown' (by omega)) hg3
      have AS := hown'.kept (grownBy_setCell' w3 w.heap.size (.slice (some ⟨g', 0, none⟩) (0 + 1) cap')) (.inr (AP.1.not_row (by decide) hown').symm)
      have c3 := AP.1.cell
      have f3 := AP.1.frozen
      have AK := HH AP
      have AL := HH AS
      clear AP AS hown' hg3
      gi_wp2
      exact joined_fine hB hn0 (keeps_undraw AK.out.2.2.2.1) (below_undraw AK.out.2.2.2.2) ⟨⟨_, AK.out.2.1, by rw [HJ.out]; exact AL.out, trivial⟩, HW1.out.trans (below_undraw AK.out.2.2.2.2)⟩ _ _
    · rw [List.concat_eq_append] at hq
      have hql : q.length + 1 ≤ 1000000 := by rw [hq] at hpl; simp at hpl; omega
      rw [hq] at hrow
      have hrow2 : W.ownsRow (w.heap.size + 1) 182 2 v (q.length + 1) (kc (q ++ [c])) := by simpa using hrow
      have HOW : Hid (∀ k, (W.drewN k).ownsRow (w.heap.size + 1) 182 2 v (q.length + 1) (kc (q ++ [c]))) := HH fun _ => hrow2
      obtain ⟨gr, cp, rfl⟩ := ownsRow_succ (HOW.out 0)
      obtain ⟨c1, c2⟩ := c
      have hat := kc_at (q ++ [(c1, c2)]) q.length (c1, c2) (by simp)
      have hc0 := (hrow2.cellAt (q.length * 2) (by omega)).trans hat.1
      have hc1 := (hrow2.cellAt (q.length * 2 + 1) (by omega)).trans hat.2
      have hf1 := hrow2.frozenAt (q.length * 2 + 1)
      obtain ⟨k, hk⟩ : ∃ k, k = q.length := ⟨_, rfl⟩
      have HK := HH hk
      rw [← hk] at hc0 hc1 hf1 HOW hcv HBX hql
      clear hrow hrow2 hv hX hat hk
      have hk0 : (0 : Int) ≤ (k : Int) := by omega
      have hk1 : (k : Int) < (k : Int) + 1 := by omega
      dsimp only at hc1
      by_cases hov : x1 ≤ c2
      · have HJ : Hid (jn (pre ++ [(x1, x2)]) = q ++ [(c1, max c2 x2)]) := HH (by rw [jn_snoc, hq, jstep_last, if_pos hov])
        have dov : decide (x1 ≤ c2) = true := decide_eq_true hov
        clear hq
        gi_wp2
        refine region_round mixed (by kernel_rfl) (by kernel_rfl) ?_
        repeat (gi_big_quiet_step (fail))
        refine wpQuietIn_nil ?_
        intro _ hw'
        obtain ⟨nq, hw''⟩ := hw'
        subst hw''
        gi_wp2
        refine region_tail 12 (fun ⟨_, _, h⟩ => h) mixed (by kernel_rfl) (by kernel_rfl) ?_
        simp only [List.take_succ_cons, List.take_zero, List.drop_succ_cons, List.drop_zero]
        change wpStill _ _ (W.drewN (nq + 1)) (fun a' => wpList _ _ _ _ a' (W.drewN (nq + 1))) _ _
        iterate 12 still_step
        refine wpStill_nil ?_
        change wpList _ _ _ _ _ (W.drewN (nq + 1))
        go_wp2
        · exact joined_over hB hn0 HW1.out (HBX.out 0) (HOW.out 0) HK.out (by rw [HJ.out, Int.max_eq_right (by omega)]) _ _
        · exact joined_over hB hn0 HW1.out (HBX.out 0) (HOW.out 0) HK.out (by rw [HJ.out, Int.max_eq_left (by omega)]) _ _
      · have HJ : Hid (jn (pre ++ [(x1, x2)]) = q ++ [(c1, c2)] ++ [(x1, x2)]) := HH (by rw [jn_snoc, hq, jstep_last, if_neg hov])
        have dov : decide (x1 ≤ c2) = false := decide_eq_false hov
        clear hq
        gi_wp2
        refine region_round mixed (by kernel_rfl) (by kernel_rfl) ?_
        repeat (gi_big_quiet_step (fail))
        refine wpQuietIn_nil ?_
        intro _ hw'
        obtain ⟨nq, hw''⟩ := hw'
        subst hw''
        gi_wp2_with (gi_at_builtin; refine stop ?_)
        unfold Stop
        refine wpListIn_append_own ((W.drewN nq).alloc (.cells #[.int .i64 x1, .int .i64 x2] 182)) rfl (.tmp 35) (.tmp 37) 144 rfl (w.heap.size + 1) 182 i0 _ 2 16 Tryz.underlying144 hi hz0 hz1 hz2 rfl (by decide) _ _ _ rfl ((HOW.out nq).alloc _) ⟨(W.drewN nq).heap.size, 0, none⟩ 1 1 [.int .i64 x1, .int .i64 x2] rfl rfl (cells_two (W.drewN nq) _ _ _) (by simp [Value.oneCell']) (by simp only [maxLen]; omega) (by omega) (by have := HSZ.out; simp; omega) ?_
        intro v' w3 hown' hg3 _
        obtain ⟨g', cap', rfl⟩ := ownsRow_succ hown'
        have AP := (HBX.out nq).appended (n₀ := w.heap.size) (by decide) (own_lower (HOW.out nq) (by omega)) (by have := HSZ.out; show w.heap.size ≤ W.heap.size; omega) (Nat.le_refl _) (own_lower hown' (by omega)) hg3
        have AS := hown'.kept (grownBy_setCell' w3 w.heap.size (.slice (some ⟨g', 0, none⟩) (k + 1 + 1) cap')) (.inr (AP.1.not_row (by decide) hown').symm)
        have c3 := AP.1.cell
        have f3 := AP.1.frozen
        have AK := HH AP
        have AL := HH AS
        clear AP AS hown' hg3
        gi_wp2
        exact joined_fine hB hn0 (keeps_undraw AK.out.2.2.2.1) (below_undraw AK.out.2.2.2.2) ⟨⟨_, AK.out.2.1, by rw [HJ.out]; rw [kc_append]; simp only [List.length_append, List.length_cons, List.length_nil, ← HK.out]; exact AL.out, trivial⟩, HW1.out.trans (below_undraw AK.out.2.2.2.2)⟩ _ _
  case done =>
    rintro D ys W hD rfl ⟨⟨v, hv, hrow, _⟩, hB1⟩ hK
    have hcv := hv.cell
    gi_wp2
    refine ⟨by simp, .inl ⟨_, _, rfl, run_takeDeferred hK, ?_⟩⟩
    refine ⟨_, results_tmp rfl _ _ _, ?_⟩
    exact joined_fin hrow hB1 _ hK (Nat.le_trans (by omega) hD)
  case stop =>
    rintro D c pre W _ _ h _
    exact h.elim
end Go.Proofs.YtfefnfifeaihhaaGreat.Wn
namespace Go.Proofs.YtfefnfifeaihhaaGreat.Wn
open Go.ChangeShapes Go.WideShapes Go.ChangeAt Go.RowKit Go.Shelf
attribute [local go_sem] Oper.semAt_some
theorem Rd.grow {w w' : World} {n0 : Nat} {A : Option Addr} {xs : List Value} (h : Rd w' (fun b => w.heap.size ≤ b ∧ b < w'.heap.size) A xs) (h0 : n0 ≤ w.heap.size) : Rd w' (fun b => n0 ≤ b ∧ b < w'.heap.size) A xs := h.more fun b hb => ⟨by omega, hb.2⟩
theorem WinsNew.after {w w1 : World} {l : List Win} {e : Ending} {w' : World} (h : WinsNew w1 l e w') (hb : Below w.heap.size w w1) : WinsNew w l e w' := by
  obtain ⟨A, n, c, rfl, h1, h2, h3, h4⟩ := h
  exact ⟨A, n, c, rfl, h1, h2, h3.grow hb.size, below_then hb h4 hb.size⟩
end Go.Proofs.YtfefnfifeaihhaaGreat.Wn
namespace Go.Proofs.YtfefnfifeaihhaaGreat.Wn
open Go.ChangeShapes Go.WideShapes Go.ChangeAt Go.RowKit Go.Shelf
attribute [local go_sem] Oper.semAt_some
/-- Wins tells its row, in memory of its own, and its error -/
def WinsE (w : World) (l : List Win) (x : Int) (e : Ending) (w' : World) : Prop :=
  ∃ (A : Option Addr) (n c : Nat), e = .returned (.tuple #[.slice A n c, .int .i64 x]) ∧ Hid (n = l.length) ∧ n ≤ c ∧ Rd w' (fun b => w.heap.size ≤ b ∧ b < w'.heap.size) A (kc l) ∧ Below w.heap.size w w'
theorem WinsE.no {w w' : World} {l : List Win} {x y : Int} (hb : Below w.heap.size w w') (hl : l = []) (hx : y = x) : WinsE w l x (.returned (.tuple #[.slice none 0 0, .int .i64 y])) w' := by
  subst hl; subst hx
  exact ⟨none, 0, 0, rfl, HH rfl, Nat.le_refl _, Rd.none_, hb⟩
theorem first_at {t : Tm} {h : Int} (hw : we t h = 0) : ∀ i : Nat, i < (cn t h).toNat → Tk.atV t.f t.e i = t.f + t.e * i ∧ Tk.atE t.f t.e i = 0 ∧ 0 ≤ t.f + t.e * i ∧ t.f + t.e * i ≤ 1099511627776 := by
  intro i hi
  obtain ⟨hc, hh, hn⟩ := we_ok hw
  have hk := ck_ok hc
  have hn0 := cn_nonneg (h := h) hc
  have hle := cn_at hc (h := h) (i := i) (by omega)
  have ht := (tick_iff h).1 hh
  have h0 : 0 ≤ t.e * (i : Int) := Int.mul_nonneg (by omega) (by omega)
  by_cases he : t.e = 0
  · have hi0 : i = 0 := by
      have : cn t h ≤ 1 := by unfold cn; simp only [he, if_true]; split <;> omega
      omega
    subst hi0
    simp [Tk.atV, Tk.atE, he]; omega
  · have e1 : (0 ≤ t.f ∧ t.f ≤ 1099511627776) ∧ (0 ≤ t.e ∧ t.e ≤ 1099511627776) ∧ 0 ≤ (i : Int) := ⟨by omega, by omega, by omega⟩
    refine ⟨?_, ?_, by omega, by omega⟩
    · unfold Tk.atV; rw [if_pos e1, if_neg he, if_pos (by omega)]
    · unfold Tk.atE; rw [if_pos e1, if_neg he, if_pos (by omega)]
theorem count_cn {t : Tm} {h : Int} (hc : ck t = 0) (hh : tick h = true) : Tk.countV t.f t.e h = cn t h := by
  have hk := ck_ok hc
  have ht := (tick_iff h).1 hh
  unfold Tk.countV cn
  by_cases h1 : t.f > h
  · rw [if_neg (by omega), if_pos h1]
  · rw [if_pos ⟨⟨by omega, by omega⟩, ⟨by omega, by omega⟩, ⟨by omega, by omega⟩, by omega⟩, if_neg h1]
/-- joined behind the iterator that has just been made -/
theorem joined_first (w : World) (t : Tm) (h : Int) (hw : we t h = 0) :
    Calls Tryz.prog 202 #[.func (.func 207) #[] #[.pointer (some ⟨w.heap.size + 1, 0, none⟩), .pointer (some ⟨w.heap.size, 0, none⟩)]]
      ((w.alloc (.cells #[.int .i64 t.f, .int .i64 t.e, .int .i64 t.l] 95)).alloc (.cells #[.int .i64 (cn t h)] 2)) (WinsNew w (wn t h)) := by
  obtain ⟨hc, hh, hn⟩ := we_ok hw
  have hk := ck_ok hc
  have hn0 := cn_nonneg (h := h) hc
  obtain ⟨W, hW⟩ : ∃ W, W = (w.alloc (.cells #[.int .i64 t.f, .int .i64 t.e, .int .i64 t.l] 95)).alloc (.cells #[.int .i64 (cn t h)] 2) := ⟨_, rfl⟩
  have hb : Below w.heap.size w W := by rw [hW]; exact ((Below.refl _ w).alloc (Nat.le_refl _) _).alloc (by simp) _
  have hs : W.heap.size = w.heap.size + 2 := by rw [hW]; simp
  have b0 : Blk W w.heap.size 95 [.int .i64 t.f, .int .i64 t.e, .int .i64 t.l] := by rw [hW]; exact (Blk.new w _ [.int .i64 t.f, .int .i64 t.e, .int .i64 t.l]).alloc _
  have b1 : Blk W (w.heap.size + 1) 2 [.int .i64 ((cn t h).toNat : Int)] := by
    rw [hW, Int.toNat_of_nonneg hn0]
    have := Blk.new (w.alloc (.cells #[.int .i64 t.f, .int .i64 t.e, .int .i64 t.l] 95)) 2 [.int .i64 (cn t h)]
    rwa [World.size_alloc] at this
  rw [← hW]
  have e1 : wn t h = jn (ws t (cn t h).toNat) := by rw [wn, if_pos hw]
  rw [e1]
  refine (callsIn_wide.1 (joined_in _ _ w.heap.size w.heap.size 2 (ws t (cn t h).toNat) W (enters_of Tryz.func207 (by kernel_rfl) rfl) (fun W' hW' => ?_) (by omega) (by omega) (by rw [ws_length]; omega))).mono fun e w' h => WinsNew.after h hb
  have := first_stops w.heap.size w.heap.size t.f t.e t.l (cn t h).toNat (by omega) ⟨by omega, by omega⟩ (HH (first_at hw)) W' (b0.below hW' b0.lt) (b1.below hW' b1.lt)
  rw [ws_length]
  exact this
theorem wins_any (t : Tm) (h : Int) (w : World) : Calls Tryz.prog 195 #[tv t, .int .i64 h] w (WinsE w (wn t h) (we t h)) := by
  have HBA : Hid (Below w.heap.size w (w.alloc (.cells #[.int .i64 t.f, .int .i64 t.e, .int .i64 t.l] 95))) := HH ((Below.refl _ w).alloc (Nat.le_refl _) _)
  have C1 : Hid (∀ W, Calls Tryz.prog 201 #[.agg #[.int .i64 t.f, .int .i64 t.e, .int .i64 t.l]] W fun e w' => e = .returned (.int .i64 (ck t)) ∧ Below W.heap.size W w') := HH fun W => check_any t W
  have bT := Blk.new w 95 [.int .i64 t.f, .int .i64 t.e, .int .i64 t.l]
  have HT : Hid (∀ W, Below (w.alloc (.cells #[.int .i64 t.f, .int .i64 t.e, .int .i64 t.l] 95)).heap.size (w.alloc (.cells #[.int .i64 t.f, .int .i64 t.e, .int .i64 t.l] 95)) W → W.cell? ⟨w.heap.size, 0, none⟩ = some (.int .i64 t.f) ∧ W.cell? ⟨w.heap.size, 1, none⟩ = some (.int .i64 t.e) ∧ W.cell? ⟨w.heap.size, 2, none⟩ = some (.int .i64 t.l)) := HH fun W hW => by
    have hb := bT.after hW
    exact ⟨hb.cell 0, hb.cell 1, hb.cell 2⟩
  have HJF : Hid (∀ W, Below w.heap.size w W → we t h = 0 → Calls Tryz.prog 202 #[.func (.func 207) #[] #[.pointer (some ⟨W.heap.size + 1, 0, none⟩), .pointer (some ⟨W.heap.size, 0, none⟩)]]
      ((W.alloc (.cells #[.int .i64 t.f, .int .i64 t.e, .int .i64 t.l] 95)).alloc (.cells #[.int .i64 (cn t h)] 2)) (WinsNew w (wn t h))) := HH fun W hW h0 => (joined_first W t h h0).mono fun e w' h => WinsNew.after h hW
  clear bT
  show Calls Tryz.prog 195 #[.agg #[.int .i64 t.f, .int .i64 t.e, .int .i64 t.l], .int .i64 h] w _
  by_cases hc : ck t = 0
  · rw [hc] at C1
    have hfst : ∀ W, Calls Tryz.prog 203 _ W _ := fun W => first_any t.f t.e t.l (cn t h) W
    have HF := HH hfst
    clear hfst
    by_cases hh : tick h = true
    · have h' := (tick_iff h).1 hh
      have hcv := count_cn hc hh
      have CC : Hid (∀ W, Calls Tryz.prog 69 #[.int .i64 t.f, .int .i64 t.e, .int .i64 h] W fun e w' => e = .returned (.int .i64 (cn t h)) ∧ W = w') := HH fun W => by
        have := Tk.count_any t.f t.e h W; rw [hcv] at this; exact this
      clear hcv
      by_cases hn : 256 < cn t h
      · have HE : Hid (we t h = 3) := HH (by unfold we; rw [if_neg (by omega), if_neg (by simp [hh]), if_pos hn])
        have HL : Hid (wn t h = []) := HH (by unfold wn; rw [if_neg (by rw [HE.out]; omega)])
        obtain ⟨f, s, l⟩ := t
        dsimp only at C1 HT CC HF HJF HBA
        obtain ⟨k, hk⟩ : ∃ k, k = cn ⟨f, s, l⟩ h := ⟨_, rfl⟩
        rw [← hk] at CC hn
        clear HF HJF hk
        go_enter Tryz.func195, Tryz.ntmps195
        go_wp2_with (first | (go_at_call 201; with_reducible refine (C1.out _).mono ?_; rintro e w1 ⟨rfl, hb1⟩; obtain ⟨t0, t1, t2⟩ := HT.out w1 hb1) | (go_at_call 70; with_reducible refine (Tk.check_ok h w1 h'.1 h'.2).mono ?_; rintro e w2 ⟨rfl, rfl⟩) | (go_at_call 69; with_reducible refine (CC.out _).mono ?_; rintro e w3 ⟨rfl, rfl⟩) | fail)
        go_ret2
        exact WinsE.no (below_then HBA.out hb1 HBA.out.size) HL.out HE.out.symm
      · have HE : Hid (we t h = 0) := HH (by unfold we; rw [if_neg (by omega), if_neg (by simp [hh]), if_neg hn])
        have HJ : Hid (∀ W, Below w.heap.size w W → _) := HH fun W hW => HJF.out W hW HE.out
        obtain ⟨f, s, l⟩ := t
        dsimp only at C1 HT CC HF HJ HBA
        obtain ⟨k, hk⟩ : ∃ k, k = cn ⟨f, s, l⟩ h := ⟨_, rfl⟩
        rw [← hk] at CC hn HF HJ
        clear HJF hk
        go_enter Tryz.func195, Tryz.ntmps195
        go_wp2_with (first | (go_at_call 201; with_reducible refine (C1.out _).mono ?_; rintro e w1 ⟨rfl, hb1⟩; obtain ⟨t0, t1, t2⟩ := HT.out w1 hb1; have hb2 := below_then HBA.out hb1 HBA.out.size) | (go_at_call 70; with_reducible refine (Tk.check_ok h w1 h'.1 h'.2).mono ?_; rintro e w2 ⟨rfl, rfl⟩) | (go_at_call 69; with_reducible refine (CC.out _).mono ?_; rintro e w3 ⟨rfl, rfl⟩) | (go_at_call 203; with_reducible refine (HF.out _).mono ?_; rintro e w4 ⟨rfl, rfl⟩) | (go_at_call 202; refine (HJ.out _ hb2).mono ?_; rintro e w5 ⟨A5, n5, c5, rfl, hn5, hc5, hr5, hb5⟩) | fail)
        go_ret2
        exact ⟨A5, n5, c5, by rw [HE.out]; rfl, hn5, hc5, hr5, hb5⟩
    · have h' : h < 0 ∨ 1099511627776 < h := by
        have h2 : ¬ (0 ≤ h ∧ h ≤ 1099511627776) := fun h' => hh ((tick_iff h).2 h')
        omega
      have HE : Hid (we t h = 9) := HH (by unfold we; rw [if_neg (by omega), if_pos (by simpa using hh)])
      have HL : Hid (wn t h = []) := HH (by unfold wn; rw [if_neg (by rw [HE.out]; omega)])
      obtain ⟨f, s, l⟩ := t
      dsimp only at C1 HT HF HJF HBA
      clear HF HJF
      go_enter Tryz.func195, Tryz.ntmps195
      go_wp2_with (first | (go_at_call 201; with_reducible refine (C1.out _).mono ?_; rintro e w1 ⟨rfl, hb1⟩) | (go_at_call 70; with_reducible refine (Tk.check_bad h w1 h').mono ?_; rintro e w2 ⟨rfl, rfl⟩) | fail)
      go_ret2
      exact WinsE.no (below_then HBA.out hb1 HBA.out.size) HL.out HE.out.symm
  · have HE : Hid (we t h = ck t) := HH (by unfold we; rw [if_pos hc])
    have HL : Hid (wn t h = []) := HH (by unfold wn; rw [if_neg (by rw [HE.out]; exact hc)])
    obtain ⟨f, s, l⟩ := t
    dsimp only at C1 HT HJF HBA
    obtain ⟨k, hk⟩ : ∃ k, k = ck ⟨f, s, l⟩ := ⟨_, rfl⟩
    have HK := HH hk
    rw [← hk] at C1 hc
    have hkn : (k == 0) = false := by simpa using hc
    clear HJF hk
    go_enter Tryz.func195, Tryz.ntmps195
    go_wp2_with (first | (go_at_call 201; with_reducible refine (C1.out _).mono ?_; rintro e w1 ⟨rfl, hb1⟩) | fail)
    go_ret2
    exact WinsE.no (below_then HBA.out hb1 HBA.out.size) HL.out (by rw [HE.out, HK.out])
end Go.Proofs.YtfefnfifeaihhaaGreat.Wn
