/- Package lex's Lines: the lines of a row of tokens, each in memory of its own. Conditions: the row holds fewer than a million tokens. -/
import Derived.Test.YtgcphhialllieaaDoorLexSeq
import Derived.RangeFuncNested
import Derived.RangeFuncCalls
import Derived.Shelf.RegionOpen
namespace Go.Proofs.YtgcphhialllieaaDoor.Lx
open Go.ChangeShapes Go.WideShapes Go.ChangeAt Go.RowKit Go.Shelf
set_option linter.unusedVariables false

theorem clone_row (w : World) (ad : Addr) (n c : Nat) (zs : List Tok) (hn : Hid (n = zs.length)) (hN : n ≤ 1000000) (hx : Rd w (· < w.heap.size) (some ad) (tc zs)) :
    Calls Tryd.prog 27 #[.slice (some ad) n c] w fun e w' => ∃ A c', e = .returned (.slice A n c') ∧ w'.ownsRow w.heap.size 31 5 (.slice A n c') n (tc zs) ∧ Below w.heap.size w w' := by
  have hx' : Rd (w.alloc (.cells #[] 31)) (· < w.heap.size) (some ad) (tc zs) := hx.keep fun b hb => Below.heap_alloc w _ b hb
  have HX := Lib.hid hx'
  have hl : Hid ((tc zs).length = n * 5) := by show _ = _; rw [tc_length, hn.out]
  have qT := fun (w : World) (a : Option Addr) (n c n' c' : Nat) => Lib.run_eql_slice_nil (P := Tryd.prog) w 22 _ a n c n' c' Tryd.underlying22
  clear hx hx'
  go_enter Tryd.func27, Tryd.ntmps27
  go_wp2_with (at_builtin; refine wpList_append_rd rfl (.tmp 5) (.tmp 6) 22 rfl w.heap.size 31 _ 5 48 Tryd.underlying22 info_tok rfl (by omega) (by omega) _ 0 [] rfl (own_empty (Nat.le_refl _)) _ (some ad) n c (tc zs) rfl hl.out HX.out (tc_one zs) (by omega) (by simp) ?_; intro v' w1 hown hbel)
  obtain ⟨B, d, hv, hnd, hrd⟩ := own_form hown.out
  have ho := hown.out
  simp only [Nat.zero_add, List.nil_append] at hv ho
  subst hv
  go_ret
  exact ⟨B, d, rfl, ho, ((Below.refl _ _).alloc (Nat.le_refl _) _).trans hbel.out⟩
theorem lines_any (A : Option Addr) (n c : Nat) (w : World) :
    Calls Tryd.prog 26 #[.slice A n c] w fun e w' => e = .returned (.func (.func 37) #[] #[.pointer (some ⟨w.heap.size, 0, none⟩)]) ∧ w' = w.alloc (.cells #[.slice A n c] 22) := by
  go_enter Tryd.func26, Tryd.ntmps26
  go_wp2
  go_ret
  exact ⟨rfl, rfl⟩

theorem info_row : (Tryd.prog.info? 22).map (fun i => (i.zero, i.size, i.bytes)) = some (some (.slice none 0 0), 1, 24) := by kernel_rfl
theorem linesF_count (cur L : List Tok) : (linesF cur L).length ≤ L.length + 1 := by
  induction L generalizing cur with
  | nil => simp only [linesF]; split <;> simp
  | cons t r ih =>
    simp only [linesF]
    split
    · split
      · have := ih []; simp; omega
      · have := ih []; simp; omega
    · have := ih (cur ++ [t]); simp; omega
/-- the rows of lines that have been copied -/
def Got {w0 : World} (n1 : Nat) (W : World) (ss : List Value) (pre : List (Row w0)) : Prop :=
  ∀ (i : Nat) (x : Row w0), pre[i]? = some x → ∃ A c, ss[i]? = some (.slice A x.toks.length c) ∧ W.ownsRow n1 31 5 (.slice A x.toks.length c) x.toks.length (tc x.toks)
theorem Got.kept {w0 : World} {n1 : Nat} {W W' : World} {ss : List Value} {pre : List (Row w0)} (h : Got n1 W ss pre) {row : Option Nat} (hg : W.grownBy W' row) (hr : ∀ r, row = some r → ∀ cur, W.heap[r]? ≠ some (.cells cur 31 (0, 0))) : Got n1 W' ss pre := fun i x hx => by
  obtain ⟨A, c, hs, ho⟩ := h i x hx
  refine ⟨A, c, hs, ho.kept hg ?_⟩
  rcases ho.2 with ⟨e, _⟩ | ⟨g, cap, cur, e, _, hgb, _⟩
  · exact .inl (by rw [e]; rfl)
  · refine .inr fun e' => ?_
    rw [e] at e'
    exact hr g (by simpa [Value.ownBlock] using e'.symm) _ hgb
theorem Got.below {w0 : World} {n1 : Nat} {W W' : World} {ss : List Value} {pre : List (Row w0)} (h : Got n1 W ss pre) (hb : Below W.heap.size W W') : Got n1 W' ss pre :=
  h.kept ⟨hb.os, hb.tape, hb.output, hb.size, fun k hk _ => hb.block k hk⟩ (row := none) (by simp)
theorem Got.snoc {w0 : World} {n1 : Nat} {W : World} {ss : List Value} {pre : List (Row w0)} (h : Got n1 W ss pre) (hl : ss.length = pre.length) (x : Row w0) (A : Option Addr) (c : Nat) (ho : W.ownsRow n1 31 5 (.slice A x.toks.length c) x.toks.length (tc x.toks)) : Got n1 W (ss ++ [.slice A x.toks.length c]) (pre ++ [x]) := fun i y hy => by
  by_cases hi : i < pre.length
  · rw [List.getElem?_append_left hi] at hy
    rw [List.getElem?_append_left (by omega)]
    exact h i y hy
  · rw [List.getElem?_append_right (by omega)] at hy
    rw [List.getElem?_append_right (by omega), hl]
    cases hk : i - pre.length with
    | zero => rw [hk] at hy; simp at hy; subst hy; exact ⟨A, c, by simp, ho⟩
    | succ k => rw [hk] at hy; simp at hy

def LI (w0 w : World) (n1 : Nat) (pre : List (Row w0)) (W : World) : Prop := n1 ≤ W.heap.size ∧
  (∃ v ss, Boxed W w.heap.size 36 v ∧ W.ownsRow n1 22 1 v pre.length ss ∧ ss.length = pre.length ∧ Got n1 W ss pre) ∧ Below w.heap.size w W
theorem LI.own (w0 w : World) (n1 B : Nat) (hB : w.heap.size ≤ B) : OwnFrom B (LI w0 w n1) := fun pre X Y row ⟨hsz, ⟨v, ss, hv, hr, hl, hG⟩, hb⟩ hg hrow => by
  have hc : ∀ r, row = some r → ∀ o, X.heap[r]? = some o → o.isCells = false := fun r e o ho => by
    obtain ⟨_, o', ho', hc⟩ := hrow r e
    rw [ho] at ho'; cases ho'; exact hc
  refine ⟨Nat.le_trans hsz hg.size, ⟨v, ss, hv.kept hg (fun e' => ?_), hr.kept hg ?_, hl, hG.kept hg fun r e cur h => ?_⟩, ownFrom_below (Nat.le_refl _) hB pre X Y row hb hg hrow⟩
  · have := hc _ e'.symm _ hv; cases this
  · rcases hr.2 with ⟨rfl, _⟩ | ⟨g, cap, cur, rfl, _, hgb, _⟩
    · exact .inl rfl
    · refine .inr fun e' => ?_
      have := hc g (by simpa [Value.ownBlock] using e'.symm) _ hgb
      cases this
  · have := hc r e _ h; cases this

theorem own_lower {w : World} {b b' e size n : Nat} {v : Value} {xs : List Value} (h : w.ownsRow b e size v n xs) (hb : b' ≤ b) : w.ownsRow b' e size v n xs := by
  refine ⟨h.1, ?_⟩
  rcases h.2 with h | ⟨g, cap, cur, e1, e2, r⟩
  · exact .inl h
  · exact .inr ⟨g, cap, cur, e1, Nat.le_trans hb e2, r⟩
theorem LI_step {w W w1 w2 : World} {n1 : Nat} (hn1 : n1 = w.heap.size + 2) (hnW : n1 ≤ W.heap.size) {pre : List (Row w)} {x : Row w} {v v' : Value} {ss : List Value} (hv : Boxed W w.heap.size 36 v) (hrow : W.ownsRow n1 22 1 v pre.length ss) (hl : ss.length = pre.length) (hG : Got n1 W ss pre)
    (hB : Below w.heap.size w W) (hb1 : Below W.heap.size W w1) {A : Option Addr} {c : Nat} (ho : w1.ownsRow W.heap.size 31 5 (.slice A x.toks.length c) x.toks.length (tc x.toks)) {o : Obj}
    (hown' : w2.ownsRow n1 22 1 v' (pre.length + 1) (ss ++ [.slice A x.toks.length c])) (hgrow : (w1.alloc o).grownBy w2 v.ownBlock) :
    Boxed w2 w.heap.size 36 v ∧ KeepsOthers W (w2.setCell ⟨w.heap.size, 0, none⟩ v') ∧ KpL w.heap.size (w.heap.size + 1) W (w2.setCell ⟨w.heap.size, 0, none⟩ v') ∧ LI w w n1 (pre ++ [x]) (w2.setCell ⟨w.heap.size, 0, none⟩ v') := by
  have g1 : W.grownBy w1 none := ⟨hb1.os, hb1.tape, hb1.output, hb1.size, fun k hk _ => hb1.block k hk⟩
  have hv1 : Boxed w1 w.heap.size 36 v := hv.kept g1 (by simp)
  have hr1 : w1.ownsRow n1 22 1 v pre.length ss := own_after hrow hb1
  have hs1 : W.heap.size ≤ w1.heap.size := hb1.size
  obtain ⟨q1, q2, _, q4, q5⟩ := hv1.appended (n₀ := w.heap.size) (by decide) (own_lower hr1 (by omega)) (by omega) (Nat.le_refl _) (own_lower hown' (by omega)) hgrow
  have k1 : KeepsOthers W w1 := ⟨hb1.size, fun i o h _ => (hb1.block i (Array.getElem?_eq_some_iff.1 h).1).trans h⟩
  have hbig : Below w.heap.size W (w2.setCell ⟨w.heap.size, 0, none⟩ v') := (hb1.mono (by omega)).trans q5
  have hnb : some (w.heap.size + 1) ≠ v.ownBlock := by
    rcases hr1.2 with ⟨rfl, _⟩ | ⟨g, cap, cur, rfl, h, _⟩
    · simp [Value.ownBlock]
    · simp [Value.ownBlock]; omega
  refine ⟨q1, k1.trans q4, ⟨hbig, ?_⟩, Nat.le_trans hnW hbig.size, ⟨v', ss ++ [.slice A x.toks.length c], q2, ?_, by simp [hl], ?_⟩, hB.trans hbig⟩
  · rw [Below.heap_setCell _ _ _ _ (by simp), hgrow.block _ (by simp; omega) hnb, Below.heap_alloc _ _ _ (by omega), hb1.block _ (by omega)]
  · have := hown'.kept (grownBy_setCell' w2 w.heap.size v') (.inr (q1.not_row (by decide) hown').symm)
    simpa using this
  · have G1 : Got n1 w1 (ss ++ [.slice A x.toks.length c]) (pre ++ [x]) := (hG.below hb1).snoc hl x A c (own_lower ho hnW)
    have G2 := G1.kept (World.grownBy_alloc w1 o none) (by simp)
    have G3 := G2.kept hgrow (fun r e cur h => by
      rcases (hr1.alloc o).2 with ⟨rfl, _⟩ | ⟨g, cap, cur', rfl, _, hgb, _⟩
      · simp [Value.ownBlock] at e
      · obtain rfl : g = r := by simpa [Value.ownBlock] using e
        rw [hgb] at h; simp at h)
    exact G3.kept (grownBy_setCell' w2 w.heap.size v') (fun r e cur h => by
      cases e
      rw [show w2.heap[w.heap.size]? = _ from q1] at h; simp at h)

/-- the answer of Lines: the lines that are not empty, each in a row of its own, all made by the call -/
def LinesP (w : World) (zs : List Tok) (e : Ending) (W' : World) : Prop :=
  ∃ (A : Option Addr) (c : Nat) (ss : List Value), e = .returned (.slice A (linesF [] zs).length c) ∧ (linesF [] zs).length ≤ c ∧ ss.length = (linesF [] zs).length ∧ Rd W' (fun b => w.heap.size ≤ b ∧ b < W'.heap.size) A ss ∧
    (∀ (i : Nat) (l : List Tok), (linesF [] zs)[i]? = some l → ∃ (Ai : Option Addr) (ci : Nat), ss[i]? = some (Value.slice Ai l.length ci) ∧ l.length ≤ ci ∧ Rd W' (fun b => w.heap.size ≤ b ∧ b < W'.heap.size) Ai (tc l)) ∧ Below w.heap.size w W'
theorem lines_fin {w W : World} {n1 : Nat} (hn1 : w.heap.size ≤ n1) {zs : List Tok} {ys : List (Row w)} (hys : ys.map Row.toks = linesF [] zs) (hnW : n1 ≤ W.heap.size) {v : Value} {ss : List Value} (hrow : W.ownsRow n1 22 1 v ys.length ss) (hl : ss.length = ys.length) (hG : Got n1 W ss ys)
    (hB : Below w.heap.size w W) {D : Nat} (o' : Obj) (hK : W.heap[D]? = some (.deferred (some []))) (hD : w.heap.size ≤ D) : LinesP w zs (.returned v) (W.putObj D o') := by
  have hr2 := ownsRow_putObj hrow o' hK rfl
  obtain ⟨A, c, rfl, hc, hrd⟩ := own_form hr2
  have hlen : ys.length = (linesF [] zs).length := by rw [← hys]; simp
  have hG2 : Got n1 (W.putObj D o') ss ys := hG.kept (grownBy_putObj' W D o') (fun r e cur h => by cases e; rw [hK] at h; cases h)
  refine ⟨A, c, ss, by rw [hlen], by rw [← hlen]; exact hc, by rw [hl, hlen], hrd.more fun b h => ⟨by omega, h.2⟩, fun i l h => ?_, hB.trans (belowK_b (w := w) (Nat.le_refl _) W D _ _ hD hK rfl rfl)⟩
  rw [← hys, List.getElem?_map] at h
  cases hy : ys[i]? with
  | none => rw [hy] at h; cases h
  | some x =>
    rw [hy] at h
    simp at h
    subst h
    obtain ⟨Ai, ci, h1, h2⟩ := hG2 i x hy
    obtain ⟨A', c', e, hc', hr'⟩ := own_form h2
    cases e
    exact ⟨Ai, ci, h1, hc', hr'.more fun b h => ⟨by omega, h.2⟩⟩

theorem step_append_in {F : Fence} {k : Nat} {P : Program} {w : World} {ops : Array Oper} {o : Oper} {a : Act} {K : Act → World → Prop} {Q : Exit → Act → World → Prop} {E : Prop} (hgd : o.guard = none) (s x : Operand) (t : TypeId)
    (ho : o.op = .call { callee := .builtin .append, args := #[s, x], argTypes := #[t, t] })
    (base : Nat) (e : TypeId) (z : Value) (size bytes : Nat) (ht : P.underlying t = some (.slice e)) (hinfo : (P.info? e).map (fun i => (i.zero, i.size, i.bytes)) = some (some z, size, bytes)) (hzs : z.cells.size = size) (hsz : 0 < size) (hb16 : bytes ≤ 64)
    (v : Value) (n : Nat) (xs : List Value) (hs : a.eval s = v) (hown : w.ownsRow base e size v n xs) (S : Nat → Prop) (A : Option Addr) (m c : Nat) (news : List Value) (hx : a.eval x = .slice A m c) (hl : news.length = m * size) (hr : Rd w S A news) (h1 : ∀ u ∈ news, u.oneCell' = true)
    (hN : n + m ≤ 4000000) (hbase : base ≤ w.heap.size)
    (h : ∀ v' w', w'.ownsRow base e size v' (n + m) (xs ++ news) → w.grownBy w' v.ownBlock → K (a.put o.dst v') w') :
    if Region.wanted o (yielded ops a.tmps) = true then Oper.wpIn F k P o a w K Q else E := by
  have hw : Region.wanted o (yielded ops a.tmps) = true := by simp [Region.wanted, hgd]
  rw [if_pos hw]
  obtain ⟨i, hi, hz, hsize, hby⟩ := info_parts hinfo
  obtain ⟨v', w', hrun, h2, h3, h4⟩ := run_append_rd (P := P) w base t o.type e i z size bytes ht hi hz hsize hby hzs hsz v n xs hown S A m c news hl hr h1 (by simp only [maxLen]; omega)
    (by have : (n + m) * bytes ≤ 4000000 * 64 := Nat.mul_le_mul hN hb16
        omega) hbase
  unfold Oper.wpIn
  refine ⟨?_, ?_⟩
  · simp [Oper.about, ho, resolve, Target.leads, Sem.run_pure]
  · rw [Oper.semAt_plain F _ _ (by rw [ho]; intro c hc'; cases hc')]
    simp only [execOp, ho, resolve, invoke, builtin, Sem.run_bind, Sem.run_pure, Result.andThen_ok, List.map_toArray, List.map_cons, List.map_nil, hs, hx, hrun]
    exact h v' w' h2 h3
theorem rd_lit1 (w : World) (t : TypeId) (u : Value) : Rd (w.alloc (.cells #[u] t)) (fun _ => True) (some ⟨w.heap.size, 0, none⟩) [u] := by
  have := (Blk.new w t [u]).rd (S := fun _ => True) trivial 0
  simpa using this

attribute [local go_sem] Oper.semAt_some
set_option maxRecDepth 100000 in
set_option maxHeartbeats 2000000 in
theorem Lines_any (A : Option Addr) (n c : Nat) (zs : List Tok) (hn : Hid (n = zs.length)) (hc : n ≤ c) (hN : n ≤ 1000000) (w : World) (hx : Rd w (· < w.heap.size) A (tc zs)) :
    Calls Tryd.prog 16 #[.slice A n c] w (LinesP w zs) := by
  refine (callsIn_wide (n := 6)).1 ?_
  refine callsIn_of_wp_marks Tryd.func16 rfl trivial ?_ rfl
  simp only [Tryd.ntmps16, List.size_toArray, List.length_cons, List.length_nil, Nat.reduceAdd, Nat.reduceSub, Array.replicate_succ, Array.replicate_zero, List.push_toArray, List.append_toArray, List.nil_append, List.cons_append]
  gi_wp2_with (refine ⟨trivial, ?_⟩; gi_at_call 26; refine (callsIn_wide.2 (lines_any _ _ _ _)).mono ?_; rintro e w' ⟨rfl, rfl⟩)
  have bA := Boxed.new w 36 (.slice none 0 0)
  have bN := Boxed.new (w.alloc (.cells #[.slice none 0 0] 36)) 22 (.slice A n c)
  rw [World.size_alloc] at bN
  obtain ⟨W0, hW0⟩ : ∃ W0, W0 = (w.alloc (.cells #[.slice none 0 0] 36)).alloc (.cells #[.slice A n c] 22) := ⟨_, rfl⟩
  have hB0 : Below w.heap.size w W0 := by rw [hW0]; exact ((Below.refl _ w).alloc (Nat.le_refl _) _).alloc (by simp) _
  have hsz : W0.heap.size = w.heap.size + 2 := by rw [hW0]; simp
  have bA0 : Boxed W0 w.heap.size 36 (.slice none 0 0) := by rw [hW0]; exact bA.alloc _
  rw [← hW0] at bN ⊢
  clear bA hW0
  refine wpIn_rangeFunc_ownG rfl (by omega) (gf := 37) (lb := #[.pointer (some ⟨w.heap.size + 1, 0, none⟩)]) rfl trivial (enters_of Tryd.func37 (by kernel_rfl) rfl)
    (lines_stops Fence.wide 5 trivial rfl (by omega) (w.heap.size + 1) w W0 A n c zs hn hc hN hx hB0 bN.cell (by omega)) KpL.t
    (fun W l o o' hl h _ _ => ⟨belowK_b (w := W0) (by omega) W l o o' hl h ‹_› ‹_›, World.putObj_heap_other (by omega)⟩) (Below.refl _ _) (fun _ => rfl)
    (LI w w W0.heap.size) (fun _ _ _ => False) (LI.own w w _ _ (by omega)) (fun _ _ _ _ _ hs _ _ => hs)
    ⟨Nat.le_refl _, ⟨_, [], bA0, World.ownsRow_nil _ _ _ _, rfl, fun i x hx => by simp at hx⟩, hB0⟩
    (fun x => { tmps := #[.slice A n c, undef, .slice none 0 0, .pointer (some ⟨w.heap.size, 0, none⟩), .slice x.addr x.len x.cap, .slice A n c, .func (.func 37) #[] #[.pointer (some ⟨w.heap.size + 1, 0, none⟩)], .slice x.addr x.len x.cap, undef, undef, undef, undef, undef, undef], defers := [] }) ?assign ?body ?done ?stop
  case assign =>
    intro l x W K hK
    dsimp only [encs]
    gi_wp2
    exact hK
  case body =>
    rintro l pre x W ⟨hlt2, ⟨v, ss, hv, hrow, hl, hG⟩, hB⟩ hlt
    have hcv := hv.cell
    have hnW : W0.heap.size ≤ W.heap.size := hlt2
    obtain ⟨ad, had, hadS, hadc⟩ := x.rd (by rw [tc_length]; have := List.length_pos_iff.2 x.ne; omega)
    have hrd := x.rd.below hB
    rw [had] at hrd ⊢
    have hxl := x.hlen.out
    have hsm := x.small
    rw [hxl]
    have h1 : 1 ≤ 6 - 1 - 1 := by omega
    obtain ⟨i0, hi, hz0, hz1, hz2⟩ := info_parts info_row
    have CK : Hid (CallsIn Fence.wide 3 Tryd.prog 27 #[.slice (some ad) x.toks.length x.cap] W.drew _) := callsIn_wide.2 (clone_row W.drew ad x.toks.length x.cap x.toks rfl hsm ((hrd.below (below_drew (Below.refl _ W))).more fun b hb => Nat.lt_of_lt_of_le hb hB.size))
    have hpl : pre.length ≤ 1000000 := by have := linesF_count [] zs; have := hn.out; omega
    have hvd : Boxed W.drew w.heap.size 36 v := hv
    have hrowd : W.drew.ownsRow W0.heap.size 22 1 v pre.length ss := hrow
    have hGd : Got W0.heap.size W.drew ss pre := hG
    have hBd : Below w.heap.size w W.drew := below_drew hB
    have hnd : W0.heap.size ≤ W.drew.heap.size := hlt2
    have hmx : Tryd.prog.follows .mixedOrders = true := by kernel_rfl
    have FIN : ∀ (W' : World) (a' : Act), KeepsOthers W.drew W' ∧ KpL w.heap.size (w.heap.size + 1) W.drew W' ∧ LI w w W0.heap.size (pre ++ [x]) W' → Exit.inBlock 1 (ownPostG W0.heap.size (KpL w.heap.size (w.heap.size + 1)) (LI w w W0.heap.size) (fun _ _ _ => False) (pre ++ [x]) W) .normal a' W' := fun W' a' h => ⟨((KeepsOthers.drew W).trans h.1).from _, ⟨(below_drew (Below.refl _ W)).trans h.2.1.1, h.2.1.2⟩, h.2.2⟩
    gi_wp2
    refine wpIn_region_any hmx ?_
    change wpAnyIn _ _ _ _ _ _ _ _ _ (World.drew _)
    refine wpAnyIn_ready (rs := [0, 1]) (by kernel_rfl) (by simp) ?_
    refine AllReadyIn.cons rfl (fun K hK => ?_) ?_
    · go_simp
      refine hK _ _ ?_
      clear hK K
      refine wpAnyIn_ready (rs := [1]) (by kernel_rfl) (by simp) ?_
      refine AllReadyIn.cons rfl (fun K hK => ?_) ?_
      · go_simp
        refine hK _ _ ?_
        clear hK K
        refine wpAnyIn_ready (rs := [2]) (by kernel_rfl) (by simp) ?_
        refine AllReadyIn.cons rfl (fun K hK => ?_) ?_
        · go_simp
          gi_wp2_with (refine ⟨trivial, ?_⟩; gi_at_call 27; refine (CallsIn.inRound l CK.out).mono ?_; rintro e w1 ⟨A1, c1, rfl, ho1, hb1⟩; have hbx1 : Boxed w1 w.heap.size 36 v := hvd.kept (row := none) ⟨hb1.os, hb1.tape, hb1.output, hb1.size, fun k hk _ => hb1.block k hk⟩ (by simp); have hcv1 := hbx1.cell; have hcv2 : ∀ o, (w1.alloc o).cell? ⟨w.heap.size, 0, none⟩ = some v := fun o => (hbx1.alloc o).cell)
          refine wpAnyIn_ready (rs := [3]) (by kernel_rfl) (by simp) ?_
          refine AllReadyIn.cons rfl (fun K hK => ?_) ?_
          · go_simp
            refine hK _ _ ?_
            clear hK K
            refine wpAnyIn_ready (rs := [4]) (by kernel_rfl) (by simp) ?_
            refine AllReadyIn.cons rfl (fun K hK => ?_) ?_
            · refine step_append_in rfl _ _ 36 rfl W0.heap.size 22 (.slice none 0 0) 1 24 Tryd.underlying36 info_row rfl (by decide) (by decide) v pre.length ss rfl ((own_after hrowd hb1).alloc _) (fun _ => True) (some ⟨w1.heap.size, 0, none⟩) 1 1 [.slice A1 x.toks.length c1] rfl rfl (rd_lit1 _ _ _) (by simp [Value.oneCell']) (by omega) (by have := hb1.size; simp at this ⊢; omega) ?_
              intro v' w2 hown' hgrow
              obtain ⟨g', cap', rfl⟩ := ownsRow_succ hown'
              have HS := LI_step hsz hnd hvd hrowd hl hGd hBd hb1 ho1 hown' hgrow
              have hc1 := HS.1.cell
              have hf1 := HS.1.frozen
              refine hK _ _ ?_
              clear hK K
              refine wpAnyIn_ready (rs := [5]) (by kernel_rfl) (by simp) ?_
              refine AllReadyIn.cons rfl (fun K hK => ?_) ?_
              · go_simp
                refine hK _ _ ?_
                clear hK K
                refine wpAnyIn_done (by kernel_rfl) ?_ _
                exact FIN _ _ HS.2
              exact AllReadyIn.nil
            exact AllReadyIn.nil
          exact AllReadyIn.nil
        exact AllReadyIn.nil
      exact AllReadyIn.nil
    refine AllReadyIn.cons rfl (fun K hK => ?_) ?_
    · go_simp
      refine hK _ _ ?_
      clear hK K
      refine wpAnyIn_ready (rs := [0, 2]) (by kernel_rfl) (by simp) ?_
      refine AllReadyIn.cons rfl (fun K hK => ?_) ?_
      · go_simp
        refine hK _ _ ?_
        clear hK K
        refine wpAnyIn_ready (rs := [2]) (by kernel_rfl) (by simp) ?_
        refine AllReadyIn.cons rfl (fun K hK => ?_) ?_
        · go_simp
          gi_wp2_with (refine ⟨trivial, ?_⟩; gi_at_call 27; refine (CallsIn.inRound l CK.out).mono ?_; rintro e w1 ⟨A1, c1, rfl, ho1, hb1⟩; have hbx1 : Boxed w1 w.heap.size 36 v := hvd.kept (row := none) ⟨hb1.os, hb1.tape, hb1.output, hb1.size, fun k hk _ => hb1.block k hk⟩ (by simp); have hcv1 := hbx1.cell; have hcv2 : ∀ o, (w1.alloc o).cell? ⟨w.heap.size, 0, none⟩ = some v := fun o => (hbx1.alloc o).cell)
          refine wpAnyIn_ready (rs := [3]) (by kernel_rfl) (by simp) ?_
          refine AllReadyIn.cons rfl (fun K hK => ?_) ?_
          · go_simp
            refine hK _ _ ?_
            clear hK K
            refine wpAnyIn_ready (rs := [4]) (by kernel_rfl) (by simp) ?_
            refine AllReadyIn.cons rfl (fun K hK => ?_) ?_
            · refine step_append_in rfl _ _ 36 rfl W0.heap.size 22 (.slice none 0 0) 1 24 Tryd.underlying36 info_row rfl (by decide) (by decide) v pre.length ss rfl ((own_after hrowd hb1).alloc _) (fun _ => True) (some ⟨w1.heap.size, 0, none⟩) 1 1 [.slice A1 x.toks.length c1] rfl rfl (rd_lit1 _ _ _) (by simp [Value.oneCell']) (by omega) (by have := hb1.size; simp at this ⊢; omega) ?_
              intro v' w2 hown' hgrow
              obtain ⟨g', cap', rfl⟩ := ownsRow_succ hown'
              have HS := LI_step hsz hnd hvd hrowd hl hGd hBd hb1 ho1 hown' hgrow
              have hc1 := HS.1.cell
              have hf1 := HS.1.frozen
              refine hK _ _ ?_
              clear hK K
              refine wpAnyIn_ready (rs := [5]) (by kernel_rfl) (by simp) ?_
              refine AllReadyIn.cons rfl (fun K hK => ?_) ?_
              · go_simp
                refine hK _ _ ?_
                clear hK K
                refine wpAnyIn_done (by kernel_rfl) ?_ _
                exact FIN _ _ HS.2
              exact AllReadyIn.nil
            exact AllReadyIn.nil
          exact AllReadyIn.nil
        exact AllReadyIn.nil
      refine AllReadyIn.cons rfl (fun K hK => ?_) ?_
      · go_simp
        gi_wp2_with (refine ⟨trivial, ?_⟩; gi_at_call 27; refine (CallsIn.inRound l CK.out).mono ?_; rintro e w1 ⟨A1, c1, rfl, ho1, hb1⟩; have hbx1 : Boxed w1 w.heap.size 36 v := hvd.kept (row := none) ⟨hb1.os, hb1.tape, hb1.output, hb1.size, fun k hk _ => hb1.block k hk⟩ (by simp); have hcv1 := hbx1.cell; have hcv2 : ∀ o, (w1.alloc o).cell? ⟨w.heap.size, 0, none⟩ = some v := fun o => (hbx1.alloc o).cell)
        refine wpAnyIn_ready (rs := [0, 3]) (by kernel_rfl) (by simp) ?_
        refine AllReadyIn.cons rfl (fun K hK => ?_) ?_
        · go_simp
          refine hK _ _ ?_
          clear hK K
          refine wpAnyIn_ready (rs := [3]) (by kernel_rfl) (by simp) ?_
          refine AllReadyIn.cons rfl (fun K hK => ?_) ?_
          · go_simp
            refine hK _ _ ?_
            clear hK K
            refine wpAnyIn_ready (rs := [4]) (by kernel_rfl) (by simp) ?_
            refine AllReadyIn.cons rfl (fun K hK => ?_) ?_
            · refine step_append_in rfl _ _ 36 rfl W0.heap.size 22 (.slice none 0 0) 1 24 Tryd.underlying36 info_row rfl (by decide) (by decide) v pre.length ss rfl ((own_after hrowd hb1).alloc _) (fun _ => True) (some ⟨w1.heap.size, 0, none⟩) 1 1 [.slice A1 x.toks.length c1] rfl rfl (rd_lit1 _ _ _) (by simp [Value.oneCell']) (by omega) (by have := hb1.size; simp at this ⊢; omega) ?_
              intro v' w2 hown' hgrow
              obtain ⟨g', cap', rfl⟩ := ownsRow_succ hown'
              have HS := LI_step hsz hnd hvd hrowd hl hGd hBd hb1 ho1 hown' hgrow
              have hc1 := HS.1.cell
              have hf1 := HS.1.frozen
              refine hK _ _ ?_
              clear hK K
              refine wpAnyIn_ready (rs := [5]) (by kernel_rfl) (by simp) ?_
              refine AllReadyIn.cons rfl (fun K hK => ?_) ?_
              · go_simp
                refine hK _ _ ?_
                clear hK K
                refine wpAnyIn_done (by kernel_rfl) ?_ _
                exact FIN _ _ HS.2
              exact AllReadyIn.nil
            exact AllReadyIn.nil
          exact AllReadyIn.nil
        refine AllReadyIn.cons rfl (fun K hK => ?_) ?_
        · go_simp
          refine hK _ _ ?_
          clear hK K
          refine wpAnyIn_ready (rs := [0]) (by kernel_rfl) (by simp) ?_
          refine AllReadyIn.cons rfl (fun K hK => ?_) ?_
          · go_simp
            refine hK _ _ ?_
            clear hK K
            refine wpAnyIn_ready (rs := [4]) (by kernel_rfl) (by simp) ?_
            refine AllReadyIn.cons rfl (fun K hK => ?_) ?_
            · refine step_append_in rfl _ _ 36 rfl W0.heap.size 22 (.slice none 0 0) 1 24 Tryd.underlying36 info_row rfl (by decide) (by decide) v pre.length ss rfl ((own_after hrowd hb1).alloc _) (fun _ => True) (some ⟨w1.heap.size, 0, none⟩) 1 1 [.slice A1 x.toks.length c1] rfl rfl (rd_lit1 _ _ _) (by simp [Value.oneCell']) (by omega) (by have := hb1.size; simp at this ⊢; omega) ?_
              intro v' w2 hown' hgrow
              obtain ⟨g', cap', rfl⟩ := ownsRow_succ hown'
              have HS := LI_step hsz hnd hvd hrowd hl hGd hBd hb1 ho1 hown' hgrow
              have hc1 := HS.1.cell
              have hf1 := HS.1.frozen
              refine hK _ _ ?_
              clear hK K
              refine wpAnyIn_ready (rs := [5]) (by kernel_rfl) (by simp) ?_
              refine AllReadyIn.cons rfl (fun K hK => ?_) ?_
              · go_simp
                refine hK _ _ ?_
                clear hK K
                refine wpAnyIn_done (by kernel_rfl) ?_ _
                exact FIN _ _ HS.2
              exact AllReadyIn.nil
            exact AllReadyIn.nil
          exact AllReadyIn.nil
        exact AllReadyIn.nil
      exact AllReadyIn.nil
    exact AllReadyIn.nil
  case done =>
    rintro D ys W hD hys ⟨hlt2, ⟨v, ss, hv, hrow, hl, hG⟩, hB⟩ hK
    have hcv := hv.cell
    gi_wp2
    refine ⟨by simp, .inl ⟨_, _, rfl, run_takeDeferred hK, ?_⟩⟩
    refine ⟨_, results_tmp rfl _ _ _, ?_⟩
    exact lines_fin (by omega) hys hlt2 hrow hl hG hB _ hK (Nat.le_trans (by omega) hD)
  case stop =>
    rintro D c pre W _ _ h _
    exact h.elim
end Go.Proofs.YtgcphhialllieaaDoor.Lx
