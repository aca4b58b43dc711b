/- Contract of window.Next. Conditions: rows hold fewer than a million windows. -/
import Derived.RangeFuncBox
import Derived.RangeFuncLeaves
import Derived.Shelf.Abstract
import Derived.OwnWalkIn
import Derived.TacticsInMore
import Derived.LoopNIn
import Derived.LoopIn
import Derived.BigRegionIn
import Derived.RangeFuncNested
import Derived.RangeFuncCalls
import Derived.Shelf.RegionOpen
import Derived.Sort.QuietIn
import Derived.StillTail
import Derived.StillTactics
import Derived.Maps.AppendAt
import Derived.Lib.SliceRun
import Derived.RangeFuncNested
import Derived.Test.YtffddkbphdjehaaWinBehind
import Derived.IntWalk
import Derived.Test.YtffddkbphdjehaaWinRound
import Derived.Test.YtffddkbphdjehaaWinSmall
namespace Go.Proofs.Ytffddkbphdjehaa.Wn
open Go.ChangeShapes Go.WideShapes Go.ChangeAt Go.RowKit Go.Shelf
set_option linter.unusedVariables false
set_option linter.unusedSimpArgs false
attribute [local go_sem] Oper.semAt_some

theorem nx_bad {zs : List Win} {x : Int} (h : ¬ (good zs = true ∧ tick x = true)) : nx zs x = 4611686018427387904 := by unfold nx; rw [if_neg h]
theorem nx_ok {zs : List Win} {x : Int} (h1 : good zs = true) (h2 : tick x = true) : nx zs x = nxB x (bh x zs) := by unfold nx; rw [if_pos ⟨h1, h2⟩]

theorem behind_fresh (w w1 : World) (A : Option Addr) (n c : Nat) (zs : List Win) (x : Int) (hn : Hid (n = zs.length)) (hN : n ≤ 1000000) (hx : Rd w (· < w.heap.size) A (kc zs)) (hb : Below w.heap.size w w1) :
    SeqStopsK Fence.wide 5 Try.prog 41 #[.pointer (some ⟨w1.heap.size, 0, none⟩), .pointer (some ⟨w1.heap.size + 1, 0, none⟩)] (enco (zs := zs)) (KpB w.heap.size w1.heap.size 2) (fun ys => ys.map Subtype.val = bh x zs) (fun pre => ∃ rest, pre.map Subtype.val ++ rest = bh x zs) (bh x zs).length
      ((w1.alloc (.cells #[.slice A n c] 69)).alloc (.cells #[.int .i64 x] 2)) := by
  have b1 := Blk.new (w1.alloc (.cells #[.slice A n c] 69)) 2 [.int .i64 x]
  rw [World.size_alloc] at b1
  exact behind_stops w1.heap.size w A n c zs x hn hN hx hb.size _ ((hb.alloc hb.size _).alloc (by have := hb.size; simp; omega) _) ((Blk.new w1 _ [.slice A n c]).alloc _) b1
theorem kpb_put {n0 B m : Nat} {w : World} (h0 : n0 ≤ w.heap.size) (hB : B + m ≤ w.heap.size) (W : World) (l : Nat) (o o' : Obj) (hl : w.heap.size ≤ l) (h : W.heap[l]? = some o) (h1 : o.isCells = false) (h2 : o.isWalk = false) : KpB n0 B m W (W.putObj l o') :=
  KpB.of_below (belowK_b (w := w) (n₀ := w.heap.size) (Nat.le_refl _) W l o o' hl h h1 h2) h0 hB
theorem own_size {α : Type} (B n1 : Nat) : OwnFrom B (fun (_ : α) W => n1 ≤ W.heap.size) := fun _ X Y row h hg _ => Nat.le_trans h hg.size
theorem own_blk {α : Type} (B g : Nat) (t : TypeId) (l : List Value) : OwnFrom B (fun (_ : α) W => Blk W g t l) := fun _ X Y row h hg hrow => h.grown hg (fun e => by
  obtain ⟨_, o, ho, hc⟩ := hrow g e.symm
  rw [show X.heap[g]? = _ from h] at ho; cases ho; cases hc)
/-- what Next's loop keeps -/
def NI (w : World) (n1 : Nat) (x : Int) {zs : List Win} (pre : List (Of zs)) (W : World) : Prop :=
  (((pre = [] ∧ True) ∧ n1 ≤ W.heap.size) ∧ (Blk W w.heap.size 2 [.int .i64 x] ∧ Blk W (w.heap.size + 1) 2 [.int .i64 0])) ∧ Below w.heap.size w W
theorem NI.own (w : World) (n1 : Nat) (x : Int) (zs : List Win) (B : Nat) (hB : w.heap.size ≤ B) : OwnFrom B (NI w n1 x (zs := zs)) :=
  OwnFrom.and (OwnFrom.and (OwnFrom.and (ownFrom_pure B (fun pre : List (Of zs) => pre = [] ∧ True)) (own_size B n1)) (OwnFrom.and (own_blk B _ _ _) (own_blk B _ _ _))) (ownFrom_below (Nat.le_refl _) hB)
/-- what Next leaves its loop with -/
def NX (w : World) (x : Int) {zs : List Win} (c : Code) (pre : List (Of zs)) (W : World) : Prop :=
  ((c = .ret ∧ ∃ p, pre = [p] ∧ Blk W (w.heap.size + 1) 2 [.int .i64 (max x p.1.1)])) ∧ Below w.heap.size w W
theorem NX.own (w : World) (x : Int) (zs : List Win) (B : Nat) (hB : w.heap.size ≤ B) (c : Code) : OwnFrom B (NX w x (zs := zs) c) := fun pre X Y row ⟨⟨h1, p, h2, h3⟩, h4⟩ hg hrow =>
  ⟨⟨h1, p, h2, own_blk (α := Unit) B _ _ _ () X Y row h3 hg hrow⟩, ownFrom_below (Nat.le_refl _) hB pre X Y row h4 hg hrow⟩
def NA (w w1 : World) (A : Option Addr) (n c : Nat) (x : Int) {zs : List Win} (p : Of zs) (a' : Act) (W : World) : Prop :=
  ∃ g, w1.heap.size < g ∧ Blk W g 41 [.int .i64 p.1.1, .int .i64 p.1.2] ∧ a' = { tmps := #[.slice A n c, .int .i64 x, undef, .pointer (some ⟨w.heap.size, 0, none⟩), .pointer (some ⟨w.heap.size + 1, 0, none⟩), .pointer (some ⟨g, 0, none⟩), .slice A n c, .bool true, .bool false, .bool false, .int .i64 x, .bool true, .bool false, .bool false, .slice A n c, .int .i64 x, .func (.func 41) #[] #[.pointer (some ⟨w1.heap.size, 0, none⟩), .pointer (some ⟨w1.heap.size + 1, 0, none⟩)], .agg #[.int .i64 p.1.1, .int .i64 p.1.2], undef, undef, undef, undef], defers := [] }
theorem NA.own (w w1 : World) (A : Option Addr) (n c : Nat) (x : Int) {zs : List Win} (B : Nat) (p : Of zs) (a' : Act) : OwnFrom B (fun (_ : Unit) W => NA w w1 A n c x p a' W) := fun _ X Y row ⟨g, h1, h2, h3⟩ hg hrow =>
  ⟨g, h1, own_blk (α := Unit) B _ _ _ () X Y row h2 hg hrow, h3⟩

set_option maxRecDepth 100000 in
set_option maxHeartbeats 4000000 in
theorem next_in (w : World) (A : Option Addr) (n c : Nat) (zs : List Win) (x : Int) (hn : Hid (n = zs.length)) (hN : n ≤ 1000000) (hx : Rd w (· < w.heap.size) A (kc zs)) (hg : good zs = true) (ht : tick x = true) :
    CallsIn Fence.wide 6 Try.prog 28 #[.slice A n c, .int .i64 x] w fun e w' => e = .returned (.int .i64 (nx zs x)) ∧ Below w.heap.size w w' := by
  have CG : Hid (∀ W, Below w.heap.size w W → CallsIn Fence.wide 5 Try.prog 14 #[.slice A n c] W fun e w' => e = .returned (.bool true) ∧ Below W.heap.size W w') := Lib.hid fun W hW => callsIn_wide.2 (by
    have := good_any W A n c zs hn hN (hx.later hW); rw [hg] at this; exact this)
  have CF : Hid (∀ W, CallsIn Fence.wide 5 Try.prog 37 #[.int .i64 x] W fun e w' => e = .returned (.bool true) ∧ W = w') := Lib.hid fun W => callsIn_wide.2 (by
    have := finite_any x W; rw [ht] at this; exact this)
  have HX0 := Lib.hid ((Below.refl w.heap.size w).alloc (Nat.le_refl _) (.cells #[.int .i64 x] 2) |>.alloc (by simp) (.cells #[.int .i64 0] 2))
  have BX := Boxed.new w 2 (.int .i64 x)
  have BR := Boxed.new (w.alloc (.cells #[.int .i64 x] 2)) 2 (.int .i64 0)
  rw [World.size_alloc] at BR
  have HBX := Lib.hid (BX.alloc (.cells #[.int .i64 0] 2))
  have HBR := Lib.hid BR
  clear BX BR
  refine callsIn_of_wp_marks Try.func28 rfl trivial ?_ rfl
  simp only [Try.ntmps28, List.size_toArray, List.length_cons, List.length_nil, Nat.reduceAdd, Nat.reduceSub, Array.replicate_succ, Array.replicate_zero, List.push_toArray, List.append_toArray, List.nil_append, List.cons_append]
  gi_wp2_with (first | (refine ⟨trivial, ?_⟩; gi_at_call 14; refine (CG.out _ HX0.out).mono ?_; rintro e w1 ⟨rfl, hb1⟩; have k1 := (HBX.out.kept (below_grow hb1) (by simp)).cell) | (refine ⟨trivial, ?_⟩; gi_at_call 37; refine (CF.out _).mono ?_; rintro e w2 ⟨rfl, rfl⟩) | (refine ⟨trivial, ?_⟩; gi_at_call 38; refine (callsIn_wide.2 (behind_any A n c x w1)).mono ?_; rintro e w3 ⟨rfl, rfl⟩) | fail)
  have hs1 := below_then HX0.out hb1 HX0.out.size
  have hz1 := hb1.size
  have B0 : Blk w1 w.heap.size 2 [.int .i64 x] := (show Blk _ w.heap.size _ _ from HBX.out).after hb1
  have B1 : Blk w1 (w.heap.size + 1) 2 [.int .i64 0] := (show Blk _ (w.heap.size + 1) _ _ from HBR.out).after hb1
  have HQ := behind_fresh w w1 A n c zs x hn hN hx hs1
  obtain ⟨W0, hW0⟩ : ∃ W0, W0 = (w1.alloc (.cells #[.slice A n c] 69)).alloc (.cells #[.int .i64 x] 2) := ⟨_, rfl⟩
  have hsz : W0.heap.size = w1.heap.size + 2 := by rw [hW0]; simp
  have hw1 : w.heap.size + 2 ≤ w1.heap.size := by simpa using hz1
  have hB0 : Below w.heap.size w W0 := by rw [hW0]; exact (hs1.alloc hs1.size _).alloc (by have := hs1.size; simp; omega) _
  have B0' : Blk W0 w.heap.size 2 [.int .i64 x] := by rw [hW0]; exact (B0.alloc _).alloc _
  have B1' : Blk W0 (w.heap.size + 1) 2 [.int .i64 0] := by rw [hW0]; exact (B1.alloc _).alloc _
  rw [← hW0] at HQ ⊢
  clear hW0 k1 B0 B1
  refine wpIn_rangeFunc_ownH rfl (by omega) (gf := 41) (lb := #[.pointer (some ⟨w1.heap.size, 0, none⟩), .pointer (some ⟨w1.heap.size + 1, 0, none⟩)]) rfl trivial (enters_of Try.func41 (by kernel_rfl) rfl) HQ KpB.t
    (kpb_put (by omega) (by omega)) (Below.refl _ _) (fun _ => rfl)
    (NI w W0.heap.size x) (NX w x) (NI.own w _ x zs _ hB0.size) (NX.own w x zs _ hB0.size)
    ⟨⟨⟨⟨rfl, trivial⟩, Nat.le_refl _⟩, B0', B1'⟩, hB0⟩
    (NA w w1 A n c x) (fun p a' => NA.own w w1 A n c x _ p a') ?assign ?body ?done ?stop
  case assign =>
    rintro l pre p W K ⟨⟨⟨hp, hle⟩, hb0, hbr⟩, hB1⟩ hK
    dsimp only [enco, encw]
    gi_wp2
    refine hK _ _ ((KeepsOthers.alloc _ _).from _) (KpB.of_below ((Below.refl W.heap.size W).alloc (Nat.le_refl _) _) hB1.size (by omega)) ⟨⟨⟨hp, by simp; omega⟩, hb0.alloc _, hbr.alloc _⟩, hB1.alloc hB1.size _⟩ ⟨W.heap.size, by omega, Blk.new W _ _, rfl⟩
  case body =>
    rintro l pre ⟨⟨p1, p2⟩, hp⟩ a' W hl ⟨r, hr⟩ ⟨⟨⟨⟨rfl, _⟩, hle⟩, hb0, hbr⟩, hB1⟩ ⟨g, hgg, hX, rfl⟩ hlt
    have c0 := hb0.cell 0
    have cr := hbr.cell 0
    have fr := hbr.frozen 0
    have p0 := hX.cell 0
    simp only [List.getElem?_cons_zero] at c0 cr p0
    gi_wp2
    · exact ⟨(KeepsOthers.setCell _ _ _).from _, ⟨rfl, _, rfl, by show Blk _ _ _ [.int .i64 (max x p1)]; rw [Int.max_eq_right (by omega)]; exact hbr.set_ 0 _⟩, hB1.setCell (p := ⟨w.heap.size + 1, 0, none⟩) (by show w.heap.size ≤ w.heap.size + 1; omega) _⟩
    · exact ⟨(KeepsOthers.setCell _ _ _).from _, ⟨rfl, _, rfl, by show Blk _ _ _ [.int .i64 (max x p1)]; rw [Int.max_eq_left (by omega)]; exact hbr.set_ 0 _⟩, hB1.setCell (p := ⟨w.heap.size + 1, 0, none⟩) (by show w.heap.size ≤ w.heap.size + 1; omega) _⟩
  case done =>
    rintro D ys W hD hys ⟨⟨⟨⟨rfl, _⟩, hle⟩, hb0, hbr⟩, hB1⟩ hK
    have cr := hbr.cell 0
    have fr := hbr.frozen 0
    simp only [List.getElem?_cons_zero] at cr
    gi_wp2
    have hKs : (W.setCell ⟨w.heap.size + 1, 0, none⟩ (.int .i64 4611686018427387904)).heap[D]? = some (.deferred (some [])) := (Below.heap_setCell _ _ _ D (by show D ≠ w.heap.size + 1; omega)).trans hK
    refine ⟨by simp, .inl ⟨_, _, rfl, run_takeDeferred hKs, ?_⟩⟩
    have c5 := ((hbr.set_ 0 (.int .i64 4611686018427387904)).grown (grownBy_putObj' _ D (.deferred none)) (by simp; omega)).cell 0
    simp only [List.set_cons_zero, List.getElem?_cons_zero] at c5
    have hnil : bh x zs = [] := hys.symm
    refine ⟨.int .i64 4611686018427387904, ?_, by rw [nx_ok hg ht, hnil]; rfl, (hB1.setCell (p := ⟨w.heap.size + 1, 0, none⟩) (by show w.heap.size ≤ w.heap.size + 1; omega) _).trans (belowK_b (w := w) (Nat.le_refl _) _ D _ _ (by omega) hKs rfl rfl)⟩
    simp [results, Try.f28, go_sem, c5]
  case stop =>
    rintro D cd pre W hD ⟨rest, hrest⟩ ⟨⟨rfl, p, rfl, hbr⟩, hB1⟩ hK
    gi_wp2
    refine ⟨by simp, .inl ⟨_, _, rfl, run_takeDeferred hK, ?_⟩⟩
    have c5 := (hbr.grown (grownBy_putObj' _ D (.deferred none)) (by simp; omega)).cell 0
    simp only [List.getElem?_cons_zero] at c5
    refine ⟨.int .i64 (max x p.1.1), ?_, by rw [nx_ok hg ht, ← hrest]; rfl, hB1.trans (belowK_b (w := w) (Nat.le_refl _) _ D _ _ (by omega) hK rfl rfl)⟩
    simp [results, Try.f28, go_sem, c5]

set_option maxHeartbeats 1000000 in
theorem next_any (w : World) (A : Option Addr) (n c : Nat) (zs : List Win) (x : Int) (hn : Hid (n = zs.length)) (hN : n ≤ 1000000) (hx : Rd w (· < w.heap.size) A (kc zs)) :
    Calls Try.prog 28 #[.slice A n c, .int .i64 x] w fun e w' => e = .returned (.int .i64 (nx zs x)) ∧ Below w.heap.size w w' := by
  have HX0 := Lib.hid ((Below.refl w.heap.size w).alloc (Nat.le_refl _) (.cells #[.int .i64 x] 2) |>.alloc (by simp) (.cells #[.int .i64 0] 2))
  have BX := Boxed.new w 2 (.int .i64 x)
  have BR := Boxed.new (w.alloc (.cells #[.int .i64 x] 2)) 2 (.int .i64 0)
  rw [World.size_alloc] at BR
  have HBX := Lib.hid (BX.alloc (.cells #[.int .i64 0] 2))
  have HBR := Lib.hid BR
  clear BX BR
  cases hg : good zs with
  | false =>
    have CG : Hid (∀ W, Below w.heap.size w W → Calls Try.prog 14 #[.slice A n c] W fun e w' => e = .returned (.bool false) ∧ Below W.heap.size W w') := Lib.hid fun W hW => by
      have := good_any W A n c zs hn hN (hx.later hW); rw [hg] at this; exact this
    have HR := Lib.hid (nx_bad (zs := zs) (x := x) (by simp [hg]))
    clear hx
    go_enter Try.func28, Try.ntmps28
    go_wp2_with (go_at_call 14; refine (CG.out _ HX0.out).mono ?_; rintro e w1 ⟨rfl, hb1⟩; have k1 := (HBR.out.kept (below_grow hb1) (by simp)).cell; have k2 := (HBR.out.kept (below_grow hb1) (by simp)).frozen)
    have c5 := ((HBR.out.kept (below_grow hb1) (by simp)).set (.int .i64 4611686018427387904)).cell
    refine bodyPost_ret (by simp [results, Try.f28, go_sem, c5]; rfl) rfl ?_
    exact ⟨ret_i HR.out.symm, (below_then HX0.out hb1 HX0.out.size).setCell (p := ⟨w.heap.size + 1, 0, none⟩) (by show w.heap.size ≤ w.heap.size + 1; omega) _⟩
  | true =>
    cases ht : tick x with
    | false =>
      have CG : Hid (∀ W, Below w.heap.size w W → Calls Try.prog 14 #[.slice A n c] W fun e w' => e = .returned (.bool true) ∧ Below W.heap.size W w') := Lib.hid fun W hW => by
        have := good_any W A n c zs hn hN (hx.later hW); rw [hg] at this; exact this
      have CF : Hid (∀ W, Calls Try.prog 37 #[.int .i64 x] W fun e w' => e = .returned (.bool false) ∧ W = w') := Lib.hid fun W => by
        have := finite_any x W; rw [ht] at this; exact this
      have HR := Lib.hid (nx_bad (zs := zs) (x := x) (by simp [ht]))
      clear hx
      go_enter Try.func28, Try.ntmps28
      go_wp2_with (first | (go_at_call 14; refine (CG.out _ HX0.out).mono ?_; rintro e w1 ⟨rfl, hb1⟩; have k0 := (HBX.out.kept (below_grow hb1) (by simp)).cell; have k1 := (HBR.out.kept (below_grow hb1) (by simp)).cell; have k2 := (HBR.out.kept (below_grow hb1) (by simp)).frozen) | (go_at_call 37; refine (CF.out _).mono ?_; rintro e w2 ⟨rfl, rfl⟩) | fail)
      have c5 := ((HBR.out.kept (below_grow hb1) (by simp)).set (.int .i64 4611686018427387904)).cell
      refine bodyPost_ret (by simp [results, Try.f28, go_sem, c5]; rfl) rfl ?_
      exact ⟨ret_i HR.out.symm, (below_then HX0.out hb1 HX0.out.size).setCell (p := ⟨w.heap.size + 1, 0, none⟩) (by show w.heap.size ≤ w.heap.size + 1; omega) _⟩
    | true => exact callsIn_wide.1 (next_in w A n c zs x hn hN hx hg ht)
end Go.Proofs.Ytffddkbphdjehaa.Wn
