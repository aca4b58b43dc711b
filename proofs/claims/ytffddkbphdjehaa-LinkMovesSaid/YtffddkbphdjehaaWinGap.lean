/- Contracts of window.Gap and window.Free. Conditions: rows hold fewer than a million windows. -/
import Derived.RangeFuncBox
import Derived.RangeFuncLeaves
import Derived.Shelf.Abstract
import Derived.OwnWalkIn
import Derived.TacticsInMore
import Derived.LoopNIn
import Derived.LoopIn
import Derived.BigRegionIn
import Derived.RangeFuncNested
import Derived.RangeFuncCalls
import Derived.Shelf.RegionOpen
import Derived.Sort.QuietIn
import Derived.StillTail
import Derived.StillTactics
import Derived.Maps.AppendAt
import Derived.Lib.SliceRun
import Derived.RangeFuncNested
import Derived.Test.YtffddkbphdjehaaWinNext2
import Derived.IntWalk
import Derived.Test.YtffddkbphdjehaaWinRound
import Derived.Test.YtffddkbphdjehaaWinSmall
namespace Go.Proofs.Ytffddkbphdjehaa.Wn
open Go.ChangeShapes Go.WideShapes Go.ChangeAt Go.RowKit Go.Shelf
set_option linter.unusedVariables false
set_option linter.unusedSimpArgs false
attribute [local go_sem] Oper.semAt_some

/-- what Gap's loop keeps -/
def GI (w : World) (n1 : Nat) (x m : Int) {zs : List Win} (pre : List (Of zs)) (W : World) : Prop :=
  ∃ y, (((∀ rest, gpB m x (pre.map Subtype.val ++ rest) = gpB m y rest) ∧ 0 ≤ y ∧ y ≤ 2199023255552) ∧ n1 ≤ W.heap.size) ∧ (Blk W w.heap.size 2 [.int .i64 y] ∧ Blk W (w.heap.size + 1) 2 [.int .i64 m]) ∧ Below w.heap.size w W
theorem GI.own (w : World) (n1 : Nat) (x m : Int) (zs : List Win) (B : Nat) (hB : w.heap.size ≤ B) : OwnFrom B (GI w n1 x m (zs := zs)) := fun pre X Y row ⟨y, ⟨h1, h2⟩, ⟨h3, h4⟩, h5⟩ hg hrow =>
  ⟨y, ⟨h1, Nat.le_trans h2 hg.size⟩, ⟨own_blk (α := Unit) B _ _ _ () X Y row h3 hg hrow, own_blk (α := Unit) B _ _ _ () X Y row h4 hg hrow⟩, ownFrom_below (Nat.le_refl _) hB pre X Y row h5 hg hrow⟩
/-- what Gap leaves its loop with -/
def GX (w : World) (x m : Int) {zs : List Win} (c : Code) (pre : List (Of zs)) (W : World) : Prop :=
  ∃ y, (c = .exit 0 ∧ ∀ rest, gpB m x (pre.map Subtype.val ++ rest) = y) ∧ Blk W w.heap.size 2 [.int .i64 y] ∧ Below w.heap.size w W
theorem GX.own (w : World) (x m : Int) (zs : List Win) (B : Nat) (hB : w.heap.size ≤ B) (c : Code) : OwnFrom B (GX w x m (zs := zs) c) := fun pre X Y row ⟨y, h1, h2, h3⟩ hg hrow =>
  ⟨y, h1, own_blk (α := Unit) B _ _ _ () X Y row h2 hg hrow, ownFrom_below (Nat.le_refl _) hB pre X Y row h3 hg hrow⟩
def GA (w w1 : World) (A : Option Addr) (n c : Nat) (x m : Int) {zs : List Win} (p : Of zs) (a' : Act) (W : World) : Prop :=
  ∃ g, w1.heap.size < g ∧ Blk W g 41 [.int .i64 p.1.1, .int .i64 p.1.2] ∧ a' = { tmps := #[.slice A n c, .int .i64 x, .int .i64 m, undef, .pointer (some ⟨w.heap.size, 0, none⟩), .pointer (some ⟨w.heap.size + 1, 0, none⟩), .int .i64 0, .pointer (some ⟨g, 0, none⟩), .slice A n c, .bool true, .bool false, .bool false, .int .i64 x, .bool true, .bool false, .bool false, .bool false, .int .i64 m, .bool true, .bool false, .bool false, .int .i64 m, .bool false, undef, .slice A n c, .int .i64 x, .func (.func 41) #[] #[.pointer (some ⟨w1.heap.size, 0, none⟩), .pointer (some ⟨w1.heap.size + 1, 0, none⟩)], .agg #[.int .i64 p.1.1, .int .i64 p.1.2], undef, undef, undef, undef, undef, undef, undef, undef, undef], defers := [] }
theorem GA.own (w w1 : World) (A : Option Addr) (n c : Nat) (x m : Int) {zs : List Win} (B : Nat) (p : Of zs) (a' : Act) : OwnFrom B (fun (_ : Unit) W => GA w w1 A n c x m p a' W) := fun _ X Y row ⟨g, h1, h2, h3⟩ hg hrow =>
  ⟨g, h1, own_blk (α := Unit) B _ _ _ () X Y row h2 hg hrow, h3⟩

set_option maxRecDepth 100000 in
set_option maxHeartbeats 4000000 in
theorem gap_in (w : World) (A : Option Addr) (n c : Nat) (zs : List Win) (x m : Int) (hn : Hid (n = zs.length)) (hN : n ≤ 1000000) (hx : Rd w (· < w.heap.size) A (kc zs)) (hg : good zs = true) (ht : tick x = true) (hm : tick m = true) (hm0 : 0 < m) :
    CallsIn Fence.wide 6 Try.prog 25 #[.slice A n c, .int .i64 x, .int .i64 m] w fun e w' => e = .returned (.int .i64 (gp zs x m)) ∧ Below w.heap.size w w' := by
  have CG : Hid (∀ W, Below w.heap.size w W → CallsIn Fence.wide 5 Try.prog 14 #[.slice A n c] W fun e w' => e = .returned (.bool true) ∧ Below W.heap.size W w') := Lib.hid fun W hW => callsIn_wide.2 (by
    have := good_any W A n c zs hn hN (hx.later hW); rw [hg] at this; exact this)
  have CF : Hid (∀ W, CallsIn Fence.wide 5 Try.prog 37 #[.int .i64 x] W fun e w' => e = .returned (.bool true) ∧ W = w') := Lib.hid fun W => callsIn_wide.2 (by
    have := finite_any x W; rw [ht] at this; exact this)
  have CM : Hid (∀ W, CallsIn Fence.wide 5 Try.prog 37 #[.int .i64 m] W fun e w' => e = .returned (.bool true) ∧ W = w') := Lib.hid fun W => callsIn_wide.2 (by
    have := finite_any m W; rw [hm] at this; exact this)
  have HR : Hid (gp zs x m = gpB m x (bh x zs)) := Lib.hid (by unfold gp; rw [if_pos ⟨hg, ht, hm⟩, if_neg (by omega)])
  have HGA := Lib.hid (good_gd hg).all
  have hxt := (tick_iff x).1 ht
  have hmt := (tick_iff m).1 hm
  have hmb : (m == 0) = false := by simp; omega
  have HX0 := Lib.hid ((Below.refl w.heap.size w).alloc (Nat.le_refl _) (.cells #[.int .i64 x] 2) |>.alloc (by simp) (.cells #[.int .i64 m] 2))
  have BX := Boxed.new w 2 (.int .i64 x)
  have BR := Boxed.new (w.alloc (.cells #[.int .i64 x] 2)) 2 (.int .i64 m)
  rw [World.size_alloc] at BR
  have HBX := Lib.hid (BX.alloc (.cells #[.int .i64 m] 2))
  have HBR := Lib.hid BR
  clear BX BR
  refine callsIn_of_wp_marks Try.func25 rfl trivial ?_ rfl
  simp only [Try.ntmps25, List.size_toArray, List.length_cons, List.length_nil, Nat.reduceAdd, Nat.reduceSub, Array.replicate_succ, Array.replicate_zero, List.push_toArray, List.append_toArray, List.nil_append, List.cons_append]
  gi_wp2_with (first | (refine ⟨trivial, ?_⟩; gi_at_call 14; refine (CG.out _ HX0.out).mono ?_; rintro e w1 ⟨rfl, hb1⟩; have k0 := (HBX.out.kept (below_grow hb1) (by simp)).cell; have k1 := (HBR.out.kept (below_grow hb1) (by simp)).cell) | (refine ⟨trivial, ?_⟩; gi_at_call 37; with_reducible refine (CF.out _).mono ?_; rintro e w2 ⟨rfl, rfl⟩) | (refine ⟨trivial, ?_⟩; gi_at_call 37; with_reducible refine (CM.out _).mono ?_; rintro e w2 ⟨rfl, rfl⟩) | (refine ⟨trivial, ?_⟩; gi_at_call 38; refine (callsIn_wide.2 (behind_any A n c x w1)).mono ?_; rintro e w3 ⟨rfl, rfl⟩) | fail)
  have hs1 := below_then HX0.out hb1 HX0.out.size
  have hz1 := hb1.size
  have B0 : Blk w1 w.heap.size 2 [.int .i64 x] := (show Blk _ w.heap.size _ _ from HBX.out).after hb1
  have B1 : Blk w1 (w.heap.size + 1) 2 [.int .i64 m] := (show Blk _ (w.heap.size + 1) _ _ from HBR.out).after hb1
  have HQ := behind_fresh w w1 A n c zs x hn hN hx hs1
  obtain ⟨W0, hW0⟩ : ∃ W0, W0 = (w1.alloc (.cells #[.slice A n c] 69)).alloc (.cells #[.int .i64 x] 2) := ⟨_, rfl⟩
  have hsz : W0.heap.size = w1.heap.size + 2 := by rw [hW0]; simp
  have hw1 : w.heap.size + 2 ≤ w1.heap.size := by simpa using hz1
  have hB0 : Below w.heap.size w W0 := by rw [hW0]; exact (hs1.alloc hs1.size _).alloc (by have := hs1.size; simp; omega) _
  have B0' : Blk W0 w.heap.size 2 [.int .i64 x] := by rw [hW0]; exact (B0.alloc _).alloc _
  have B1' : Blk W0 (w.heap.size + 1) 2 [.int .i64 m] := by rw [hW0]; exact (B1.alloc _).alloc _
  rw [← hW0] at HQ ⊢
  clear hW0 k0 k1 B0 B1
  refine wpIn_rangeFunc_ownH rfl (by omega) (gf := 41) (lb := #[.pointer (some ⟨w1.heap.size, 0, none⟩), .pointer (some ⟨w1.heap.size + 1, 0, none⟩)]) rfl trivial (enters_of Try.func41 (by kernel_rfl) rfl) HQ KpB.t
    (kpb_put (by omega) (by omega)) (Below.refl _ _) (fun _ => rfl)
    (GI w W0.heap.size x m) (GX w x m) (GI.own w _ x m zs _ hB0.size) (GX.own w x m zs _ hB0.size)
    ⟨x, ⟨⟨fun _ => rfl, by omega, by omega⟩, Nat.le_refl _⟩, ⟨B0', B1'⟩, hB0⟩
    (GA w w1 A n c x m) (fun p a' => GA.own w w1 A n c x m _ p a') ?assign ?body ?done ?stop
  case assign =>
    rintro l pre p W K ⟨y, ⟨hp, hle⟩, ⟨hb0, hbr⟩, hB1⟩ hK
    dsimp only [enco, encw]
    gi_wp2
    refine hK _ _ ((KeepsOthers.alloc _ _).from _) (KpB.of_below ((Below.refl W.heap.size W).alloc (Nat.le_refl _) _) hB1.size (by omega)) ⟨y, ⟨hp, by simp; omega⟩, ⟨hb0.alloc _, hbr.alloc _⟩, hB1.alloc hB1.size _⟩ ⟨W.heap.size, by omega, Blk.new W _ _, rfl⟩
  case body =>
    rintro l pre ⟨⟨p1, p2⟩, hp⟩ a' W hl ⟨r, hr⟩ ⟨y, ⟨⟨hP, hy0, hy1⟩, hle⟩, ⟨hb0, hbr⟩, hB1⟩ ⟨g, hgg, hX, rfl⟩ hlt
    have c0 := hb0.cell 0
    have f0 := hb0.frozen 0
    have cr := hbr.cell 0
    have p0 := hX.cell 0
    have q0 := hX.cell 1
    simp only [List.getElem?_cons_zero, List.getElem?_cons_succ] at c0 cr p0 q0
    have hpb := HGA.out (p1, p2) hp
    dsimp only at hpb
    have HP := Lib.hid hP
    clear hP
    by_cases hc : m ≤ p1 - y
    · gi_wp2
      exact ⟨KeepsFrom.refl _ _, y, ⟨rfl, fun rest => by rw [List.map_append, List.append_assoc, HP.out]; show gpB m y ((p1, p2) :: rest) = y; simp only [gpB]; rw [if_pos hc]⟩, hb0, hB1⟩
    · have hc' : ¬ m ≤ p1 - y := hc
      gi_wp2
      exact ⟨(KeepsOthers.setCell _ _ _).from _, ⟨(Below.refl _ _).setCell (p := ⟨w.heap.size, 0, none⟩) (Nat.le_refl _) _, fun b h1 h2 => Below.heap_setCell _ _ _ b (by show b ≠ w.heap.size; omega)⟩, p2, ⟨⟨fun rest => by rw [List.map_append, List.append_assoc, HP.out]; show gpB m y ((p1, p2) :: rest) = gpB m p2 rest; simp only [gpB]; rw [if_neg (by omega)], by omega, by omega⟩, by simp [World.setCell]; omega⟩, ⟨hb0.set_ 0 _, hbr.far (by show w.heap.size + 1 ≠ w.heap.size; omega) _⟩, hB1.setCell (p := ⟨w.heap.size, 0, none⟩) (Nat.le_refl _) _⟩
  case done =>
    rintro D ys W hD hys ⟨y, ⟨⟨hP, hy0, hy1⟩, hle⟩, ⟨hb0, hbr⟩, hB1⟩ hK
    have c0 := hb0.cell 0
    simp only [List.getElem?_cons_zero] at c0
    gi_wp2
    refine ⟨by simp, .inl ⟨_, _, rfl, run_takeDeferred hK, ?_⟩⟩
    have hfin : y = gp zs x m := by
      have := hP []
      rw [List.append_nil, hys] at this
      rw [HR.out, this]; rfl
    exact ⟨_, results_tmp rfl _ _ _, by simp; exact hfin, hB1.trans (belowK_b (w := w) (Nat.le_refl _) _ D _ _ (by omega) hK rfl rfl)⟩
  case stop =>
    rintro D cd pre W hD ⟨rest, hrest⟩ ⟨y, ⟨rfl, hP⟩, hb0, hB1⟩ hK
    have c0 := hb0.cell 0
    simp only [List.getElem?_cons_zero] at c0
    gi_wp2
    refine ⟨by simp, .inl ⟨_, _, rfl, run_takeDeferred hK, ?_⟩⟩
    have hfin : y = gp zs x m := by
      have := hP rest
      rw [hrest] at this
      rw [HR.out, this]
    exact ⟨_, results_tmp rfl _ _ _, by simp; exact hfin, hB1.trans (belowK_b (w := w) (Nat.le_refl _) _ D _ _ (by omega) hK rfl rfl)⟩

set_option maxHeartbeats 2000000 in
theorem gap_any (w : World) (A : Option Addr) (n c : Nat) (zs : List Win) (x m : Int) (hn : Hid (n = zs.length)) (hN : n ≤ 1000000) (hx : Rd w (· < w.heap.size) A (kc zs)) :
    Calls Try.prog 25 #[.slice A n c, .int .i64 x, .int .i64 m] w fun e w' => e = .returned (.int .i64 (gp zs x m)) ∧ Below w.heap.size w w' := by
  have HX0 := Lib.hid ((Below.refl w.heap.size w).alloc (Nat.le_refl _) (.cells #[.int .i64 x] 2) |>.alloc (by simp) (.cells #[.int .i64 m] 2))
  have BX := Boxed.new w 2 (.int .i64 x)
  have BR := Boxed.new (w.alloc (.cells #[.int .i64 x] 2)) 2 (.int .i64 m)
  rw [World.size_alloc] at BR
  have HBX := Lib.hid (BX.alloc (.cells #[.int .i64 m] 2))
  have HBR := Lib.hid BR
  clear BX BR
  have CG : ∀ b, good zs = b → Hid (∀ W, Below w.heap.size w W → Calls Try.prog 14 #[.slice A n c] W fun e w' => e = .returned (.bool b) ∧ Below W.heap.size W w') := fun b hg => Lib.hid fun W hW => by
    have := good_any W A n c zs hn hN (hx.later hW); rw [hg] at this; exact this
  have CF : ∀ b z, tick z = b → Hid (∀ W, Calls Try.prog 37 #[.int .i64 z] W fun e w' => e = .returned (.bool b) ∧ W = w') := fun b z hz => Lib.hid fun W => by
    have := finite_any z W; rw [hz] at this; exact this
  have HNO : ¬ (good zs = true ∧ tick x = true ∧ tick m = true) → gp zs x m = 4611686018427387904 := fun h => by unfold gp; rw [if_neg h]
  cases hg : good zs with
  | false =>
    have C1 := CG _ hg
    have HR := Lib.hid (HNO (by simp [hg]))
    clear hx CG CF HNO
    go_enter Try.func25, Try.ntmps25
    go_wp2_with (go_at_call 14; refine (C1.out _ HX0.out).mono ?_; rintro e w1 ⟨rfl, hb1⟩)
    go_ret
    exact ⟨ret_i HR.out.symm, below_then HX0.out hb1 HX0.out.size⟩
  | true =>
    have C1 := CG _ hg
    cases ht : tick x with
    | false =>
      have C2 := CF _ _ ht
      have HR := Lib.hid (HNO (by simp [ht]))
      clear hx CG CF HNO
      go_enter Try.func25, Try.ntmps25
      go_wp2_with (first | (go_at_call 14; refine (C1.out _ HX0.out).mono ?_; rintro e w1 ⟨rfl, hb1⟩; have k0 := (HBX.out.kept (below_grow hb1) (by simp)).cell) | (go_at_call 37; with_reducible refine (C2.out _).mono ?_; rintro e w2 ⟨rfl, rfl⟩) | fail)
      go_ret
      exact ⟨ret_i HR.out.symm, below_then HX0.out hb1 HX0.out.size⟩
    | true =>
      have C2 := CF _ _ ht
      cases hm : tick m with
      | false =>
        have C3 := CF _ _ hm
        have HR := Lib.hid (HNO (by simp [hm]))
        clear hx CG CF HNO
        go_enter Try.func25, Try.ntmps25
        go_wp2_with (first | (go_at_call 14; refine (C1.out _ HX0.out).mono ?_; rintro e w1 ⟨rfl, hb1⟩; have k0 := (HBX.out.kept (below_grow hb1) (by simp)).cell; have k1 := (HBR.out.kept (below_grow hb1) (by simp)).cell) | (go_at_call 37; with_reducible refine (C2.out _).mono ?_; rintro e w2 ⟨rfl, rfl⟩) | (go_at_call 37; with_reducible refine (C3.out _).mono ?_; rintro e w2 ⟨rfl, rfl⟩) | fail)
        go_ret
        exact ⟨ret_i HR.out.symm, below_then HX0.out hb1 HX0.out.size⟩
      | true =>
        by_cases h0 : m = 0
        · subst h0
          have C3 := CF _ _ hm
          have HR : Hid (gp zs x 0 = x) := Lib.hid (by unfold gp; rw [if_pos ⟨hg, ht, hm⟩, if_pos rfl])
          clear hx CG CF HNO
          go_enter Try.func25, Try.ntmps25
          go_wp2_with (first | (go_at_call 14; refine (C1.out _ HX0.out).mono ?_; rintro e w1 ⟨rfl, hb1⟩; have k0 := (HBX.out.kept (below_grow hb1) (by simp)).cell; have k1 := (HBR.out.kept (below_grow hb1) (by simp)).cell) | (go_at_call 37; with_reducible refine (C2.out _).mono ?_; rintro e w2 ⟨rfl, rfl⟩) | (go_at_call 37; with_reducible refine (C3.out _).mono ?_; rintro e w2 ⟨rfl, rfl⟩) | fail)
          go_ret
          exact ⟨ret_i HR.out.symm, below_then HX0.out hb1 HX0.out.size⟩
        · exact callsIn_wide.1 (gap_in w A n c zs x m hn hN hx hg ht hm (by have := (tick_iff m).1 hm; omega))
theorem free_any (w : World) (A : Option Addr) (n c : Nat) (zs : List Win) (x : Int) (hn : Hid (n = zs.length)) (hN : n ≤ 1000000) (hx : Rd w (· < w.heap.size) A (kc zs)) :
    Calls Try.prog 30 #[.slice A n c, .int .i64 x] w fun e w' => e = .returned (.int .i64 (gp zs x 1)) ∧ Below w.heap.size w w' := by
  have CG := Lib.hid (gap_any w A n c zs x 1 hn hN hx)
  clear hx hn
  go_enter Try.func30, Try.ntmps30
  go_wp2_with (go_at_call 25; refine CG.out.mono ?_; rintro e w1 ⟨rfl, hb⟩)
  go_ret
  exact ⟨rfl, hb⟩
end Go.Proofs.Ytffddkbphdjehaa.Wn
