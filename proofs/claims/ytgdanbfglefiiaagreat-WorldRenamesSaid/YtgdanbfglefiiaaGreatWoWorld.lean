/- The kit's World of two worlds: whether they are the same. Conditions: at most 400 things of a kind. -/
import Derived.Test.YtgdanbfglefiiaaGreatWoSame
import Derived.Test.YtgdanbfglefiiaaGreatWoMake
import Derived.ChangeSlices
import Derived.Deep.Strs
import Derived.Deep.SlicePairs
import Derived.ChangeArms
import Derived.Carry
import Derived.Deep.RegionHeld3
import Derived.Deep.RegionHeldLaw
import Derived.Deep.CutRange
import Derived.StillTailTactics
import Derived.WalkSpells
import Derived.Lib.QuietBelow
import Derived.Deep.QuietTactic
namespace Go.Proofs.YtgdanbfglefiiaaGreat.Wo
open Go.ChangeShapes Go.WideShapes Go.ChangeAt Go.RowKit Go.Maps
open Lx Sh
set_option linter.unusedVariables false
set_option linter.unusedSimpArgs false
theorem sto3_below {B : Nat} {w a : World} {g : Nat} {u0 u1 u2 : Value} (h : Below B a w) (hs : B ≤ g) : Below B a (sto3 w g u0 u1 u2) := by
  unfold sto3
  exact below_set (p := ⟨g, 2, none⟩) (below_set (p := ⟨g, 1, none⟩) (below_set (p := ⟨g, 0, none⟩) (h) hs _) hs _) hs _
theorem sto6_below {B : Nat} {w a : World} {g : Nat} {u0 u1 u2 u3 u4 u5 : Value} (h : Below B a w) (hs : B ≤ g) : Below B a (sto6 w g u0 u1 u2 u3 u4 u5) := by
  unfold sto6
  exact below_set (p := ⟨g, 5, none⟩) (below_set (p := ⟨g, 4, none⟩) (below_set (p := ⟨g, 3, none⟩) (below_set (p := ⟨g, 2, none⟩) (below_set (p := ⟨g, 1, none⟩) (below_set (p := ⟨g, 0, none⟩) (h) hs _) hs _) hs _) hs _) hs _) hs _
theorem no_decb {α : Type} [DecidableEq α] {a b : α} (h : a ≠ b) : decide (a = b) = false := decide_eq_false h
set_option maxRecDepth 100000 in
set_option maxHeartbeats 8000000 in
theorem kworld_any (x z : WorldM) (p q : WoA) (w : World) (h : Wo w (· < w.heap.size) x p) (g : Wo w (· < w.heap.size) z q) (hf : WLt x) (hg : WLt z) : Calls Tryz.prog 23 #[woF x p, woF z q] w (BPost w (decide (x = z))) := by
  obtain ⟨⟨r1, r2, r3, r4, r5, r6⟩, s2, s3, ⟨cr, s4, s4'⟩, s5, s6⟩ := h
  obtain ⟨⟨g1, g2, g3, g4, g5, g6⟩, t2, t3, ⟨cg, t4, t4'⟩, t5, t6⟩ := g
  obtain ⟨l1, l2, l3, l4, l5, l6, e2, e3, e4, e5, e6, er⟩ := hf
  obtain ⟨k1, k2, k3, k4, k5, k6, f2, f3, f4, f5, f6, fr⟩ := hg
  obtain ⟨hz, ⟨n1, n2, n3, n4, n5, n6⟩, pa, dos, ro, tr, ha⟩ := x
  obtain ⟨hz', ⟨n1', n2', n3', n4', n5', n6'⟩, pa', dos', ro', tr', ha'⟩ := z
  obtain ⟨⟨a1, a2, a3, a4, a5, a6, c1, c2, c3, c4, c5, c6⟩, b2, b3, b4, b5, b6, d2, d3, d4, d5, d6⟩ := p
  obtain ⟨⟨a1', a2', a3', a4', a5', a6', c1', c2', c3', c4', c5', c6'⟩, b2', b3', b4', b5', b6', d2', d3', d4', d5', d6'⟩ := q
  dsimp only at r1 r2 r3 r4 r5 r6 s2 s3 s4 s4' s5 s6 g1 g2 g3 g4 g5 g6 t2 t3 t4 t4' t5 t6 l1 l2 l3 l4 l5 l6 e2 e3 e4 e5 e6 er k1 k2 k3 k4 k5 k6 f2 f3 f4 f5 f6 fr
  obtain ⟨bF, hbF⟩ : ∃ b, b = decide ((⟨hz, (⟨n1, n2, n3, n4, n5, n6⟩ : NamesM), pa, dos, ro, tr, ha⟩ : WorldM) = (⟨hz', (⟨n1', n2', n3', n4', n5', n6'⟩ : NamesM), pa', dos', ro', tr', ha'⟩ : WorldM)) := ⟨_, rfl⟩
  rw [← hbF]
  have HBF := Lib.hid hbF
  clear hbF
  have H1 := Lib.hid (fun w' (hb : Below w.heap.size w w') => samed_str w' a1 a1' n1.length n1'.length c1 c1' n1 n1' (Lib.hid rfl) (Lib.hid rfl) (by omega) (by omega) (rd_later r1 hb) (rd_later g1 hb))
  have H2 := Lib.hid (fun w' (hb : Below w.heap.size w w') => samed_str w' a2 a2' n2.length n2'.length c2 c2' n2 n2' (Lib.hid rfl) (Lib.hid rfl) (by omega) (by omega) (rd_later r2 hb) (rd_later g2 hb))
  have H3 := Lib.hid (fun w' (hb : Below w.heap.size w w') => samed_str w' a3 a3' n3.length n3'.length c3 c3' n3 n3' (Lib.hid rfl) (Lib.hid rfl) (by omega) (by omega) (rd_later r3 hb) (rd_later g3 hb))
  have H4 := Lib.hid (fun w' (hb : Below w.heap.size w w') => samed_str w' a4 a4' n4.length n4'.length c4 c4' n4 n4' (Lib.hid rfl) (Lib.hid rfl) (by omega) (by omega) (rd_later r4 hb) (rd_later g4 hb))
  have H5 := Lib.hid (fun w' (hb : Below w.heap.size w w') => samed_str w' a5 a5' n5.length n5'.length c5 c5' n5 n5' (Lib.hid rfl) (Lib.hid rfl) (by omega) (by omega) (rd_later r5 hb) (rd_later g5 hb))
  have H6 := Lib.hid (fun w' (hb : Below w.heap.size w w') => samed_str w' a6 a6' n6.length n6'.length c6 c6' n6 n6' (Lib.hid rfl) (Lib.hid rfl) (by omega) (by omega) (rd_later r6 hb) (rd_later g6 hb))
  have J2 := Lib.hid (fun w' (hb : Below w.heap.size w w') => samed_po w' b2 b2' pa.length pa'.length d2 d2' pa pa' (Lib.hid rfl) (Lib.hid rfl) (by omega) (by omega) (rd_later s2 hb) (rd_later t2 hb))
  have J3 := Lib.hid (fun w' (hb : Below w.heap.size w w') => samed_dof w' b3 b3' dos.length dos'.length d3 d3' dos dos' (Lib.hid rfl) (Lib.hid rfl) (by omega) (by omega) (rd_later s3 hb) (rd_later t3 hb))
  have J5 := Lib.hid (fun w' (hb : Below w.heap.size w w') => samed_to w' b5 b5' tr.length tr'.length d5 d5' tr tr' (Lib.hid rfl) (Lib.hid rfl) (by omega) (by omega) (rd_later s5 hb) (rd_later t5 hb))
  have J6 := Lib.hid (fun w' (hb : Below w.heap.size w w') => samed_ho w' b6 b6' ha.length ha'.length d6 d6' ha ha' (Lib.hid rfl) (Lib.hid rfl) (by omega) (by omega) (rd_later s6 hb) (rd_later t6 hb))
  have HX := Lib.hid s4
  have HY := Lib.hid t4
  have HR := Lib.hid s4'
  have HS := Lib.hid t4'
  have HW := Lib.hid er
  have HV := Lib.hid fr
  obtain ⟨P4, hn4⟩ : ∃ n, n = ro.length := ⟨_, rfl⟩
  obtain ⟨Q4, hm4⟩ : ∃ n, n = ro'.length := ⟨_, rfl⟩
  have hn := Lib.hid hn4
  have hm := Lib.hid hm4
  rw [← hn4] at e4
  rw [← hm4] at f4
  clear r1 r2 r3 r4 r5 r6 s2 s3 s4 s4' s5 s6 g1 g2 g3 g4 g5 g6 t2 t3 t4 t4' t5 t6 l1 l2 l3 l4 l5 l6 e2 e3 e5 e6 er k1 k2 k3 k4 k5 k6 f2 f3 f5 f6 fr
  dsimp only [woF]
  rw [← hn4, ← hm4]
  clear hn4 hm4
  generalize n1.length = L1 at *
  generalize n1'.length = M1 at *
  generalize n2.length = L2 at *
  generalize n2'.length = M2 at *
  generalize n3.length = L3 at *
  generalize n3'.length = M3 at *
  generalize n4.length = L4 at *
  generalize n4'.length = M4 at *
  generalize n5.length = L5 at *
  generalize n5'.length = M5 at *
  generalize n6.length = L6 at *
  generalize n6'.length = M6 at *
  generalize pa.length = P2 at *
  generalize pa'.length = Q2 at *
  generalize dos.length = P3 at *
  generalize dos'.length = Q3 at *
  generalize tr.length = P5 at *
  generalize tr'.length = Q5 at *
  generalize ha.length = P6 at *
  generalize ha'.length = Q6 at *
  go_enter Tryz.func23, Tryz.ntmps23
  go_upto_region 1 with fail
  obtain ⟨W, hW⟩ : ∃ W, W = (w.alloc (.cells #[.int .i64 hz, .slice a1 L1 c1, .slice a2 L2 c2, .slice a3 L3 c3, .slice a4 L4 c4, .slice a5 L5 c5, .slice a6 L6 c6, .slice b2 P2 d2, .slice b3 P3 d3, .slice b4 P4 d4, .slice b5 P5 d5, .slice b6 P6 d6] 32)).alloc (.cells #[.int .i64 hz', .slice a1' M1 c1', .slice a2' M2 c2', .slice a3' M3 c3', .slice a4' M4 c4', .slice a5' M5 c5', .slice a6' M6 c6', .slice b2' Q2 d2', .slice b3' Q3 d3', .slice b4' Q4 d4', .slice b5' Q5 d5', .slice b6' Q6 d6'] 32) := ⟨_, rfl⟩
  have BW : Hid (Below w.heap.size w W) := Lib.hid (by rw [hW]; exact two_box _ _ _)
  have KX : Hid (Blk W w.heap.size 32 [.int .i64 hz, .slice a1 L1 c1, .slice a2 L2 c2, .slice a3 L3 c3, .slice a4 L4 c4, .slice a5 L5 c5, .slice a6 L6 c6, .slice b2 P2 d2, .slice b3 P3 d3, .slice b4 P4 d4, .slice b5 P5 d5, .slice b6 P6 d6]) := Lib.hid (by rw [hW]; exact (Blk.new _ _ _).alloc _)
  have KZ : Hid (Blk W (w.heap.size + 1) 32 [.int .i64 hz', .slice a1' M1 c1', .slice a2' M2 c2', .slice a3' M3 c3', .slice a4' M4 c4', .slice a5' M5 c5', .slice a6' M6 c6', .slice b2' Q2 d2', .slice b3' Q3 d3', .slice b4' Q4 d4', .slice b5' Q5 d5', .slice b6' Q6 d6']) := Lib.hid (by rw [hW]; exact Blk.new2 _ _ _ _)
  rw [← hW]
  clear hW
  obtain ⟨B, hB⟩ : ∃ B, B = w.heap.size := ⟨_, rfl⟩
  rw [← hB] at KX KZ ⊢
  have HBB := Lib.hid hB
  clear hB
  have KC : Hid (∀ w', Below W.heap.size W w' → (w'.cell? ⟨B, 1, none⟩ = some (.slice a1 L1 c1) ∧ w'.cell? ⟨B, 2, none⟩ = some (.slice a2 L2 c2) ∧ w'.cell? ⟨B, 3, none⟩ = some (.slice a3 L3 c3) ∧ w'.cell? ⟨B, 4, none⟩ = some (.slice a4 L4 c4) ∧ w'.cell? ⟨B, 5, none⟩ = some (.slice a5 L5 c5) ∧ w'.cell? ⟨B, 6, none⟩ = some (.slice a6 L6 c6)) ∧ w'.cell? ⟨B + 1, 1, none⟩ = some (.slice a1' M1 c1') ∧ w'.cell? ⟨B + 1, 2, none⟩ = some (.slice a2' M2 c2') ∧ w'.cell? ⟨B + 1, 3, none⟩ = some (.slice a3' M3 c3') ∧ w'.cell? ⟨B + 1, 4, none⟩ = some (.slice a4' M4 c4') ∧ w'.cell? ⟨B + 1, 5, none⟩ = some (.slice a5' M5 c5') ∧ w'.cell? ⟨B + 1, 6, none⟩ = some (.slice a6' M6 c6')) := Lib.hid (fun w' hb => ⟨by
    have a := KX.out.after hb
    exact ⟨a.cell 1, a.cell 2, a.cell 3, a.cell 4, a.cell 5, a.cell 6⟩, by
    have a := KZ.out.after hb
    exact ⟨a.cell 1, a.cell 2, a.cell 3, a.cell 4, a.cell 5, a.cell 6⟩⟩)
  go_cut [5, 6] from 10 to 13 (fun v5 v6 wc => ∃ g5 g6 : Nat, v5 = .pointer (some ⟨g5, 0, none⟩) ∧ v6 = .pointer (some ⟨g6, 0, none⟩) ∧ Hid (Blk wc g5 25 [.slice a1 L1 c1, .slice a2 L2 c2, .slice a3 L3 c3, .slice a4 L4 c4, .slice a5 L5 c5, .slice a6 L6 c6]) ∧ Hid (Blk wc g6 25 [.slice a1' M1 c1', .slice a2' M2 c2', .slice a3' M3 c3', .slice a4' M4 c4', .slice a5' M5 c5', .slice a6' M6 c6']) ∧ Hid (Below W.heap.size W wc))
  case first =>
    refine wp_region_held_drew (S := fun w' => Hid (Below W.heap.size W w')) (by kernel_rfl) ?_ (fun hHeld => ?_)
    · exact Lib.hid (below_drew (Below.refl _ _))
    refine wpAnyH_take (i := 0) (v := ?vuk1) rfl (by kernel_rfl) (by kernel_rfl) (by kernel_rfl) (fun _ _ _ h => h) (Or.inl ⟨by rfl, ?hyuk1⟩) (by assumption) ?restuk1
    case hyuk1 => (intro w' hSw; obtain ⟨⟨kc1, kc2, kc3, kc4, kc5, kc6⟩, kd1, kd2, kd3, kd4, kd5, kd6⟩ := KC.out w' hSw.out; clear hSw; go_simp; try with_reducible rfl)
    simp only [Act.put, List.getElem_toArray, List.getElem_cons_zero, List.getElem_cons_succ, List.setIfInBounds_toArray, List.set_cons_zero, List.set_cons_succ]
    refine wpAnyH_take (i := 1) (v := ?vuk2) rfl (by kernel_rfl) (by kernel_rfl) (by kernel_rfl) (fun _ _ _ h => h) (Or.inl ⟨by rfl, ?hyuk2⟩) (by assumption) ?restuk2
    case hyuk2 => (intro w' hSw; obtain ⟨⟨kc1, kc2, kc3, kc4, kc5, kc6⟩, kd1, kd2, kd3, kd4, kd5, kd6⟩ := KC.out w' hSw.out; clear hSw; go_simp; try with_reducible rfl)
    simp only [Act.put, List.getElem_toArray, List.getElem_cons_zero, List.getElem_cons_succ, List.setIfInBounds_toArray, List.set_cons_zero, List.set_cons_succ]
    refine wpAnyH_take (i := 2) (v := ?vuk3) rfl (by kernel_rfl) (by kernel_rfl) (by kernel_rfl) (fun _ _ _ h => h) (Or.inl ⟨by rfl, ?hyuk3⟩) (by assumption) ?restuk3
    case hyuk3 => (intro w' hSw; obtain ⟨⟨kc1, kc2, kc3, kc4, kc5, kc6⟩, kd1, kd2, kd3, kd4, kd5, kd6⟩ := KC.out w' hSw.out; clear hSw; go_simp; try with_reducible rfl)
    simp only [Act.put, List.getElem_toArray, List.getElem_cons_zero, List.getElem_cons_succ, List.setIfInBounds_toArray, List.set_cons_zero, List.set_cons_succ]
    refine wpAnyH_take (i := 3) (v := ?vuk4) rfl (by kernel_rfl) (by kernel_rfl) (by kernel_rfl) (fun _ _ _ h => h) (Or.inl ⟨by rfl, ?hyuk4⟩) (by assumption) ?restuk4
    case hyuk4 => (intro w' hSw; obtain ⟨⟨kc1, kc2, kc3, kc4, kc5, kc6⟩, kd1, kd2, kd3, kd4, kd5, kd6⟩ := KC.out w' hSw.out; clear hSw; go_simp; try with_reducible rfl)
    simp only [Act.put, List.getElem_toArray, List.getElem_cons_zero, List.getElem_cons_succ, List.setIfInBounds_toArray, List.set_cons_zero, List.set_cons_succ]
    have D0 := hHeld
    clear hHeld
    have z0 : Hid (W.heap.size ≤ (World.drew W).heap.size) := Lib.hid (Nat.le_refl _)
    generalize World.drew W = v0 at *
    refine wpAnyH_ready (rs := [4, 5]) (by kernel_rfl) (by simp) ?_
    refine AllReadyH.cons rfl (fun K hK => ?_) ?_
    · go_simp
      have hb := one_box v0 (.cells #[.slice none 0 0, .slice none 0 0, .slice none 0 0, .slice none 0 0, .slice none 0 0, .slice none 0 0] 25)
      have Dk5 : Hid (Below W.heap.size W (v0.alloc (.cells #[.slice none 0 0, .slice none 0 0, .slice none 0 0, .slice none 0 0, .slice none 0 0, .slice none 0 0] 25))) := Lib.hid (keep_trans D0.out hb)
      have zk5 : Hid (v0.heap.size + 1 = (v0.alloc (.cells #[.slice none 0 0, .slice none 0 0, .slice none 0 0, .slice none 0 0, .slice none 0 0, .slice none 0 0] 25)).heap.size) := Lib.hid (by simp)
      have KN0 : Hid (Blk (v0.alloc (.cells #[.slice none 0 0, .slice none 0 0, .slice none 0 0, .slice none 0 0, .slice none 0 0, .slice none 0 0] 25)) v0.heap.size 25 [.slice none 0 0, .slice none 0 0, .slice none 0 0, .slice none 0 0, .slice none 0 0, .slice none 0 0]) := Lib.hid (Blk.new v0 _ _)
      clear hb
      generalize v0.alloc (.cells #[.slice none 0 0, .slice none 0 0, .slice none 0 0, .slice none 0 0, .slice none 0 0, .slice none 0 0] 25) = wk5 at *
      refine hK.out _ _ Dk5 (fun hHeld => ?_)
      clear hK K hHeld
      refine wpAnyH_ready (rs := [5]) (by kernel_rfl) (by simp) ?_
      refine AllReadyH.cons rfl (fun K hK => ?_) ?_
      · go_simp
        have hb := one_box wk5 (.cells #[.slice none 0 0, .slice none 0 0, .slice none 0 0, .slice none 0 0, .slice none 0 0, .slice none 0 0] 25)
        have Dk6 : Hid (Below W.heap.size W (wk5.alloc (.cells #[.slice none 0 0, .slice none 0 0, .slice none 0 0, .slice none 0 0, .slice none 0 0, .slice none 0 0] 25))) := Lib.hid (keep_trans Dk5.out hb)
        have zk6 : Hid (wk5.heap.size + 1 = (wk5.alloc (.cells #[.slice none 0 0, .slice none 0 0, .slice none 0 0, .slice none 0 0, .slice none 0 0, .slice none 0 0] 25)).heap.size) := Lib.hid (by simp)
        have KN0 := Lib.hid (KN0.out.after hb)
        have KN1 : Hid (Blk (wk5.alloc (.cells #[.slice none 0 0, .slice none 0 0, .slice none 0 0, .slice none 0 0, .slice none 0 0, .slice none 0 0] 25)) wk5.heap.size 25 [.slice none 0 0, .slice none 0 0, .slice none 0 0, .slice none 0 0, .slice none 0 0, .slice none 0 0]) := Lib.hid (Blk.new wk5 _ _)
        clear hb
        generalize wk5.alloc (.cells #[.slice none 0 0, .slice none 0 0, .slice none 0 0, .slice none 0 0, .slice none 0 0, .slice none 0 0] 25) = wk6 at *
        refine hK.out _ _ Dk6 (fun hHeld => ?_)
        clear hK K hHeld
        refine wpAnyH_ready (rs := [6]) (by kernel_rfl) (by simp) ?_
        refine AllReadyH.cons rfl (fun K hK => ?_) ?_
        · have q0 : wk6.cell? ⟨v0.heap.size, 0, none⟩ = some (.slice none 0 0) := KN0.out.cell 0
          have q1 : wk6.cell? ⟨v0.heap.size, 1, none⟩ = some (.slice none 0 0) := KN0.out.cell 1
          have q2 : wk6.cell? ⟨v0.heap.size, 2, none⟩ = some (.slice none 0 0) := KN0.out.cell 2
          have q3 : wk6.cell? ⟨v0.heap.size, 3, none⟩ = some (.slice none 0 0) := KN0.out.cell 3
          have q4 : wk6.cell? ⟨v0.heap.size, 4, none⟩ = some (.slice none 0 0) := KN0.out.cell 4
          have q5 : wk6.cell? ⟨v0.heap.size, 5, none⟩ = some (.slice none 0 0) := KN0.out.cell 5
          have qf : ∀ i, wk6.frozen? ⟨v0.heap.size, i, none⟩ = false := fun i => KN0.out.frozen i
          go_simp
          clear qf q0 q1 q2 q3 q4 q5
          change K _ (sto6 wk6 (v0.heap.size) (.slice a1 L1 c1) (.slice a2 L2 c2) (.slice a3 L3 c3) (.slice a4 L4 c4) (.slice a5 L5 c5) (.slice a6 L6 c6))
          have Dk7 : Hid (Below W.heap.size W (sto6 wk6 (v0.heap.size) (.slice a1 L1 c1) (.slice a2 L2 c2) (.slice a3 L3 c3) (.slice a4 L4 c4) (.slice a5 L5 c5) (.slice a6 L6 c6))) := Lib.hid (sto6_below Dk6.out (by have := z0.out; have := zk5.out; have := zk6.out; omega))
          have zk7 : Hid (wk6.heap.size ≤ (sto6 wk6 (v0.heap.size) (.slice a1 L1 c1) (.slice a2 L2 c2) (.slice a3 L3 c3) (.slice a4 L4 c4) (.slice a5 L5 c5) (.slice a6 L6 c6)).heap.size) := Lib.hid (Ch.size (X := (· = v0.heap.size)) (sto6_ch _ _ _ _ _ _ _ _))
          have KN0 : Hid (Blk (sto6 wk6 (v0.heap.size) (.slice a1 L1 c1) (.slice a2 L2 c2) (.slice a3 L3 c3) (.slice a4 L4 c4) (.slice a5 L5 c5) (.slice a6 L6 c6)) (v0.heap.size) 25 [.slice a1 L1 c1, .slice a2 L2 c2, .slice a3 L3 c3, .slice a4 L4 c4, .slice a5 L5 c5, .slice a6 L6 c6]) := Lib.hid (sto6_blk KN0.out _ _ _ _ _ _)
          have KN1 := Lib.hid ((sto6_ch wk6 (v0.heap.size) (.slice a1 L1 c1) (.slice a2 L2 c2) (.slice a3 L3 c3) (.slice a4 L4 c4) (.slice a5 L5 c5) (.slice a6 L6 c6)).blk KN1.out (by have := z0.out; have := zk5.out; have := zk6.out; omega))
          generalize (sto6 wk6 (v0.heap.size) (.slice a1 L1 c1) (.slice a2 L2 c2) (.slice a3 L3 c3) (.slice a4 L4 c4) (.slice a5 L5 c5) (.slice a6 L6 c6)) = wk7 at *
          refine hK.out _ _ Dk7 (fun hHeld => ?_)
          clear hK K hHeld
          refine wpAnyH_ready (rs := [7]) (by kernel_rfl) (by simp) ?_
          refine AllReadyH.cons rfl (fun K hK => ?_) ?_
          · have q0 : wk7.cell? ⟨wk5.heap.size, 0, none⟩ = some (.slice none 0 0) := KN1.out.cell 0
            have q1 : wk7.cell? ⟨wk5.heap.size, 1, none⟩ = some (.slice none 0 0) := KN1.out.cell 1
            have q2 : wk7.cell? ⟨wk5.heap.size, 2, none⟩ = some (.slice none 0 0) := KN1.out.cell 2
            have q3 : wk7.cell? ⟨wk5.heap.size, 3, none⟩ = some (.slice none 0 0) := KN1.out.cell 3
            have q4 : wk7.cell? ⟨wk5.heap.size, 4, none⟩ = some (.slice none 0 0) := KN1.out.cell 4
            have q5 : wk7.cell? ⟨wk5.heap.size, 5, none⟩ = some (.slice none 0 0) := KN1.out.cell 5
            have qf : ∀ i, wk7.frozen? ⟨wk5.heap.size, i, none⟩ = false := fun i => KN1.out.frozen i
            go_simp
            clear qf q0 q1 q2 q3 q4 q5
            change K _ (sto6 wk7 (wk5.heap.size) (.slice a1' M1 c1') (.slice a2' M2 c2') (.slice a3' M3 c3') (.slice a4' M4 c4') (.slice a5' M5 c5') (.slice a6' M6 c6'))
            have Dk8 : Hid (Below W.heap.size W (sto6 wk7 (wk5.heap.size) (.slice a1' M1 c1') (.slice a2' M2 c2') (.slice a3' M3 c3') (.slice a4' M4 c4') (.slice a5' M5 c5') (.slice a6' M6 c6'))) := Lib.hid (sto6_below Dk7.out (by have := z0.out; have := zk5.out; have := zk6.out; have := zk7.out; omega))
            have zk8 : Hid (wk7.heap.size ≤ (sto6 wk7 (wk5.heap.size) (.slice a1' M1 c1') (.slice a2' M2 c2') (.slice a3' M3 c3') (.slice a4' M4 c4') (.slice a5' M5 c5') (.slice a6' M6 c6')).heap.size) := Lib.hid (Ch.size (X := (· = wk5.heap.size)) (sto6_ch _ _ _ _ _ _ _ _))
            have KN1 : Hid (Blk (sto6 wk7 (wk5.heap.size) (.slice a1' M1 c1') (.slice a2' M2 c2') (.slice a3' M3 c3') (.slice a4' M4 c4') (.slice a5' M5 c5') (.slice a6' M6 c6')) (wk5.heap.size) 25 [.slice a1' M1 c1', .slice a2' M2 c2', .slice a3' M3 c3', .slice a4' M4 c4', .slice a5' M5 c5', .slice a6' M6 c6']) := Lib.hid (sto6_blk KN1.out _ _ _ _ _ _)
            have KN0 := Lib.hid ((sto6_ch wk7 (wk5.heap.size) (.slice a1' M1 c1') (.slice a2' M2 c2') (.slice a3' M3 c3') (.slice a4' M4 c4') (.slice a5' M5 c5') (.slice a6' M6 c6')).blk KN0.out (by have := z0.out; have := zk5.out; have := zk6.out; have := zk7.out; omega))
            generalize (sto6 wk7 (wk5.heap.size) (.slice a1' M1 c1') (.slice a2' M2 c2') (.slice a3' M3 c3') (.slice a4' M4 c4') (.slice a5' M5 c5') (.slice a6' M6 c6')) = wk8 at *
            refine hK.out _ _ Dk8 (fun hHeld => ?_)
            clear hK K hHeld
            refine wpAnyH_done (by kernel_rfl) ?_ _
            go_wp2_with fail
            go_meet
            exact ⟨v0.heap.size, wk5.heap.size, rfl, rfl, KN0, KN1, Dk8⟩
          exact AllReadyH.nil
        exact AllReadyH.nil
      exact AllReadyH.nil
    refine AllReadyH.cons rfl (fun K hK => ?_) ?_
    · go_simp
      have hb := one_box v0 (.cells #[.slice none 0 0, .slice none 0 0, .slice none 0 0, .slice none 0 0, .slice none 0 0, .slice none 0 0] 25)
      have Dk9 : Hid (Below W.heap.size W (v0.alloc (.cells #[.slice none 0 0, .slice none 0 0, .slice none 0 0, .slice none 0 0, .slice none 0 0, .slice none 0 0] 25))) := Lib.hid (keep_trans D0.out hb)
      have zk9 : Hid (v0.heap.size + 1 = (v0.alloc (.cells #[.slice none 0 0, .slice none 0 0, .slice none 0 0, .slice none 0 0, .slice none 0 0, .slice none 0 0] 25)).heap.size) := Lib.hid (by simp)
      have KN1 : Hid (Blk (v0.alloc (.cells #[.slice none 0 0, .slice none 0 0, .slice none 0 0, .slice none 0 0, .slice none 0 0, .slice none 0 0] 25)) v0.heap.size 25 [.slice none 0 0, .slice none 0 0, .slice none 0 0, .slice none 0 0, .slice none 0 0, .slice none 0 0]) := Lib.hid (Blk.new v0 _ _)
      clear hb
      generalize v0.alloc (.cells #[.slice none 0 0, .slice none 0 0, .slice none 0 0, .slice none 0 0, .slice none 0 0, .slice none 0 0] 25) = wk9 at *
      refine hK.out _ _ Dk9 (fun hHeld => ?_)
      clear hK K hHeld
      refine wpAnyH_ready (rs := [4]) (by kernel_rfl) (by simp) ?_
      refine AllReadyH.cons rfl (fun K hK => ?_) ?_
      · go_simp
        have hb := one_box wk9 (.cells #[.slice none 0 0, .slice none 0 0, .slice none 0 0, .slice none 0 0, .slice none 0 0, .slice none 0 0] 25)
        have Dk10 : Hid (Below W.heap.size W (wk9.alloc (.cells #[.slice none 0 0, .slice none 0 0, .slice none 0 0, .slice none 0 0, .slice none 0 0, .slice none 0 0] 25))) := Lib.hid (keep_trans Dk9.out hb)
        have zk10 : Hid (wk9.heap.size + 1 = (wk9.alloc (.cells #[.slice none 0 0, .slice none 0 0, .slice none 0 0, .slice none 0 0, .slice none 0 0, .slice none 0 0] 25)).heap.size) := Lib.hid (by simp)
        have KN1 := Lib.hid (KN1.out.after hb)
        have KN0 : Hid (Blk (wk9.alloc (.cells #[.slice none 0 0, .slice none 0 0, .slice none 0 0, .slice none 0 0, .slice none 0 0, .slice none 0 0] 25)) wk9.heap.size 25 [.slice none 0 0, .slice none 0 0, .slice none 0 0, .slice none 0 0, .slice none 0 0, .slice none 0 0]) := Lib.hid (Blk.new wk9 _ _)
        clear hb
        generalize wk9.alloc (.cells #[.slice none 0 0, .slice none 0 0, .slice none 0 0, .slice none 0 0, .slice none 0 0, .slice none 0 0] 25) = wk10 at *
        refine hK.out _ _ Dk10 (fun hHeld => ?_)
        clear hK K hHeld
        refine wpAnyH_ready (rs := [6]) (by kernel_rfl) (by simp) ?_
        refine AllReadyH.cons rfl (fun K hK => ?_) ?_
        · have q0 : wk10.cell? ⟨wk9.heap.size, 0, none⟩ = some (.slice none 0 0) := KN0.out.cell 0
          have q1 : wk10.cell? ⟨wk9.heap.size, 1, none⟩ = some (.slice none 0 0) := KN0.out.cell 1
          have q2 : wk10.cell? ⟨wk9.heap.size, 2, none⟩ = some (.slice none 0 0) := KN0.out.cell 2
          have q3 : wk10.cell? ⟨wk9.heap.size, 3, none⟩ = some (.slice none 0 0) := KN0.out.cell 3
          have q4 : wk10.cell? ⟨wk9.heap.size, 4, none⟩ = some (.slice none 0 0) := KN0.out.cell 4
          have q5 : wk10.cell? ⟨wk9.heap.size, 5, none⟩ = some (.slice none 0 0) := KN0.out.cell 5
          have qf : ∀ i, wk10.frozen? ⟨wk9.heap.size, i, none⟩ = false := fun i => KN0.out.frozen i
          go_simp
          clear qf q0 q1 q2 q3 q4 q5
          change K _ (sto6 wk10 (wk9.heap.size) (.slice a1 L1 c1) (.slice a2 L2 c2) (.slice a3 L3 c3) (.slice a4 L4 c4) (.slice a5 L5 c5) (.slice a6 L6 c6))
          have Dk11 : Hid (Below W.heap.size W (sto6 wk10 (wk9.heap.size) (.slice a1 L1 c1) (.slice a2 L2 c2) (.slice a3 L3 c3) (.slice a4 L4 c4) (.slice a5 L5 c5) (.slice a6 L6 c6))) := Lib.hid (sto6_below Dk10.out (by have := z0.out; have := zk9.out; have := zk10.out; omega))
          have zk11 : Hid (wk10.heap.size ≤ (sto6 wk10 (wk9.heap.size) (.slice a1 L1 c1) (.slice a2 L2 c2) (.slice a3 L3 c3) (.slice a4 L4 c4) (.slice a5 L5 c5) (.slice a6 L6 c6)).heap.size) := Lib.hid (Ch.size (X := (· = wk9.heap.size)) (sto6_ch _ _ _ _ _ _ _ _))
          have KN0 : Hid (Blk (sto6 wk10 (wk9.heap.size) (.slice a1 L1 c1) (.slice a2 L2 c2) (.slice a3 L3 c3) (.slice a4 L4 c4) (.slice a5 L5 c5) (.slice a6 L6 c6)) (wk9.heap.size) 25 [.slice a1 L1 c1, .slice a2 L2 c2, .slice a3 L3 c3, .slice a4 L4 c4, .slice a5 L5 c5, .slice a6 L6 c6]) := Lib.hid (sto6_blk KN0.out _ _ _ _ _ _)
          have KN1 := Lib.hid ((sto6_ch wk10 (wk9.heap.size) (.slice a1 L1 c1) (.slice a2 L2 c2) (.slice a3 L3 c3) (.slice a4 L4 c4) (.slice a5 L5 c5) (.slice a6 L6 c6)).blk KN1.out (by have := z0.out; have := zk9.out; have := zk10.out; omega))
          generalize (sto6 wk10 (wk9.heap.size) (.slice a1 L1 c1) (.slice a2 L2 c2) (.slice a3 L3 c3) (.slice a4 L4 c4) (.slice a5 L5 c5) (.slice a6 L6 c6)) = wk11 at *
          refine hK.out _ _ Dk11 (fun hHeld => ?_)
          clear hK K hHeld
          refine wpAnyH_ready (rs := [7]) (by kernel_rfl) (by simp) ?_
          refine AllReadyH.cons rfl (fun K hK => ?_) ?_
          · have q0 : wk11.cell? ⟨v0.heap.size, 0, none⟩ = some (.slice none 0 0) := KN1.out.cell 0
            have q1 : wk11.cell? ⟨v0.heap.size, 1, none⟩ = some (.slice none 0 0) := KN1.out.cell 1
            have q2 : wk11.cell? ⟨v0.heap.size, 2, none⟩ = some (.slice none 0 0) := KN1.out.cell 2
            have q3 : wk11.cell? ⟨v0.heap.size, 3, none⟩ = some (.slice none 0 0) := KN1.out.cell 3
            have q4 : wk11.cell? ⟨v0.heap.size, 4, none⟩ = some (.slice none 0 0) := KN1.out.cell 4
            have q5 : wk11.cell? ⟨v0.heap.size, 5, none⟩ = some (.slice none 0 0) := KN1.out.cell 5
            have qf : ∀ i, wk11.frozen? ⟨v0.heap.size, i, none⟩ = false := fun i => KN1.out.frozen i
            go_simp
            clear qf q0 q1 q2 q3 q4 q5
            change K _ (sto6 wk11 (v0.heap.size) (.slice a1' M1 c1') (.slice a2' M2 c2') (.slice a3' M3 c3') (.slice a4' M4 c4') (.slice a5' M5 c5') (.slice a6' M6 c6'))
            have Dk12 : Hid (Below W.heap.size W (sto6 wk11 (v0.heap.size) (.slice a1' M1 c1') (.slice a2' M2 c2') (.slice a3' M3 c3') (.slice a4' M4 c4') (.slice a5' M5 c5') (.slice a6' M6 c6'))) := Lib.hid (sto6_below Dk11.out (by have := z0.out; have := zk9.out; have := zk10.out; have := zk11.out; omega))
            have zk12 : Hid (wk11.heap.size ≤ (sto6 wk11 (v0.heap.size) (.slice a1' M1 c1') (.slice a2' M2 c2') (.slice a3' M3 c3') (.slice a4' M4 c4') (.slice a5' M5 c5') (.slice a6' M6 c6')).heap.size) := Lib.hid (Ch.size (X := (· = v0.heap.size)) (sto6_ch _ _ _ _ _ _ _ _))
            have KN1 : Hid (Blk (sto6 wk11 (v0.heap.size) (.slice a1' M1 c1') (.slice a2' M2 c2') (.slice a3' M3 c3') (.slice a4' M4 c4') (.slice a5' M5 c5') (.slice a6' M6 c6')) (v0.heap.size) 25 [.slice a1' M1 c1', .slice a2' M2 c2', .slice a3' M3 c3', .slice a4' M4 c4', .slice a5' M5 c5', .slice a6' M6 c6']) := Lib.hid (sto6_blk KN1.out _ _ _ _ _ _)
            have KN0 := Lib.hid ((sto6_ch wk11 (v0.heap.size) (.slice a1' M1 c1') (.slice a2' M2 c2') (.slice a3' M3 c3') (.slice a4' M4 c4') (.slice a5' M5 c5') (.slice a6' M6 c6')).blk KN0.out (by have := z0.out; have := zk9.out; have := zk10.out; have := zk11.out; omega))
            generalize (sto6 wk11 (v0.heap.size) (.slice a1' M1 c1') (.slice a2' M2 c2') (.slice a3' M3 c3') (.slice a4' M4 c4') (.slice a5' M5 c5') (.slice a6' M6 c6')) = wk12 at *
            refine hK.out _ _ Dk12 (fun hHeld => ?_)
            clear hK K hHeld
            refine wpAnyH_done (by kernel_rfl) ?_ _
            go_wp2_with fail
            go_meet
            exact ⟨wk9.heap.size, v0.heap.size, rfl, rfl, KN0, KN1, Dk12⟩
          exact AllReadyH.nil
        exact AllReadyH.nil
      exact AllReadyH.nil
    exact AllReadyH.nil
  case rest =>
    clear KC
    rename World => wc1
    obtain ⟨g5, g6, rfl, rfl, K5, K6, HBC⟩ := hcut
    have KXc := Lib.hid (KX.out.after HBC.out)
    have KZc := Lib.hid (KZ.out.after HBC.out)
    have BWc : Hid (Below w.heap.size w wc1) := Lib.hid (keep_trans BW.out HBC.out)
    clear KX KZ HBC BW
    go_upto_region 2 with fail
    go_cut [59] from 14 to 59 (fun v wd => v = .bool (!decide ((⟨n1, n2, n3, n4, n5, n6⟩ : NamesM) = (⟨n1', n2', n3', n4', n5', n6'⟩ : NamesM))) ∧ Hid (Below wc1.heap.size wc1 wd))
    case first =>
      have x0 : wc1.cell? ⟨g5, 0, none⟩ = some (.slice a1 L1 c1) := K5.out.cell 0
      have y0 : wc1.cell? ⟨g6, 0, none⟩ = some (.slice a1' M1 c1') := K6.out.cell 0
      by_cases e1 : n1 = n1'
      case neg =>
        rw [no_decb e1] at H1
        have HD := Lib.hid (no_decb (show (⟨n1, n2, n3, n4, n5, n6⟩ : NamesM) ≠ (⟨n1', n2', n3', n4', n5', n6'⟩ : NamesM) from fun ee => e1 (by injection ee)))
        clear e1
        go_wp2_with (first
          | (go_at_call 38; (with_reducible refine (H1.out _ (keep_trans BWc.out (Below.refl _ _))).mono ?_); rintro e' w1 ⟨rfl, hb⟩; have Bn1 : Hid (Below wc1.heap.size wc1 w1) := Lib.hid hb; have x1 : w1.cell? ⟨g5, 1, none⟩ = some (.slice a2 L2 c2) := (K5.out.after Bn1.out).cell 1; have y1 : w1.cell? ⟨g6, 1, none⟩ = some (.slice a2' M2 c2') := (K6.out.after Bn1.out).cell 1; clear hb)
          | fail)
        go_meet
        exact ⟨by rw [HD.out]; rfl, Bn1⟩
      rw [decide_eq_true e1] at H1
      by_cases e2 : n2 = n2'
      case neg =>
        rw [no_decb e2] at H2
        have HD := Lib.hid (no_decb (show (⟨n1, n2, n3, n4, n5, n6⟩ : NamesM) ≠ (⟨n1', n2', n3', n4', n5', n6'⟩ : NamesM) from fun ee => e2 (by injection ee)))
        clear e2
        go_wp2_with (first
          | (go_at_call 38; (with_reducible refine (H2.out _ (keep_trans BWc.out Bn1.out)).mono ?_); rintro e' w2 ⟨rfl, hb⟩; have Bn2 : Hid (Below wc1.heap.size wc1 w2) := Lib.hid (keep_trans Bn1.out hb); have x2 : w2.cell? ⟨g5, 2, none⟩ = some (.slice a3 L3 c3) := (K5.out.after Bn2.out).cell 2; have y2 : w2.cell? ⟨g6, 2, none⟩ = some (.slice a3' M3 c3') := (K6.out.after Bn2.out).cell 2; clear hb)
          | (go_at_call 38; (with_reducible refine (H1.out _ (keep_trans BWc.out (Below.refl _ _))).mono ?_); rintro e' w1 ⟨rfl, hb⟩; have Bn1 : Hid (Below wc1.heap.size wc1 w1) := Lib.hid hb; have x1 : w1.cell? ⟨g5, 1, none⟩ = some (.slice a2 L2 c2) := (K5.out.after Bn1.out).cell 1; have y1 : w1.cell? ⟨g6, 1, none⟩ = some (.slice a2' M2 c2') := (K6.out.after Bn1.out).cell 1; clear hb)
          | fail)
        go_meet
        exact ⟨by rw [HD.out]; rfl, Bn2⟩
      rw [decide_eq_true e2] at H2
      by_cases e3 : n3 = n3'
      case neg =>
        rw [no_decb e3] at H3
        have HD := Lib.hid (no_decb (show (⟨n1, n2, n3, n4, n5, n6⟩ : NamesM) ≠ (⟨n1', n2', n3', n4', n5', n6'⟩ : NamesM) from fun ee => e3 (by injection ee)))
        clear e3
        go_wp2_with (first
          | (go_at_call 38; (with_reducible refine (H3.out _ (keep_trans BWc.out Bn2.out)).mono ?_); rintro e' w3 ⟨rfl, hb⟩; have Bn3 : Hid (Below wc1.heap.size wc1 w3) := Lib.hid (keep_trans Bn2.out hb); have x3 : w3.cell? ⟨g5, 3, none⟩ = some (.slice a4 L4 c4) := (K5.out.after Bn3.out).cell 3; have y3 : w3.cell? ⟨g6, 3, none⟩ = some (.slice a4' M4 c4') := (K6.out.after Bn3.out).cell 3; clear hb)
          | (go_at_call 38; (with_reducible refine (H2.out _ (keep_trans BWc.out Bn1.out)).mono ?_); rintro e' w2 ⟨rfl, hb⟩; have Bn2 : Hid (Below wc1.heap.size wc1 w2) := Lib.hid (keep_trans Bn1.out hb); have x2 : w2.cell? ⟨g5, 2, none⟩ = some (.slice a3 L3 c3) := (K5.out.after Bn2.out).cell 2; have y2 : w2.cell? ⟨g6, 2, none⟩ = some (.slice a3' M3 c3') := (K6.out.after Bn2.out).cell 2; clear hb)
          | (go_at_call 38; (with_reducible refine (H1.out _ (keep_trans BWc.out (Below.refl _ _))).mono ?_); rintro e' w1 ⟨rfl, hb⟩; have Bn1 : Hid (Below wc1.heap.size wc1 w1) := Lib.hid hb; have x1 : w1.cell? ⟨g5, 1, none⟩ = some (.slice a2 L2 c2) := (K5.out.after Bn1.out).cell 1; have y1 : w1.cell? ⟨g6, 1, none⟩ = some (.slice a2' M2 c2') := (K6.out.after Bn1.out).cell 1; clear hb)
          | fail)
        go_meet
        exact ⟨by rw [HD.out]; rfl, Bn3⟩
      rw [decide_eq_true e3] at H3
      by_cases e4 : n4 = n4'
      case neg =>
        rw [no_decb e4] at H4
        have HD := Lib.hid (no_decb (show (⟨n1, n2, n3, n4, n5, n6⟩ : NamesM) ≠ (⟨n1', n2', n3', n4', n5', n6'⟩ : NamesM) from fun ee => e4 (by injection ee)))
        clear e4
        go_wp2_with (first
          | (go_at_call 38; (with_reducible refine (H4.out _ (keep_trans BWc.out Bn3.out)).mono ?_); rintro e' w4 ⟨rfl, hb⟩; have Bn4 : Hid (Below wc1.heap.size wc1 w4) := Lib.hid (keep_trans Bn3.out hb); have x4 : w4.cell? ⟨g5, 4, none⟩ = some (.slice a5 L5 c5) := (K5.out.after Bn4.out).cell 4; have y4 : w4.cell? ⟨g6, 4, none⟩ = some (.slice a5' M5 c5') := (K6.out.after Bn4.out).cell 4; clear hb)
          | (go_at_call 38; (with_reducible refine (H3.out _ (keep_trans BWc.out Bn2.out)).mono ?_); rintro e' w3 ⟨rfl, hb⟩; have Bn3 : Hid (Below wc1.heap.size wc1 w3) := Lib.hid (keep_trans Bn2.out hb); have x3 : w3.cell? ⟨g5, 3, none⟩ = some (.slice a4 L4 c4) := (K5.out.after Bn3.out).cell 3; have y3 : w3.cell? ⟨g6, 3, none⟩ = some (.slice a4' M4 c4') := (K6.out.after Bn3.out).cell 3; clear hb)
          | (go_at_call 38; (with_reducible refine (H2.out _ (keep_trans BWc.out Bn1.out)).mono ?_); rintro e' w2 ⟨rfl, hb⟩; have Bn2 : Hid (Below wc1.heap.size wc1 w2) := Lib.hid (keep_trans Bn1.out hb); have x2 : w2.cell? ⟨g5, 2, none⟩ = some (.slice a3 L3 c3) := (K5.out.after Bn2.out).cell 2; have y2 : w2.cell? ⟨g6, 2, none⟩ = some (.slice a3' M3 c3') := (K6.out.after Bn2.out).cell 2; clear hb)
          | (go_at_call 38; (with_reducible refine (H1.out _ (keep_trans BWc.out (Below.refl _ _))).mono ?_); rintro e' w1 ⟨rfl, hb⟩; have Bn1 : Hid (Below wc1.heap.size wc1 w1) := Lib.hid hb; have x1 : w1.cell? ⟨g5, 1, none⟩ = some (.slice a2 L2 c2) := (K5.out.after Bn1.out).cell 1; have y1 : w1.cell? ⟨g6, 1, none⟩ = some (.slice a2' M2 c2') := (K6.out.after Bn1.out).cell 1; clear hb)
          | fail)
        go_meet
        exact ⟨by rw [HD.out]; rfl, Bn4⟩
      rw [decide_eq_true e4] at H4
      by_cases e5 : n5 = n5'
      case neg =>
        rw [no_decb e5] at H5
        have HD := Lib.hid (no_decb (show (⟨n1, n2, n3, n4, n5, n6⟩ : NamesM) ≠ (⟨n1', n2', n3', n4', n5', n6'⟩ : NamesM) from fun ee => e5 (by injection ee)))
        clear e5
        go_wp2_with (first
          | (go_at_call 38; (with_reducible refine (H5.out _ (keep_trans BWc.out Bn4.out)).mono ?_); rintro e' w5 ⟨rfl, hb⟩; have Bn5 : Hid (Below wc1.heap.size wc1 w5) := Lib.hid (keep_trans Bn4.out hb); have x5 : w5.cell? ⟨g5, 5, none⟩ = some (.slice a6 L6 c6) := (K5.out.after Bn5.out).cell 5; have y5 : w5.cell? ⟨g6, 5, none⟩ = some (.slice a6' M6 c6') := (K6.out.after Bn5.out).cell 5; clear hb)
          | (go_at_call 38; (with_reducible refine (H4.out _ (keep_trans BWc.out Bn3.out)).mono ?_); rintro e' w4 ⟨rfl, hb⟩; have Bn4 : Hid (Below wc1.heap.size wc1 w4) := Lib.hid (keep_trans Bn3.out hb); have x4 : w4.cell? ⟨g5, 4, none⟩ = some (.slice a5 L5 c5) := (K5.out.after Bn4.out).cell 4; have y4 : w4.cell? ⟨g6, 4, none⟩ = some (.slice a5' M5 c5') := (K6.out.after Bn4.out).cell 4; clear hb)
          | (go_at_call 38; (with_reducible refine (H3.out _ (keep_trans BWc.out Bn2.out)).mono ?_); rintro e' w3 ⟨rfl, hb⟩; have Bn3 : Hid (Below wc1.heap.size wc1 w3) := Lib.hid (keep_trans Bn2.out hb); have x3 : w3.cell? ⟨g5, 3, none⟩ = some (.slice a4 L4 c4) := (K5.out.after Bn3.out).cell 3; have y3 : w3.cell? ⟨g6, 3, none⟩ = some (.slice a4' M4 c4') := (K6.out.after Bn3.out).cell 3; clear hb)
          | (go_at_call 38; (with_reducible refine (H2.out _ (keep_trans BWc.out Bn1.out)).mono ?_); rintro e' w2 ⟨rfl, hb⟩; have Bn2 : Hid (Below wc1.heap.size wc1 w2) := Lib.hid (keep_trans Bn1.out hb); have x2 : w2.cell? ⟨g5, 2, none⟩ = some (.slice a3 L3 c3) := (K5.out.after Bn2.out).cell 2; have y2 : w2.cell? ⟨g6, 2, none⟩ = some (.slice a3' M3 c3') := (K6.out.after Bn2.out).cell 2; clear hb)
          | (go_at_call 38; (with_reducible refine (H1.out _ (keep_trans BWc.out (Below.refl _ _))).mono ?_); rintro e' w1 ⟨rfl, hb⟩; have Bn1 : Hid (Below wc1.heap.size wc1 w1) := Lib.hid hb; have x1 : w1.cell? ⟨g5, 1, none⟩ = some (.slice a2 L2 c2) := (K5.out.after Bn1.out).cell 1; have y1 : w1.cell? ⟨g6, 1, none⟩ = some (.slice a2' M2 c2') := (K6.out.after Bn1.out).cell 1; clear hb)
          | fail)
        go_meet
        exact ⟨by rw [HD.out]; rfl, Bn5⟩
      rw [decide_eq_true e5] at H5
      by_cases e6 : n6 = n6'
      case neg =>
        rw [no_decb e6] at H6
        have HD := Lib.hid (no_decb (show (⟨n1, n2, n3, n4, n5, n6⟩ : NamesM) ≠ (⟨n1', n2', n3', n4', n5', n6'⟩ : NamesM) from fun ee => e6 (by injection ee)))
        clear e6
        go_wp2_with (first
          | (go_at_call 38; (with_reducible refine (H6.out _ (keep_trans BWc.out Bn5.out)).mono ?_); rintro e' w6 ⟨rfl, hb⟩; have Bn6 : Hid (Below wc1.heap.size wc1 w6) := Lib.hid (keep_trans Bn5.out hb); clear hb)
          | (go_at_call 38; (with_reducible refine (H5.out _ (keep_trans BWc.out Bn4.out)).mono ?_); rintro e' w5 ⟨rfl, hb⟩; have Bn5 : Hid (Below wc1.heap.size wc1 w5) := Lib.hid (keep_trans Bn4.out hb); have x5 : w5.cell? ⟨g5, 5, none⟩ = some (.slice a6 L6 c6) := (K5.out.after Bn5.out).cell 5; have y5 : w5.cell? ⟨g6, 5, none⟩ = some (.slice a6' M6 c6') := (K6.out.after Bn5.out).cell 5; clear hb)
          | (go_at_call 38; (with_reducible refine (H4.out _ (keep_trans BWc.out Bn3.out)).mono ?_); rintro e' w4 ⟨rfl, hb⟩; have Bn4 : Hid (Below wc1.heap.size wc1 w4) := Lib.hid (keep_trans Bn3.out hb); have x4 : w4.cell? ⟨g5, 4, none⟩ = some (.slice a5 L5 c5) := (K5.out.after Bn4.out).cell 4; have y4 : w4.cell? ⟨g6, 4, none⟩ = some (.slice a5' M5 c5') := (K6.out.after Bn4.out).cell 4; clear hb)
          | (go_at_call 38; (with_reducible refine (H3.out _ (keep_trans BWc.out Bn2.out)).mono ?_); rintro e' w3 ⟨rfl, hb⟩; have Bn3 : Hid (Below wc1.heap.size wc1 w3) := Lib.hid (keep_trans Bn2.out hb); have x3 : w3.cell? ⟨g5, 3, none⟩ = some (.slice a4 L4 c4) := (K5.out.after Bn3.out).cell 3; have y3 : w3.cell? ⟨g6, 3, none⟩ = some (.slice a4' M4 c4') := (K6.out.after Bn3.out).cell 3; clear hb)
          | (go_at_call 38; (with_reducible refine (H2.out _ (keep_trans BWc.out Bn1.out)).mono ?_); rintro e' w2 ⟨rfl, hb⟩; have Bn2 : Hid (Below wc1.heap.size wc1 w2) := Lib.hid (keep_trans Bn1.out hb); have x2 : w2.cell? ⟨g5, 2, none⟩ = some (.slice a3 L3 c3) := (K5.out.after Bn2.out).cell 2; have y2 : w2.cell? ⟨g6, 2, none⟩ = some (.slice a3' M3 c3') := (K6.out.after Bn2.out).cell 2; clear hb)
          | (go_at_call 38; (with_reducible refine (H1.out _ (keep_trans BWc.out (Below.refl _ _))).mono ?_); rintro e' w1 ⟨rfl, hb⟩; have Bn1 : Hid (Below wc1.heap.size wc1 w1) := Lib.hid hb; have x1 : w1.cell? ⟨g5, 1, none⟩ = some (.slice a2 L2 c2) := (K5.out.after Bn1.out).cell 1; have y1 : w1.cell? ⟨g6, 1, none⟩ = some (.slice a2' M2 c2') := (K6.out.after Bn1.out).cell 1; clear hb)
          | fail)
        go_meet
        exact ⟨by rw [HD.out]; rfl, Bn6⟩
      rw [decide_eq_true e6] at H6
      have HD := Lib.hid (decide_eq_true (show (⟨n1, n2, n3, n4, n5, n6⟩ : NamesM) = (⟨n1', n2', n3', n4', n5', n6'⟩ : NamesM) by rw [e1, e2, e3, e4, e5, e6]))
      clear e1 e2 e3 e4 e5 e6
      go_wp2_with (first
        | (go_at_call 38; (with_reducible refine (H6.out _ (keep_trans BWc.out Bn5.out)).mono ?_); rintro e' w6 ⟨rfl, hb⟩; have Bn6 : Hid (Below wc1.heap.size wc1 w6) := Lib.hid (keep_trans Bn5.out hb); clear hb)
        | (go_at_call 38; (with_reducible refine (H5.out _ (keep_trans BWc.out Bn4.out)).mono ?_); rintro e' w5 ⟨rfl, hb⟩; have Bn5 : Hid (Below wc1.heap.size wc1 w5) := Lib.hid (keep_trans Bn4.out hb); have x5 : w5.cell? ⟨g5, 5, none⟩ = some (.slice a6 L6 c6) := (K5.out.after Bn5.out).cell 5; have y5 : w5.cell? ⟨g6, 5, none⟩ = some (.slice a6' M6 c6') := (K6.out.after Bn5.out).cell 5; clear hb)
        | (go_at_call 38; (with_reducible refine (H4.out _ (keep_trans BWc.out Bn3.out)).mono ?_); rintro e' w4 ⟨rfl, hb⟩; have Bn4 : Hid (Below wc1.heap.size wc1 w4) := Lib.hid (keep_trans Bn3.out hb); have x4 : w4.cell? ⟨g5, 4, none⟩ = some (.slice a5 L5 c5) := (K5.out.after Bn4.out).cell 4; have y4 : w4.cell? ⟨g6, 4, none⟩ = some (.slice a5' M5 c5') := (K6.out.after Bn4.out).cell 4; clear hb)
        | (go_at_call 38; (with_reducible refine (H3.out _ (keep_trans BWc.out Bn2.out)).mono ?_); rintro e' w3 ⟨rfl, hb⟩; have Bn3 : Hid (Below wc1.heap.size wc1 w3) := Lib.hid (keep_trans Bn2.out hb); have x3 : w3.cell? ⟨g5, 3, none⟩ = some (.slice a4 L4 c4) := (K5.out.after Bn3.out).cell 3; have y3 : w3.cell? ⟨g6, 3, none⟩ = some (.slice a4' M4 c4') := (K6.out.after Bn3.out).cell 3; clear hb)
        | (go_at_call 38; (with_reducible refine (H2.out _ (keep_trans BWc.out Bn1.out)).mono ?_); rintro e' w2 ⟨rfl, hb⟩; have Bn2 : Hid (Below wc1.heap.size wc1 w2) := Lib.hid (keep_trans Bn1.out hb); have x2 : w2.cell? ⟨g5, 2, none⟩ = some (.slice a3 L3 c3) := (K5.out.after Bn2.out).cell 2; have y2 : w2.cell? ⟨g6, 2, none⟩ = some (.slice a3' M3 c3') := (K6.out.after Bn2.out).cell 2; clear hb)
        | (go_at_call 38; (with_reducible refine (H1.out _ (keep_trans BWc.out (Below.refl _ _))).mono ?_); rintro e' w1 ⟨rfl, hb⟩; have Bn1 : Hid (Below wc1.heap.size wc1 w1) := Lib.hid hb; have x1 : w1.cell? ⟨g5, 1, none⟩ = some (.slice a2 L2 c2) := (K5.out.after Bn1.out).cell 1; have y1 : w1.cell? ⟨g6, 1, none⟩ = some (.slice a2' M2 c2') := (K6.out.after Bn1.out).cell 1; clear hb)
        | fail)
      go_meet
      exact ⟨by rw [HD.out]; rfl, Bn6⟩
    case rest =>
      rename World => wd
      obtain ⟨rfl, HBD⟩ := hcut
      have KXd := Lib.hid (KXc.out.after HBD.out)
      have KZd := Lib.hid (KZc.out.after HBD.out)
      have BWd : Hid (Below w.heap.size w wd) := Lib.hid (keep_trans BWc.out HBD.out)
      clear KXc KZc BWc HBD K5 K6 H1 H2 H3 H4 H5 H6
      by_cases eN : (⟨n1, n2, n3, n4, n5, n6⟩ : NamesM) = (⟨n1', n2', n3', n4', n5', n6'⟩ : NamesM)
      case neg =>
        refine ‹∀ (a : Act) (w_1 : World), Code.wp Tryz.prog _ _ a w_1 → _› _ _ ?_
        rw [no_decb eN]
        have HD : Hid (bF = false) := Lib.hid (HBF.out.trans (no_decb (show (⟨hz, (⟨n1, n2, n3, n4, n5, n6⟩ : NamesM), pa, dos, ro, tr, ha⟩ : WorldM) ≠ (⟨hz', (⟨n1', n2', n3', n4', n5', n6'⟩ : NamesM), pa', dos', ro', tr', ha'⟩ : WorldM) from fun ee => eN (by injection ee))))
        clear eN
        go_wp2_with fail
        go_ret
        exact ⟨by rw [HD.out]; rfl, BWd.out⟩
      refine ‹∀ (a : Act) (w_1 : World), Code.wp Tryz.prog _ _ a w_1 → _› _ _ ?_
      rw [decide_eq_true eN]
      have HN := Lib.hid eN
      clear eN
      go_upto_region 4 with fail
      go_cut [105] from 60 to 105 (fun v we => v = .bool (!decide (hz = hz' ∧ pa = pa' ∧ dos = dos' ∧ tr = tr' ∧ ha = ha' ∧ P4 = Q4)) ∧ Hid (Below wd.heap.size wd we))
      case first =>
        have x0 : wd.cell? ⟨B, 0, none⟩ = some (.int .i64 hz) := KXd.out.cell 0
        have x7 : wd.cell? ⟨B, 7, none⟩ = some (.slice b2 P2 d2) := KXd.out.cell 7
        have y0 : wd.cell? ⟨B + 1, 0, none⟩ = some (.int .i64 hz') := KZd.out.cell 0
        have y7 : wd.cell? ⟨B + 1, 7, none⟩ = some (.slice b2' Q2 d2') := KZd.out.cell 7
        by_cases e0 : hz = hz'
        case neg =>
          have q0 : (hz == hz') = false := beq_eq_false_iff_ne.2 e0
          have q1 : (hz != hz') = true := by rw [bne, q0]; rfl
          have HD := Lib.hid (decide_eq_false (show ¬ (hz = hz' ∧ pa = pa' ∧ dos = dos' ∧ tr = tr' ∧ ha = ha' ∧ P4 = Q4) from fun ee => e0 ee.1))
          clear e0
          go_wp2_with fail
          go_meet
          exact ⟨by rw [HD.out]; rfl, Lib.hid (Below.refl _ _)⟩
        have q0 : (hz == hz') = true := by rw [e0]; exact beq_self_eq_true _
        have q1 : (hz != hz') = false := by rw [bne, q0]; rfl
        by_cases e2 : pa = pa'
        case neg =>
          rw [no_decb e2] at J2
          have HD := Lib.hid (decide_eq_false (show ¬ (hz = hz' ∧ pa = pa' ∧ dos = dos' ∧ tr = tr' ∧ ha = ha' ∧ P4 = Q4) from fun ee => e2 ee.2.1))
          clear e2 e0
          go_wp2_with (first
            | (go_at_call 62; (with_reducible refine (J2.out _ (keep_trans BWd.out (Below.refl _ _))).mono ?_); rintro e' w1 ⟨rfl, hb⟩; have Bm1 : Hid (Below wd.heap.size wd w1) := Lib.hid hb; have x20 : w1.cell? ⟨B, 8, none⟩ = some (.slice b3 P3 d3) := (KXd.out.after Bm1.out).cell 8; have y20 : w1.cell? ⟨B + 1, 8, none⟩ = some (.slice b3' Q3 d3') := (KZd.out.after Bm1.out).cell 8; clear hb)
            | fail)
          go_meet
          exact ⟨by rw [HD.out]; rfl, Bm1⟩
        rw [decide_eq_true e2] at J2
        by_cases e3 : dos = dos'
        case neg =>
          rw [no_decb e3] at J3
          have HD := Lib.hid (decide_eq_false (show ¬ (hz = hz' ∧ pa = pa' ∧ dos = dos' ∧ tr = tr' ∧ ha = ha' ∧ P4 = Q4) from fun ee => e3 ee.2.2.1))
          clear e3 e0
          go_wp2_with (first
            | (go_at_call 63; (with_reducible refine (J3.out _ (keep_trans BWd.out Bm1.out)).mono ?_); rintro e' w2 ⟨rfl, hb⟩; have Bm2 : Hid (Below wd.heap.size wd w2) := Lib.hid (keep_trans Bm1.out hb); have x21 : w2.cell? ⟨B, 10, none⟩ = some (.slice b5 P5 d5) := (KXd.out.after Bm2.out).cell 10; have y21 : w2.cell? ⟨B + 1, 10, none⟩ = some (.slice b5' Q5 d5') := (KZd.out.after Bm2.out).cell 10; clear hb)
            | (go_at_call 62; (with_reducible refine (J2.out _ (keep_trans BWd.out (Below.refl _ _))).mono ?_); rintro e' w1 ⟨rfl, hb⟩; have Bm1 : Hid (Below wd.heap.size wd w1) := Lib.hid hb; have x20 : w1.cell? ⟨B, 8, none⟩ = some (.slice b3 P3 d3) := (KXd.out.after Bm1.out).cell 8; have y20 : w1.cell? ⟨B + 1, 8, none⟩ = some (.slice b3' Q3 d3') := (KZd.out.after Bm1.out).cell 8; clear hb)
            | fail)
          go_meet
          exact ⟨by rw [HD.out]; rfl, Bm2⟩
        rw [decide_eq_true e3] at J3
        by_cases e5 : tr = tr'
        case neg =>
          rw [no_decb e5] at J5
          have HD := Lib.hid (decide_eq_false (show ¬ (hz = hz' ∧ pa = pa' ∧ dos = dos' ∧ tr = tr' ∧ ha = ha' ∧ P4 = Q4) from fun ee => e5 ee.2.2.2.1))
          clear e5 e0
          go_wp2_with (first
            | (go_at_call 64; (with_reducible refine (J5.out _ (keep_trans BWd.out Bm2.out)).mono ?_); rintro e' w3 ⟨rfl, hb⟩; have Bm3 : Hid (Below wd.heap.size wd w3) := Lib.hid (keep_trans Bm2.out hb); have x22 : w3.cell? ⟨B, 11, none⟩ = some (.slice b6 P6 d6) := (KXd.out.after Bm3.out).cell 11; have y22 : w3.cell? ⟨B + 1, 11, none⟩ = some (.slice b6' Q6 d6') := (KZd.out.after Bm3.out).cell 11; clear hb)
            | (go_at_call 63; (with_reducible refine (J3.out _ (keep_trans BWd.out Bm1.out)).mono ?_); rintro e' w2 ⟨rfl, hb⟩; have Bm2 : Hid (Below wd.heap.size wd w2) := Lib.hid (keep_trans Bm1.out hb); have x21 : w2.cell? ⟨B, 10, none⟩ = some (.slice b5 P5 d5) := (KXd.out.after Bm2.out).cell 10; have y21 : w2.cell? ⟨B + 1, 10, none⟩ = some (.slice b5' Q5 d5') := (KZd.out.after Bm2.out).cell 10; clear hb)
            | (go_at_call 62; (with_reducible refine (J2.out _ (keep_trans BWd.out (Below.refl _ _))).mono ?_); rintro e' w1 ⟨rfl, hb⟩; have Bm1 : Hid (Below wd.heap.size wd w1) := Lib.hid hb; have x20 : w1.cell? ⟨B, 8, none⟩ = some (.slice b3 P3 d3) := (KXd.out.after Bm1.out).cell 8; have y20 : w1.cell? ⟨B + 1, 8, none⟩ = some (.slice b3' Q3 d3') := (KZd.out.after Bm1.out).cell 8; clear hb)
            | fail)
          go_meet
          exact ⟨by rw [HD.out]; rfl, Bm3⟩
        rw [decide_eq_true e5] at J5
        by_cases e6 : ha = ha'
        case neg =>
          rw [no_decb e6] at J6
          have HD := Lib.hid (decide_eq_false (show ¬ (hz = hz' ∧ pa = pa' ∧ dos = dos' ∧ tr = tr' ∧ ha = ha' ∧ P4 = Q4) from fun ee => e6 ee.2.2.2.2.1))
          clear e6 e0
          go_wp2_with (first
            | (go_at_call 65; (with_reducible refine (J6.out _ (keep_trans BWd.out Bm3.out)).mono ?_); rintro e' w4 ⟨rfl, hb⟩; have Bm4 : Hid (Below wd.heap.size wd w4) := Lib.hid (keep_trans Bm3.out hb); have x23 : w4.cell? ⟨B, 9, none⟩ = some (.slice b4 P4 d4) := (KXd.out.after Bm4.out).cell 9; have y23 : w4.cell? ⟨B + 1, 9, none⟩ = some (.slice b4' Q4 d4') := (KZd.out.after Bm4.out).cell 9; clear hb)
            | (go_at_call 64; (with_reducible refine (J5.out _ (keep_trans BWd.out Bm2.out)).mono ?_); rintro e' w3 ⟨rfl, hb⟩; have Bm3 : Hid (Below wd.heap.size wd w3) := Lib.hid (keep_trans Bm2.out hb); have x22 : w3.cell? ⟨B, 11, none⟩ = some (.slice b6 P6 d6) := (KXd.out.after Bm3.out).cell 11; have y22 : w3.cell? ⟨B + 1, 11, none⟩ = some (.slice b6' Q6 d6') := (KZd.out.after Bm3.out).cell 11; clear hb)
            | (go_at_call 63; (with_reducible refine (J3.out _ (keep_trans BWd.out Bm1.out)).mono ?_); rintro e' w2 ⟨rfl, hb⟩; have Bm2 : Hid (Below wd.heap.size wd w2) := Lib.hid (keep_trans Bm1.out hb); have x21 : w2.cell? ⟨B, 10, none⟩ = some (.slice b5 P5 d5) := (KXd.out.after Bm2.out).cell 10; have y21 : w2.cell? ⟨B + 1, 10, none⟩ = some (.slice b5' Q5 d5') := (KZd.out.after Bm2.out).cell 10; clear hb)
            | (go_at_call 62; (with_reducible refine (J2.out _ (keep_trans BWd.out (Below.refl _ _))).mono ?_); rintro e' w1 ⟨rfl, hb⟩; have Bm1 : Hid (Below wd.heap.size wd w1) := Lib.hid hb; have x20 : w1.cell? ⟨B, 8, none⟩ = some (.slice b3 P3 d3) := (KXd.out.after Bm1.out).cell 8; have y20 : w1.cell? ⟨B + 1, 8, none⟩ = some (.slice b3' Q3 d3') := (KZd.out.after Bm1.out).cell 8; clear hb)
            | fail)
          go_meet
          exact ⟨by rw [HD.out]; rfl, Bm4⟩
        rw [decide_eq_true e6] at J6
        by_cases e4' : P4 = Q4
        case neg =>
          have q4 : ((P4 : Int) == (Q4 : Int)) = false := by rw [beq_eq_false_iff_ne]; omega
          have q5 : ((P4 : Int) != (Q4 : Int)) = true := by rw [bne, q4]; rfl
          have HD := Lib.hid (decide_eq_false (show ¬ (hz = hz' ∧ pa = pa' ∧ dos = dos' ∧ tr = tr' ∧ ha = ha' ∧ P4 = Q4) from fun ee => e4' ee.2.2.2.2.2))
          clear e0 e2 e3 e5 e6 e4'
          go_wp2_with (first
            | (go_at_call 65; (with_reducible refine (J6.out _ (keep_trans BWd.out Bm3.out)).mono ?_); rintro e' w4 ⟨rfl, hb⟩; have Bm4 : Hid (Below wd.heap.size wd w4) := Lib.hid (keep_trans Bm3.out hb); have x23 : w4.cell? ⟨B, 9, none⟩ = some (.slice b4 P4 d4) := (KXd.out.after Bm4.out).cell 9; have y23 : w4.cell? ⟨B + 1, 9, none⟩ = some (.slice b4' Q4 d4') := (KZd.out.after Bm4.out).cell 9; clear hb)
            | (go_at_call 64; (with_reducible refine (J5.out _ (keep_trans BWd.out Bm2.out)).mono ?_); rintro e' w3 ⟨rfl, hb⟩; have Bm3 : Hid (Below wd.heap.size wd w3) := Lib.hid (keep_trans Bm2.out hb); have x22 : w3.cell? ⟨B, 11, none⟩ = some (.slice b6 P6 d6) := (KXd.out.after Bm3.out).cell 11; have y22 : w3.cell? ⟨B + 1, 11, none⟩ = some (.slice b6' Q6 d6') := (KZd.out.after Bm3.out).cell 11; clear hb)
            | (go_at_call 63; (with_reducible refine (J3.out _ (keep_trans BWd.out Bm1.out)).mono ?_); rintro e' w2 ⟨rfl, hb⟩; have Bm2 : Hid (Below wd.heap.size wd w2) := Lib.hid (keep_trans Bm1.out hb); have x21 : w2.cell? ⟨B, 10, none⟩ = some (.slice b5 P5 d5) := (KXd.out.after Bm2.out).cell 10; have y21 : w2.cell? ⟨B + 1, 10, none⟩ = some (.slice b5' Q5 d5') := (KZd.out.after Bm2.out).cell 10; clear hb)
            | (go_at_call 62; (with_reducible refine (J2.out _ (keep_trans BWd.out (Below.refl _ _))).mono ?_); rintro e' w1 ⟨rfl, hb⟩; have Bm1 : Hid (Below wd.heap.size wd w1) := Lib.hid hb; have x20 : w1.cell? ⟨B, 8, none⟩ = some (.slice b3 P3 d3) := (KXd.out.after Bm1.out).cell 8; have y20 : w1.cell? ⟨B + 1, 8, none⟩ = some (.slice b3' Q3 d3') := (KZd.out.after Bm1.out).cell 8; clear hb)
            | fail)
          go_meet
          exact ⟨by rw [HD.out]; rfl, Bm4⟩
        have q4 : ((P4 : Int) == (Q4 : Int)) = true := by rw [beq_iff_eq]; omega
        have q5 : ((P4 : Int) != (Q4 : Int)) = false := by rw [bne, q4]; rfl
        have HD := Lib.hid (decide_eq_true (show (hz = hz' ∧ pa = pa' ∧ dos = dos' ∧ tr = tr' ∧ ha = ha' ∧ P4 = Q4) from ⟨e0, e2, e3, e5, e6, e4'⟩))
        clear e0 e2 e3 e5 e6 e4'
        go_wp2_with (first
          | (go_at_call 65; (with_reducible refine (J6.out _ (keep_trans BWd.out Bm3.out)).mono ?_); rintro e' w4 ⟨rfl, hb⟩; have Bm4 : Hid (Below wd.heap.size wd w4) := Lib.hid (keep_trans Bm3.out hb); have x23 : w4.cell? ⟨B, 9, none⟩ = some (.slice b4 P4 d4) := (KXd.out.after Bm4.out).cell 9; have y23 : w4.cell? ⟨B + 1, 9, none⟩ = some (.slice b4' Q4 d4') := (KZd.out.after Bm4.out).cell 9; clear hb)
          | (go_at_call 64; (with_reducible refine (J5.out _ (keep_trans BWd.out Bm2.out)).mono ?_); rintro e' w3 ⟨rfl, hb⟩; have Bm3 : Hid (Below wd.heap.size wd w3) := Lib.hid (keep_trans Bm2.out hb); have x22 : w3.cell? ⟨B, 11, none⟩ = some (.slice b6 P6 d6) := (KXd.out.after Bm3.out).cell 11; have y22 : w3.cell? ⟨B + 1, 11, none⟩ = some (.slice b6' Q6 d6') := (KZd.out.after Bm3.out).cell 11; clear hb)
          | (go_at_call 63; (with_reducible refine (J3.out _ (keep_trans BWd.out Bm1.out)).mono ?_); rintro e' w2 ⟨rfl, hb⟩; have Bm2 : Hid (Below wd.heap.size wd w2) := Lib.hid (keep_trans Bm1.out hb); have x21 : w2.cell? ⟨B, 10, none⟩ = some (.slice b5 P5 d5) := (KXd.out.after Bm2.out).cell 10; have y21 : w2.cell? ⟨B + 1, 10, none⟩ = some (.slice b5' Q5 d5') := (KZd.out.after Bm2.out).cell 10; clear hb)
          | (go_at_call 62; (with_reducible refine (J2.out _ (keep_trans BWd.out (Below.refl _ _))).mono ?_); rintro e' w1 ⟨rfl, hb⟩; have Bm1 : Hid (Below wd.heap.size wd w1) := Lib.hid hb; have x20 : w1.cell? ⟨B, 8, none⟩ = some (.slice b3 P3 d3) := (KXd.out.after Bm1.out).cell 8; have y20 : w1.cell? ⟨B + 1, 8, none⟩ = some (.slice b3' Q3 d3') := (KZd.out.after Bm1.out).cell 8; clear hb)
          | fail)
        go_meet
        exact ⟨by rw [HD.out]; rfl, Bm4⟩
      case rest =>
        rename World => we
        obtain ⟨rfl, HBE⟩ := hcut
        have KXe := Lib.hid (KXd.out.after HBE.out)
        have KZe := Lib.hid (KZd.out.after HBE.out)
        have BWe : Hid (Below w.heap.size w we) := Lib.hid (keep_trans BWd.out HBE.out)
        clear KXd KZd BWd HBE J2 J3 J5 J6
        by_cases eR : (hz = hz' ∧ pa = pa' ∧ dos = dos' ∧ tr = tr' ∧ ha = ha' ∧ P4 = Q4)
        case neg =>
          refine ‹∀ (a : Act) (w_1 : World), Code.wp Tryz.prog _ _ a w_1 → _› _ _ ?_
          rw [decide_eq_false eR]
          have HD : Hid (bF = false) := Lib.hid (HBF.out.trans (no_decb (show (⟨hz, (⟨n1, n2, n3, n4, n5, n6⟩ : NamesM), pa, dos, ro, tr, ha⟩ : WorldM) ≠ (⟨hz', (⟨n1', n2', n3', n4', n5', n6'⟩ : NamesM), pa', dos', ro', tr', ha'⟩ : WorldM) from fun ee => eR (by injection ee with h1 h2 h3 h4 h5 h6 h7; exact ⟨h1, h3, h4, h6, h7, by rw [hn.out, hm.out, h5]⟩))))
          clear eR
          go_wp2_with fail
          go_ret
          exact ⟨by rw [HD.out]; rfl, BWe.out⟩
        refine ‹∀ (a : Act) (w_1 : World), Code.wp Tryz.prog _ _ a w_1 → _› _ _ ?_
        rw [decide_eq_true eR]
        obtain ⟨rfl, rfl, rfl, rfl, rfl, rfl⟩ := eR
        have HFIN : Hid (∀ b : Bool, decide (ro = ro') = b → bF = b) := Lib.hid (fun b hb => by rw [← hb, HBF.out]; exact decide_eq_decide.2 ⟨fun ee => by injection ee, fun ee => by rw [HN.out, ee]⟩)
        go_wp2_with fail
        go_loopw [7] (fun v wr => ∃ k : Nat, v = .int .i64 k ∧ k ≤ P4 ∧ Hid (ro.take k = ro'.take k) ∧ Hid (Below we.heap.size we wr)) (fun v _ => P4 - (intOf v).toNat)
        case atStart => exact ⟨0, rfl, by omega, Lib.hid (by simp), Lib.hid (Below.refl _ _)⟩
        case round =>
          obtain ⟨k, rfl, hk, HT, HB⟩ := hrel
          have BWr : Hid (Below w.heap.size w wr) := Lib.hid (keep_trans BWe.out HB.out)
          have KXr := Lib.hid (KXe.out.after HB.out)
          have KZr := Lib.hid (KZe.out.after HB.out)
          have x9 : wr.cell? ⟨B, 9, none⟩ = some (.slice b4 P4 d4) := KXr.out.cell 9
          have y9 : wr.cell? ⟨B + 1, 9, none⟩ = some (.slice b4' P4 d4') := KZr.out.cell 9
          by_cases hlt : k < P4
          · obtain ⟨a, ha_⟩ := at_in ro hn hlt
            obtain ⟨b, hb_⟩ := at_in ro' hm hlt
            have HAA := Lib.hid ha_
            have HBB2 := Lib.hid hb_
            obtain ⟨ad, rfl, hA, sa, sc, ra, rc, ya, yc, i0, i1, i2, ga⟩ := rtos_at (rd_later HX.out BWr.out) (HR.out.later BWr.out) ha_
            obtain ⟨bd, rfl, hB2, sb, sd, rb, rd, yb, yd, j0, j1, j2, gb⟩ := rtos_at (rd_later HY.out BWr.out) (HS.out.later BWr.out) hb_
            have lo1 := HW.out a (List.mem_of_getElem? ha_)
            have lo2 := HV.out b (List.mem_of_getElem? hb_)
            obtain ⟨st, ri, sy⟩ := a
            obtain ⟨st', ri', sy'⟩ := b
            dsimp only at i0 i1 i2 j0 j1 j2 lo1 lo2
            have G1 := Lib.hid (fun w' (hb : Below wr.heap.size wr w') => samed_it w' sa sb st.length st'.length sc sd st st' (Lib.hid rfl) (Lib.hid rfl) (by omega) (by omega) (rd_later ga.hs hb) (rd_later gb.hs hb))
            have G2 := Lib.hid (fun w' (hb : Below wr.heap.size wr w') => samed_int w' ra rb ri.length ri'.length rc rd ri ri' (Lib.hid rfl) (Lib.hid rfl) (by omega) (by omega) (rd_later ga.hr hb) (rd_later gb.hr hb))
            have G3 := Lib.hid (fun w' (hb : Below wr.heap.size wr w') => samed_int w' ya yb sy.length sy'.length yc yd sy sy' (Lib.hid rfl) (Lib.hid rfl) (by omega) (by omega) (rd_later ga.hy hb) (rd_later gb.hy hb))
            generalize st.length = u1 at *
            generalize ri.length = u2 at *
            generalize sy.length = u3 at *
            generalize st'.length = v1 at *
            generalize ri'.length = v2 at *
            generalize sy'.length = v3 at *
            have KC : Hid (∀ w', Below wr.heap.size wr w' → w'.cell? ⟨B, 9, none⟩ = some (.slice (some ad) P4 d4) ∧ w'.cell? ⟨B + 1, 9, none⟩ = some (.slice (some bd) P4 d4') ∧ w'.cell? (ad.add (k * 3)) = some (.slice sa u1 sc) ∧ w'.cell? ⟨(ad.add (k * 3)).block, (ad.add (k * 3)).off + 1, none⟩ = some (.slice ra u2 rc) ∧ w'.cell? ⟨(ad.add (k * 3)).block, (ad.add (k * 3)).off + 2, none⟩ = some (.slice ya u3 yc) ∧ w'.cell? (bd.add (k * 3)) = some (.slice sb v1 sd) ∧ w'.cell? ⟨(bd.add (k * 3)).block, (bd.add (k * 3)).off + 1, none⟩ = some (.slice rb v2 rd) ∧ w'.cell? ⟨(bd.add (k * 3)).block, (bd.add (k * 3)).off + 2, none⟩ = some (.slice yb v3 yd)) := Lib.hid (fun w' h => by
              have hb1 : (ad.add (k * 3)).block < wr.heap.size := by rw [block_of_add]; exact hA
              have hb2 : (bd.add (k * 3)).block < wr.heap.size := by rw [block_of_add]; exact hB2
              exact ⟨(KXr.out.after h).cell 9, (KZr.out.after h).cell 9, (World.cell?_of_block (a := (ad.add (k * 3))) (h.block _ hb1)).trans i0, (World.cell?_of_block (a := ⟨(ad.add (k * 3)).block, (ad.add (k * 3)).off + 1, none⟩) (h.block _ hb1)).trans i1, (World.cell?_of_block (a := ⟨(ad.add (k * 3)).block, (ad.add (k * 3)).off + 2, none⟩) (h.block _ hb1)).trans i2, (World.cell?_of_block (a := (bd.add (k * 3))) (h.block _ hb2)).trans j0, (World.cell?_of_block (a := ⟨(bd.add (k * 3)).block, (bd.add (k * 3)).off + 1, none⟩) (h.block _ hb2)).trans j1, (World.cell?_of_block (a := ⟨(bd.add (k * 3)).block, (bd.add (k * 3)).off + 2, none⟩) (h.block _ hb2)).trans j2⟩)
            have hi : (k : Int) < (P4 : Int) := by omega
            have hi0 : ¬ ((k : Int) < 0) := by omega
            clear ga gb ha_ hb_ i0 i1 i2 j0 j1 j2 lo1 lo2
            have HEQ : Hid (∀ hh : (st = st' ∧ ri = ri' ∧ sy = sy'), ro.take (k + 1) = ro'.take (k + 1)) := Lib.hid (fun hh => take_more2 HT.out HAA.out HBB2.out (by obtain ⟨rfl, rfl, rfl⟩ := hh; rfl))
            have HNE : Hid (∀ hh : ¬ (st = st' ∧ ri = ri' ∧ sy = sy'), decide (ro = ro') = false) := Lib.hid (fun hh => row_ne HAA.out HBB2.out (fun ee => hh (by injection ee with h1 h2 h3; exact ⟨h1, h2, h3⟩)))
            clear HAA HBB2 HT
            go_upto_region 9 with fail
            clear x9 y9
            go_cut [8, 9] from 113 to 122 (fun v8 v9 wf => ∃ g8 g9 : Nat, v8 = .pointer (some ⟨g8, 0, none⟩) ∧ v9 = .pointer (some ⟨g9, 0, none⟩) ∧ Hid (Blk wf g8 111 [.slice sa u1 sc, .slice ra u2 rc, .slice ya u3 yc]) ∧ Hid (Blk wf g9 111 [.slice sb v1 sd, .slice rb v2 rd, .slice yb v3 yd]) ∧ Hid (Below wr.heap.size wr wf))
            case first =>
              refine wp_region_held_drew (S := fun w' => Hid (Below wr.heap.size wr w')) (by kernel_rfl) ?_ (fun hHeld => ?_)
              · exact Lib.hid (below_drew (Below.refl _ _))
              refine wpAnyH_take (i := 0) (v := ?vuk13) rfl (by kernel_rfl) (by kernel_rfl) (by kernel_rfl) (fun _ _ _ h => h) (Or.inl ⟨by rfl, ?hyuk13⟩) (by assumption) ?restuk13
              case hyuk13 => (intro w' hSw; obtain ⟨kc0, kc1, kc2, kc3, kc4, kc5, kc6, kc7⟩ := KC.out w' hSw.out; clear hSw; go_simp; try with_reducible rfl)
              simp only [Act.put, List.getElem_toArray, List.getElem_cons_zero, List.getElem_cons_succ, List.setIfInBounds_toArray, List.set_cons_zero, List.set_cons_succ]
              refine wpAnyH_take (i := 1) (v := ?vuk14) rfl (by kernel_rfl) (by kernel_rfl) (by kernel_rfl) (fun _ _ _ h => h) (Or.inl ⟨by rfl, ?hyuk14⟩) (by assumption) ?restuk14
              case hyuk14 => (intro w' hSw; obtain ⟨kc0, kc1, kc2, kc3, kc4, kc5, kc6, kc7⟩ := KC.out w' hSw.out; clear hSw; go_simp; try with_reducible rfl)
              simp only [Act.put, List.getElem_toArray, List.getElem_cons_zero, List.getElem_cons_succ, List.setIfInBounds_toArray, List.set_cons_zero, List.set_cons_succ]
              refine wpAnyH_take (i := 2) (v := ?vuk15) rfl (by kernel_rfl) (by kernel_rfl) (by kernel_rfl) (fun _ _ _ h => h) (Or.inl ⟨by rfl, ?hyuk15⟩) (by assumption) ?restuk15
              case hyuk15 => (intro w' hSw; obtain ⟨kc0, kc1, kc2, kc3, kc4, kc5, kc6, kc7⟩ := KC.out w' hSw.out; clear hSw; go_simp; try with_reducible rfl)
              simp only [Act.put, List.getElem_toArray, List.getElem_cons_zero, List.getElem_cons_succ, List.setIfInBounds_toArray, List.set_cons_zero, List.set_cons_succ]
              refine wpAnyH_take (i := 3) (v := ?vuk16) rfl (by kernel_rfl) (by kernel_rfl) (by kernel_rfl) (fun _ _ _ h => h) (Or.inl ⟨by rfl, ?hyuk16⟩) (by assumption) ?restuk16
              case hyuk16 => (intro w' hSw; obtain ⟨kc0, kc1, kc2, kc3, kc4, kc5, kc6, kc7⟩ := KC.out w' hSw.out; clear hSw; go_simp; try with_reducible rfl)
              simp only [Act.put, List.getElem_toArray, List.getElem_cons_zero, List.getElem_cons_succ, List.setIfInBounds_toArray, List.set_cons_zero, List.set_cons_succ]
              refine wpAnyH_take (i := 4) (v := ?vuk17) rfl (by kernel_rfl) (by kernel_rfl) (by kernel_rfl) (fun _ _ _ h => h) (Or.inl ⟨by rfl, ?hyuk17⟩) (by assumption) ?restuk17
              case hyuk17 => (intro w' hSw; obtain ⟨kc0, kc1, kc2, kc3, kc4, kc5, kc6, kc7⟩ := KC.out w' hSw.out; clear hSw; go_simp; try with_reducible rfl)
              simp only [Act.put, List.getElem_toArray, List.getElem_cons_zero, List.getElem_cons_succ, List.setIfInBounds_toArray, List.set_cons_zero, List.set_cons_succ]
              refine wpAnyH_take (i := 5) (v := ?vuk18) rfl (by kernel_rfl) (by kernel_rfl) (by kernel_rfl) (fun _ _ _ h => h) (Or.inl ⟨by rfl, ?hyuk18⟩) (by assumption) ?restuk18
              case hyuk18 => (intro w' hSw; obtain ⟨kc0, kc1, kc2, kc3, kc4, kc5, kc6, kc7⟩ := KC.out w' hSw.out; clear hSw; go_simp; try with_reducible rfl)
              simp only [Act.put, List.getElem_toArray, List.getElem_cons_zero, List.getElem_cons_succ, List.setIfInBounds_toArray, List.set_cons_zero, List.set_cons_succ]
              refine wpAnyH_take (i := 6) (v := ?vuk19) rfl (by kernel_rfl) (by kernel_rfl) (by kernel_rfl) (fun _ _ _ h => h) (Or.inl ⟨by rfl, ?hyuk19⟩) (by assumption) ?restuk19
              case hyuk19 => (intro w' hSw; obtain ⟨kc0, kc1, kc2, kc3, kc4, kc5, kc6, kc7⟩ := KC.out w' hSw.out; clear hSw; go_simp; try with_reducible rfl)
              simp only [Act.put, List.getElem_toArray, List.getElem_cons_zero, List.getElem_cons_succ, List.setIfInBounds_toArray, List.set_cons_zero, List.set_cons_succ]
              refine wpAnyH_take (i := 7) (v := ?vuk20) rfl (by kernel_rfl) (by kernel_rfl) (by kernel_rfl) (fun _ _ _ h => h) (Or.inl ⟨by rfl, ?hyuk20⟩) (by assumption) ?restuk20
              case hyuk20 => (intro w' hSw; obtain ⟨kc0, kc1, kc2, kc3, kc4, kc5, kc6, kc7⟩ := KC.out w' hSw.out; clear hSw; go_simp; try with_reducible rfl)
              simp only [Act.put, List.getElem_toArray, List.getElem_cons_zero, List.getElem_cons_succ, List.setIfInBounds_toArray, List.set_cons_zero, List.set_cons_succ]
              refine wpAnyH_take (i := 8) (v := ?vuk21) rfl (by kernel_rfl) (by kernel_rfl) (by kernel_rfl) (fun _ _ _ h => h) (Or.inl ⟨by rfl, ?hyuk21⟩) (by assumption) ?restuk21
              case hyuk21 => (intro w' hSw; obtain ⟨kc0, kc1, kc2, kc3, kc4, kc5, kc6, kc7⟩ := KC.out w' hSw.out; clear hSw; go_simp; try with_reducible rfl)
              simp only [Act.put, List.getElem_toArray, List.getElem_cons_zero, List.getElem_cons_succ, List.setIfInBounds_toArray, List.set_cons_zero, List.set_cons_succ]
              refine wpAnyH_take (i := 9) (v := ?vuk22) rfl (by kernel_rfl) (by kernel_rfl) (by kernel_rfl) (fun _ _ _ h => h) (Or.inl ⟨by rfl, ?hyuk22⟩) (by assumption) ?restuk22
              case hyuk22 => (intro w' hSw; obtain ⟨kc0, kc1, kc2, kc3, kc4, kc5, kc6, kc7⟩ := KC.out w' hSw.out; clear hSw; go_simp; try with_reducible rfl)
              simp only [Act.put, List.getElem_toArray, List.getElem_cons_zero, List.getElem_cons_succ, List.setIfInBounds_toArray, List.set_cons_zero, List.set_cons_succ]
              have D0 := hHeld
              clear hHeld
              have z0 : Hid (wr.heap.size ≤ (World.drew wr).heap.size) := Lib.hid (Nat.le_refl _)
              generalize World.drew wr = v0 at *
              refine wpAnyH_ready (rs := [10, 11]) (by kernel_rfl) (by simp) ?_
              refine AllReadyH.cons rfl (fun K hK => ?_) ?_
              · go_simp
                have hb := one_box v0 (.cells #[.slice none 0 0, .slice none 0 0, .slice none 0 0] 111)
                have Dk23 : Hid (Below wr.heap.size wr (v0.alloc (.cells #[.slice none 0 0, .slice none 0 0, .slice none 0 0] 111))) := Lib.hid (keep_trans D0.out hb)
                have zk23 : Hid (v0.heap.size + 1 = (v0.alloc (.cells #[.slice none 0 0, .slice none 0 0, .slice none 0 0] 111)).heap.size) := Lib.hid (by simp)
                have KO0 : Hid (Blk (v0.alloc (.cells #[.slice none 0 0, .slice none 0 0, .slice none 0 0] 111)) v0.heap.size 111 [.slice none 0 0, .slice none 0 0, .slice none 0 0]) := Lib.hid (Blk.new v0 _ _)
                clear hb
                generalize v0.alloc (.cells #[.slice none 0 0, .slice none 0 0, .slice none 0 0] 111) = wk23 at *
                refine hK.out _ _ Dk23 (fun hHeld => ?_)
                clear hK K hHeld
                refine wpAnyH_ready (rs := [11]) (by kernel_rfl) (by simp) ?_
                refine AllReadyH.cons rfl (fun K hK => ?_) ?_
                · go_simp
                  have hb := one_box wk23 (.cells #[.slice none 0 0, .slice none 0 0, .slice none 0 0] 111)
                  have Dk24 : Hid (Below wr.heap.size wr (wk23.alloc (.cells #[.slice none 0 0, .slice none 0 0, .slice none 0 0] 111))) := Lib.hid (keep_trans Dk23.out hb)
                  have zk24 : Hid (wk23.heap.size + 1 = (wk23.alloc (.cells #[.slice none 0 0, .slice none 0 0, .slice none 0 0] 111)).heap.size) := Lib.hid (by simp)
                  have KO0 := Lib.hid (KO0.out.after hb)
                  have KO1 : Hid (Blk (wk23.alloc (.cells #[.slice none 0 0, .slice none 0 0, .slice none 0 0] 111)) wk23.heap.size 111 [.slice none 0 0, .slice none 0 0, .slice none 0 0]) := Lib.hid (Blk.new wk23 _ _)
                  clear hb
                  generalize wk23.alloc (.cells #[.slice none 0 0, .slice none 0 0, .slice none 0 0] 111) = wk24 at *
                  refine hK.out _ _ Dk24 (fun hHeld => ?_)
                  clear hK K hHeld
                  refine wpAnyH_ready (rs := [12]) (by kernel_rfl) (by simp) ?_
                  refine AllReadyH.cons rfl (fun K hK => ?_) ?_
                  · have q0 : wk24.cell? ⟨v0.heap.size, 0, none⟩ = some (.slice none 0 0) := KO0.out.cell 0
                    have q1 : wk24.cell? ⟨v0.heap.size, 1, none⟩ = some (.slice none 0 0) := KO0.out.cell 1
                    have q2 : wk24.cell? ⟨v0.heap.size, 2, none⟩ = some (.slice none 0 0) := KO0.out.cell 2
                    have qf : ∀ i, wk24.frozen? ⟨v0.heap.size, i, none⟩ = false := fun i => KO0.out.frozen i
                    go_simp
                    clear qf q0 q1 q2
                    change K _ (sto3 wk24 (v0.heap.size) (.slice sa u1 sc) (.slice ra u2 rc) (.slice ya u3 yc))
                    have Dk25 : Hid (Below wr.heap.size wr (sto3 wk24 (v0.heap.size) (.slice sa u1 sc) (.slice ra u2 rc) (.slice ya u3 yc))) := Lib.hid (sto3_below Dk24.out (by have := z0.out; have := zk23.out; have := zk24.out; omega))
                    have zk25 : Hid (wk24.heap.size ≤ (sto3 wk24 (v0.heap.size) (.slice sa u1 sc) (.slice ra u2 rc) (.slice ya u3 yc)).heap.size) := Lib.hid (Ch.size (X := (· = v0.heap.size)) (sto3_ch _ _ _ _ _))
                    have KO0 : Hid (Blk (sto3 wk24 (v0.heap.size) (.slice sa u1 sc) (.slice ra u2 rc) (.slice ya u3 yc)) (v0.heap.size) 111 [.slice sa u1 sc, .slice ra u2 rc, .slice ya u3 yc]) := Lib.hid (sto3_blk KO0.out _ _ _)
                    have KO1 := Lib.hid ((sto3_ch wk24 (v0.heap.size) (.slice sa u1 sc) (.slice ra u2 rc) (.slice ya u3 yc)).blk KO1.out (by have := z0.out; have := zk23.out; have := zk24.out; omega))
                    generalize (sto3 wk24 (v0.heap.size) (.slice sa u1 sc) (.slice ra u2 rc) (.slice ya u3 yc)) = wk25 at *
                    refine hK.out _ _ Dk25 (fun hHeld => ?_)
                    clear hK K hHeld
                    refine wpAnyH_ready (rs := [13]) (by kernel_rfl) (by simp) ?_
                    refine AllReadyH.cons rfl (fun K hK => ?_) ?_
                    · have q0 : wk25.cell? ⟨wk23.heap.size, 0, none⟩ = some (.slice none 0 0) := KO1.out.cell 0
                      have q1 : wk25.cell? ⟨wk23.heap.size, 1, none⟩ = some (.slice none 0 0) := KO1.out.cell 1
                      have q2 : wk25.cell? ⟨wk23.heap.size, 2, none⟩ = some (.slice none 0 0) := KO1.out.cell 2
                      have qf : ∀ i, wk25.frozen? ⟨wk23.heap.size, i, none⟩ = false := fun i => KO1.out.frozen i
                      go_simp
                      clear qf q0 q1 q2
                      change K _ (sto3 wk25 (wk23.heap.size) (.slice sb v1 sd) (.slice rb v2 rd) (.slice yb v3 yd))
                      have Dk26 : Hid (Below wr.heap.size wr (sto3 wk25 (wk23.heap.size) (.slice sb v1 sd) (.slice rb v2 rd) (.slice yb v3 yd))) := Lib.hid (sto3_below Dk25.out (by have := z0.out; have := zk23.out; have := zk24.out; have := zk25.out; omega))
                      have zk26 : Hid (wk25.heap.size ≤ (sto3 wk25 (wk23.heap.size) (.slice sb v1 sd) (.slice rb v2 rd) (.slice yb v3 yd)).heap.size) := Lib.hid (Ch.size (X := (· = wk23.heap.size)) (sto3_ch _ _ _ _ _))
                      have KO1 : Hid (Blk (sto3 wk25 (wk23.heap.size) (.slice sb v1 sd) (.slice rb v2 rd) (.slice yb v3 yd)) (wk23.heap.size) 111 [.slice sb v1 sd, .slice rb v2 rd, .slice yb v3 yd]) := Lib.hid (sto3_blk KO1.out _ _ _)
                      have KO0 := Lib.hid ((sto3_ch wk25 (wk23.heap.size) (.slice sb v1 sd) (.slice rb v2 rd) (.slice yb v3 yd)).blk KO0.out (by have := z0.out; have := zk23.out; have := zk24.out; have := zk25.out; omega))
                      generalize (sto3 wk25 (wk23.heap.size) (.slice sb v1 sd) (.slice rb v2 rd) (.slice yb v3 yd)) = wk26 at *
                      refine hK.out _ _ Dk26 (fun hHeld => ?_)
                      clear hK K hHeld
                      refine wpAnyH_done (by kernel_rfl) ?_ _
                      go_wp2_with fail
                      go_meet
                      exact ⟨v0.heap.size, wk23.heap.size, rfl, rfl, KO0, KO1, Dk26⟩
                    exact AllReadyH.nil
                  exact AllReadyH.nil
                exact AllReadyH.nil
              refine AllReadyH.cons rfl (fun K hK => ?_) ?_
              · go_simp
                have hb := one_box v0 (.cells #[.slice none 0 0, .slice none 0 0, .slice none 0 0] 111)
                have Dk27 : Hid (Below wr.heap.size wr (v0.alloc (.cells #[.slice none 0 0, .slice none 0 0, .slice none 0 0] 111))) := Lib.hid (keep_trans D0.out hb)
                have zk27 : Hid (v0.heap.size + 1 = (v0.alloc (.cells #[.slice none 0 0, .slice none 0 0, .slice none 0 0] 111)).heap.size) := Lib.hid (by simp)
                have KO1 : Hid (Blk (v0.alloc (.cells #[.slice none 0 0, .slice none 0 0, .slice none 0 0] 111)) v0.heap.size 111 [.slice none 0 0, .slice none 0 0, .slice none 0 0]) := Lib.hid (Blk.new v0 _ _)
                clear hb
                generalize v0.alloc (.cells #[.slice none 0 0, .slice none 0 0, .slice none 0 0] 111) = wk27 at *
                refine hK.out _ _ Dk27 (fun hHeld => ?_)
                clear hK K hHeld
                refine wpAnyH_ready (rs := [10]) (by kernel_rfl) (by simp) ?_
                refine AllReadyH.cons rfl (fun K hK => ?_) ?_
                · go_simp
                  have hb := one_box wk27 (.cells #[.slice none 0 0, .slice none 0 0, .slice none 0 0] 111)
                  have Dk28 : Hid (Below wr.heap.size wr (wk27.alloc (.cells #[.slice none 0 0, .slice none 0 0, .slice none 0 0] 111))) := Lib.hid (keep_trans Dk27.out hb)
                  have zk28 : Hid (wk27.heap.size + 1 = (wk27.alloc (.cells #[.slice none 0 0, .slice none 0 0, .slice none 0 0] 111)).heap.size) := Lib.hid (by simp)
                  have KO1 := Lib.hid (KO1.out.after hb)
                  have KO0 : Hid (Blk (wk27.alloc (.cells #[.slice none 0 0, .slice none 0 0, .slice none 0 0] 111)) wk27.heap.size 111 [.slice none 0 0, .slice none 0 0, .slice none 0 0]) := Lib.hid (Blk.new wk27 _ _)
                  clear hb
                  generalize wk27.alloc (.cells #[.slice none 0 0, .slice none 0 0, .slice none 0 0] 111) = wk28 at *
                  refine hK.out _ _ Dk28 (fun hHeld => ?_)
                  clear hK K hHeld
                  refine wpAnyH_ready (rs := [12]) (by kernel_rfl) (by simp) ?_
                  refine AllReadyH.cons rfl (fun K hK => ?_) ?_
                  · have q0 : wk28.cell? ⟨wk27.heap.size, 0, none⟩ = some (.slice none 0 0) := KO0.out.cell 0
                    have q1 : wk28.cell? ⟨wk27.heap.size, 1, none⟩ = some (.slice none 0 0) := KO0.out.cell 1
                    have q2 : wk28.cell? ⟨wk27.heap.size, 2, none⟩ = some (.slice none 0 0) := KO0.out.cell 2
                    have qf : ∀ i, wk28.frozen? ⟨wk27.heap.size, i, none⟩ = false := fun i => KO0.out.frozen i
                    go_simp
                    clear qf q0 q1 q2
                    change K _ (sto3 wk28 (wk27.heap.size) (.slice sa u1 sc) (.slice ra u2 rc) (.slice ya u3 yc))
                    have Dk29 : Hid (Below wr.heap.size wr (sto3 wk28 (wk27.heap.size) (.slice sa u1 sc) (.slice ra u2 rc) (.slice ya u3 yc))) := Lib.hid (sto3_below Dk28.out (by have := z0.out; have := zk27.out; have := zk28.out; omega))
                    have zk29 : Hid (wk28.heap.size ≤ (sto3 wk28 (wk27.heap.size) (.slice sa u1 sc) (.slice ra u2 rc) (.slice ya u3 yc)).heap.size) := Lib.hid (Ch.size (X := (· = wk27.heap.size)) (sto3_ch _ _ _ _ _))
                    have KO0 : Hid (Blk (sto3 wk28 (wk27.heap.size) (.slice sa u1 sc) (.slice ra u2 rc) (.slice ya u3 yc)) (wk27.heap.size) 111 [.slice sa u1 sc, .slice ra u2 rc, .slice ya u3 yc]) := Lib.hid (sto3_blk KO0.out _ _ _)
                    have KO1 := Lib.hid ((sto3_ch wk28 (wk27.heap.size) (.slice sa u1 sc) (.slice ra u2 rc) (.slice ya u3 yc)).blk KO1.out (by have := z0.out; have := zk27.out; have := zk28.out; omega))
                    generalize (sto3 wk28 (wk27.heap.size) (.slice sa u1 sc) (.slice ra u2 rc) (.slice ya u3 yc)) = wk29 at *
                    refine hK.out _ _ Dk29 (fun hHeld => ?_)
                    clear hK K hHeld
                    refine wpAnyH_ready (rs := [13]) (by kernel_rfl) (by simp) ?_
                    refine AllReadyH.cons rfl (fun K hK => ?_) ?_
                    · have q0 : wk29.cell? ⟨v0.heap.size, 0, none⟩ = some (.slice none 0 0) := KO1.out.cell 0
                      have q1 : wk29.cell? ⟨v0.heap.size, 1, none⟩ = some (.slice none 0 0) := KO1.out.cell 1
                      have q2 : wk29.cell? ⟨v0.heap.size, 2, none⟩ = some (.slice none 0 0) := KO1.out.cell 2
                      have qf : ∀ i, wk29.frozen? ⟨v0.heap.size, i, none⟩ = false := fun i => KO1.out.frozen i
                      go_simp
                      clear qf q0 q1 q2
                      change K _ (sto3 wk29 (v0.heap.size) (.slice sb v1 sd) (.slice rb v2 rd) (.slice yb v3 yd))
                      have Dk30 : Hid (Below wr.heap.size wr (sto3 wk29 (v0.heap.size) (.slice sb v1 sd) (.slice rb v2 rd) (.slice yb v3 yd))) := Lib.hid (sto3_below Dk29.out (by have := z0.out; have := zk27.out; have := zk28.out; have := zk29.out; omega))
                      have zk30 : Hid (wk29.heap.size ≤ (sto3 wk29 (v0.heap.size) (.slice sb v1 sd) (.slice rb v2 rd) (.slice yb v3 yd)).heap.size) := Lib.hid (Ch.size (X := (· = v0.heap.size)) (sto3_ch _ _ _ _ _))
                      have KO1 : Hid (Blk (sto3 wk29 (v0.heap.size) (.slice sb v1 sd) (.slice rb v2 rd) (.slice yb v3 yd)) (v0.heap.size) 111 [.slice sb v1 sd, .slice rb v2 rd, .slice yb v3 yd]) := Lib.hid (sto3_blk KO1.out _ _ _)
                      have KO0 := Lib.hid ((sto3_ch wk29 (v0.heap.size) (.slice sb v1 sd) (.slice rb v2 rd) (.slice yb v3 yd)).blk KO0.out (by have := z0.out; have := zk27.out; have := zk28.out; have := zk29.out; omega))
                      generalize (sto3 wk29 (v0.heap.size) (.slice sb v1 sd) (.slice rb v2 rd) (.slice yb v3 yd)) = wk30 at *
                      refine hK.out _ _ Dk30 (fun hHeld => ?_)
                      clear hK K hHeld
                      refine wpAnyH_done (by kernel_rfl) ?_ _
                      go_wp2_with fail
                      go_meet
                      exact ⟨wk27.heap.size, v0.heap.size, rfl, rfl, KO0, KO1, Dk30⟩
                    exact AllReadyH.nil
                  exact AllReadyH.nil
                exact AllReadyH.nil
              exact AllReadyH.nil
            case rest =>
              clear KC
              rename World => wf
              obtain ⟨g8, g9, rfl, rfl, K8, K9, HBF⟩ := hcut
              go_upto_region 10 with fail
              go_cut [144] from 123 to 144 (fun v wg => v = .bool (!decide (st = st' ∧ ri = ri' ∧ sy = sy')) ∧ Hid (Below wf.heap.size wf wg))
              case first =>
                have x0 : wf.cell? ⟨g8, 0, none⟩ = some (.slice sa u1 sc) := K8.out.cell 0
                have y0 : wf.cell? ⟨g9, 0, none⟩ = some (.slice sb v1 sd) := K9.out.cell 0
                by_cases e1 : st = st'
                case neg =>
                  rw [no_decb e1] at G1
                  have HD := Lib.hid (decide_eq_false (show ¬ (st = st' ∧ ri = ri' ∧ sy = sy') from fun ee => e1 ee.1))
                  clear e1
                  go_wp2_with (first
                    | (go_at_call 66; (with_reducible refine (G1.out _ (keep_trans HBF.out (Below.refl _ _))).mono ?_); rintro e' w1 ⟨rfl, hb⟩; have Br1 : Hid (Below wf.heap.size wf w1) := Lib.hid hb; have x1 : w1.cell? ⟨g8, 1, none⟩ = some (.slice ra u2 rc) := (K8.out.after Br1.out).cell 1; have y1 : w1.cell? ⟨g9, 1, none⟩ = some (.slice rb v2 rd) := (K9.out.after Br1.out).cell 1; clear hb)
                    | fail)
                  go_meet
                  exact ⟨by rw [HD.out]; rfl, Br1⟩
                rw [decide_eq_true e1] at G1
                by_cases e2 : ri = ri'
                case neg =>
                  rw [no_decb e2] at G2
                  have HD := Lib.hid (decide_eq_false (show ¬ (st = st' ∧ ri = ri' ∧ sy = sy') from fun ee => e2 ee.2.1))
                  clear e2
                  go_wp2_with (first
                    | (go_at_call 67; (with_reducible refine (G2.out _ (keep_trans HBF.out Br1.out)).mono ?_); rintro e' w2 ⟨rfl, hb⟩; have Br2 : Hid (Below wf.heap.size wf w2) := Lib.hid (keep_trans Br1.out hb); have x2 : w2.cell? ⟨g8, 2, none⟩ = some (.slice ya u3 yc) := (K8.out.after Br2.out).cell 2; have y2 : w2.cell? ⟨g9, 2, none⟩ = some (.slice yb v3 yd) := (K9.out.after Br2.out).cell 2; clear hb)
                    | (go_at_call 66; (with_reducible refine (G1.out _ (keep_trans HBF.out (Below.refl _ _))).mono ?_); rintro e' w1 ⟨rfl, hb⟩; have Br1 : Hid (Below wf.heap.size wf w1) := Lib.hid hb; have x1 : w1.cell? ⟨g8, 1, none⟩ = some (.slice ra u2 rc) := (K8.out.after Br1.out).cell 1; have y1 : w1.cell? ⟨g9, 1, none⟩ = some (.slice rb v2 rd) := (K9.out.after Br1.out).cell 1; clear hb)
                    | fail)
                  go_meet
                  exact ⟨by rw [HD.out]; rfl, Br2⟩
                rw [decide_eq_true e2] at G2
                by_cases e3 : sy = sy'
                case neg =>
                  rw [no_decb e3] at G3
                  have HD := Lib.hid (decide_eq_false (show ¬ (st = st' ∧ ri = ri' ∧ sy = sy') from fun ee => e3 ee.2.2))
                  clear e3
                  go_wp2_with (first
                    | (go_at_call 67; (with_reducible refine (G3.out _ (keep_trans HBF.out Br2.out)).mono ?_); rintro e' w3 ⟨rfl, hb⟩; have Br3 : Hid (Below wf.heap.size wf w3) := Lib.hid (keep_trans Br2.out hb); clear hb)
                    | (go_at_call 67; (with_reducible refine (G2.out _ (keep_trans HBF.out Br1.out)).mono ?_); rintro e' w2 ⟨rfl, hb⟩; have Br2 : Hid (Below wf.heap.size wf w2) := Lib.hid (keep_trans Br1.out hb); have x2 : w2.cell? ⟨g8, 2, none⟩ = some (.slice ya u3 yc) := (K8.out.after Br2.out).cell 2; have y2 : w2.cell? ⟨g9, 2, none⟩ = some (.slice yb v3 yd) := (K9.out.after Br2.out).cell 2; clear hb)
                    | (go_at_call 66; (with_reducible refine (G1.out _ (keep_trans HBF.out (Below.refl _ _))).mono ?_); rintro e' w1 ⟨rfl, hb⟩; have Br1 : Hid (Below wf.heap.size wf w1) := Lib.hid hb; have x1 : w1.cell? ⟨g8, 1, none⟩ = some (.slice ra u2 rc) := (K8.out.after Br1.out).cell 1; have y1 : w1.cell? ⟨g9, 1, none⟩ = some (.slice rb v2 rd) := (K9.out.after Br1.out).cell 1; clear hb)
                    | fail)
                  go_meet
                  exact ⟨by rw [HD.out]; rfl, Br3⟩
                rw [decide_eq_true e3] at G3
                have HD := Lib.hid (decide_eq_true (show (st = st' ∧ ri = ri' ∧ sy = sy') from ⟨e1, e2, e3⟩))
                clear e1 e2 e3
                go_wp2_with (first
                  | (go_at_call 67; (with_reducible refine (G3.out _ (keep_trans HBF.out Br2.out)).mono ?_); rintro e' w3 ⟨rfl, hb⟩; have Br3 : Hid (Below wf.heap.size wf w3) := Lib.hid (keep_trans Br2.out hb); clear hb)
                  | (go_at_call 67; (with_reducible refine (G2.out _ (keep_trans HBF.out Br1.out)).mono ?_); rintro e' w2 ⟨rfl, hb⟩; have Br2 : Hid (Below wf.heap.size wf w2) := Lib.hid (keep_trans Br1.out hb); have x2 : w2.cell? ⟨g8, 2, none⟩ = some (.slice ya u3 yc) := (K8.out.after Br2.out).cell 2; have y2 : w2.cell? ⟨g9, 2, none⟩ = some (.slice yb v3 yd) := (K9.out.after Br2.out).cell 2; clear hb)
                  | (go_at_call 66; (with_reducible refine (G1.out _ (keep_trans HBF.out (Below.refl _ _))).mono ?_); rintro e' w1 ⟨rfl, hb⟩; have Br1 : Hid (Below wf.heap.size wf w1) := Lib.hid hb; have x1 : w1.cell? ⟨g8, 1, none⟩ = some (.slice ra u2 rc) := (K8.out.after Br1.out).cell 1; have y1 : w1.cell? ⟨g9, 1, none⟩ = some (.slice rb v2 rd) := (K9.out.after Br1.out).cell 1; clear hb)
                  | fail)
                go_meet
                exact ⟨by rw [HD.out]; rfl, Br3⟩
              case rest =>
                rename World => wg
                obtain ⟨rfl, HBG⟩ := hcut
                have BBG : Hid (Below wr.heap.size wr wg) := Lib.hid (keep_trans HBF.out HBG.out)
                clear HBF HBG K8 K9 G1 G2 G3
                by_cases eS : (st = st' ∧ ri = ri' ∧ sy = sy')
                case neg =>
                  have HQ := Lib.hid (HFIN.out _ (HNE.out eS))
                  refine ‹∀ (a : Act) (w_1 : World), Code.wp Tryz.prog _ _ a w_1 → _› _ _ ?_
                  rw [decide_eq_false eS]
                  clear eS
                  go_wp2_with fail
                  go_ret
                  exact ⟨by rw [HQ.out]; rfl, keep_trans BWr.out BBG.out⟩
                have HT2 := Lib.hid (HEQ.out eS)
                refine ‹∀ (a : Act) (w_1 : World), Code.wp Tryz.prog _ _ a w_1 → _› _ _ ?_
                rw [decide_eq_true eS]
                clear eS HEQ HNE
                go_wp2_with fail
                go_roundw
                case rel => exact ⟨k + 1, by go_num, by omega, HT2, Lib.hid (keep_trans HB.out BBG.out)⟩
                case measure => simp [intOf]; omega
          · have ee : ro = ro' := by
              have h1 := HT.out
              rwa [List.take_of_length_le (by have := hn.out; omega), List.take_of_length_le (by have := hm.out; omega)] at h1
            have HQ := Lib.hid (HFIN.out true (decide_eq_true ee))
            clear ee
            go_wp2_with fail
            go_ret
            exact ⟨by rw [HQ.out]; rfl, BWr.out⟩
end Go.Proofs.YtgdanbfglefiiaaGreat.Wo
