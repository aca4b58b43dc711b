/- The contract of the law's own later: a row of one's own, moved. Conditions: windows of at most twice MaxTick, moved by at most 1,000. -/
import Derived.Test.YtffddkbphdjehaaLkOn
import Derived.Test.YtffddkbphdjehaaLkMore
namespace Go.Proofs.Ytffddkbphdjehaa.Lk
open Go.ChangeShapes Go.WideShapes Go.ChangeAt Go.RowKit
open Wn
set_option linter.unusedVariables false
set_option linter.unusedSimpArgs false
attribute [local go_sem] Oper.semAt_some
theorem add0 (g j : Nat) : (⟨g, 0, none⟩ : Addr).add j = ⟨g, j, none⟩ := by
  unfold Addr.add; split
  · subst_vars; rfl
  · simp
theorem own_after {W W' : World} {B e s n : Nat} {v : Value} {xs : List Value} (h : W.ownsRow B e s v n xs) (hb : Below W.heap.size W W') : W'.ownsRow B e s v n xs :=
  World.ownsRow.kept h (row := none) ⟨hb.os, hb.tape, hb.output, hb.size, fun k hk _ => hb.block k hk⟩ (by
    cases hq : v.ownBlock with
    | none => exact .inl rfl
    | some k => exact .inr (by simp))
/-- a row, its first i moved -/
def lat (d : Int) (i : Nat) (z : List Win) : List Win := laterL d (z.take i) ++ z.drop i
theorem lat_zero (d : Int) (z : List Win) : lat d 0 z = z := by simp [lat, laterL]
theorem lat_all (d : Int) (z : List Win) : lat d z.length z = laterL d z := by simp [lat]
theorem lat_length (d : Int) (i : Nat) (z : List Win) : (lat d i z).length = z.length := by simp [lat, laterL]; omega
theorem lat_at (d : Int) (i : Nat) (z : List Win) (p : Win) (h : z[i]? = some p) : (lat d i z)[i]? = some p := by
  have hlt : i < z.length := (List.getElem?_eq_some_iff.1 h).1
  unfold lat
  rw [List.getElem?_append_right (by simp [laterL]; omega)]
  simp only [laterL, List.length_map, List.length_take, List.getElem?_drop]
  rw [show i + (i - min i z.length) = i by omega]; exact h
theorem kc_set (z : List Win) (i : Nat) (p q : Win) (h : z[i]? = some p) : ((kc z).set (i * 2) (.int .i64 q.1)).set (i * 2 + 1) (.int .i64 q.2) = kc (z.set i q) := by
  induction z generalizing i with
  | nil => simp at h
  | cons a z ih =>
    cases i with
    | zero => simp [kc_cons]
    | succ i =>
      have h' : z[i]? = some p := by simpa using h
      have e : (i + 1) * 2 = i * 2 + 2 := by omega
      rw [List.set_cons_succ, kc_cons, kc_cons, e, ← ih i h']
      simp [List.set_cons_succ]
theorem lat_set (d : Int) (i : Nat) (z : List Win) (p : Win) (h : z[i]? = some p) : (lat d i z).set i (p.1 + d, p.2 + d) = lat d (i + 1) z := by
  have hlt : i < z.length := (List.getElem?_eq_some_iff.1 h).1
  unfold lat
  rw [List.set_append_right _ _ (by simp [laterL]; omega)]
  simp only [laterL, List.length_map, List.length_take]
  rw [show i - min i z.length = 0 by omega, List.take_add_one, h, List.drop_eq_getElem?_toList_append, h]
  simp
theorem own_head {w : World} {B n c : Nat} {e : TypeId} {p : Option Addr} {s : Nat} {xs : List Value} (h : w.ownsRow B e s (.slice p n c) n xs) (hn : 0 < n) : ∃ g, p = some ⟨g, 0, none⟩ ∧ B ≤ g ∧ g < w.heap.size := by
  rcases h.2 with ⟨-, h0⟩ | ⟨g, cap, cur, hv, hb, hr⟩
  · omega
  · injection hv with h1 h2 h3
    exact ⟨g, h1, hb, (h.lt g (by rw [h1]; rfl)).2⟩
/-- a row is moved -/
def LaterP (q : RwA) (d : Int) (B : Nat) (w : World) (e : Ending) (w' : World) : Prop := e = .returned (.tuple #[]) ∧ Hid (OwnR w' B ⟨laterL d q.z, q.p, q.c⟩) ∧ Hid (w.grownBy w' (rwV q).ownBlock)
set_option maxRecDepth 100000 in
set_option maxHeartbeats 4000000 in
theorem later_any (q : RwA) (d : Int) (B : Nat) (w : World) (h : OwnR w B q) (hd : 0 ≤ d ∧ d ≤ 1000) (hz : ∀ p ∈ q.z, (0 ≤ p.1 ∧ p.1 ≤ 2199023255552) ∧ 0 ≤ p.2 ∧ p.2 ≤ 2199023255552) (hq : q.z.length ≤ 10000) :
    Calls Try.prog 9 #[.slice q.p q.z.length q.c, .int .i64 d] w (LaterP q d B w) := by
  obtain ⟨z, P, c⟩ := q
  dsimp only at hz hq
  show Calls _ _ #[.slice P z.length c, .int .i64 d] w (LaterP ⟨z, P, c⟩ d B w)
  have HO := Lib.hid h
  obtain ⟨n, hn⟩ : ∃ n, n = z.length := ⟨_, rfl⟩
  have HN := Lib.hid hn
  have hnb : n ≤ 10000 := by rw [hn]; exact hq
  have HZ := Lib.hid hz
  rw [← hn]
  clear h hn hz hq
  go_enter Try.func9, Try.ntmps9
  go_wp2
  go_loopw [4] (fun v4 wr => ∃ i : Nat, v4 = .int .i64 i ∧ i ≤ n ∧ Hid (OwnR wr B ⟨lat d i z, P, c⟩) ∧ Hid (w.grownBy wr (rwV ⟨z, P, c⟩).ownBlock)) (fun v4 _ => n - (intOf v4).toNat)
  case atStart => exact ⟨0, rfl, by omega, Lib.hid (by rw [lat_zero]; exact HO.out), Lib.hid (only_refl _ _)⟩
  case round =>
    obtain ⟨i, rfl, hi, HI, HG⟩ := hrel
    by_cases hlt : i < n
    · have hiz : (i : Int) < (n : Int) := by omega
      have hpos : 0 < n := by omega
      have HI0 := HI.out
      unfold OwnR at HI0
      dsimp only [rwV] at HI0
      rw [lat_length, ← HN.out] at HI0
      obtain ⟨g, rfl, hg1, hg2⟩ := own_head HI0 hpos
      obtain ⟨⟨xa, xb⟩, hp⟩ : ∃ p, z[i]? = some p := ⟨_, List.getElem?_eq_getElem (by rw [← HN.out]; exact hlt)⟩
      have hpz := HZ.out _ (List.mem_of_getElem? hp)
      dsimp only at hpz
      obtain ⟨⟨ha1, ha2⟩, hb1, hb2⟩ := hpz
      obtain ⟨hd1, hd2⟩ := hd
      have hk := kc_at _ i (xa, xb) (lat_at d i z _ hp)
      have c0 : wr.cell? ⟨g, i * 2, none⟩ = some (.int .i64 xa) := by have := HI0.cells (g := g) rfl _ _ hk.1; rwa [add0] at this
      have c1 : wr.cell? ⟨g, i * 2 + 1, none⟩ = some (.int .i64 xb) := by have := HI0.cells (g := g) rfl _ _ hk.2; rwa [add0] at this
      have HP := Lib.hid hp
      have HK := Lib.hid HI0
      have ea : IntKind.i64.wrap (xa + d) = xa + d := IntWalk.i64_in _ (by omega)
      have eb : IntKind.i64.wrap (xb + d) = xb + d := IntWalk.i64_in _ (by omega)
      have c1D := Lib.hid (show wr.drew.cell? ⟨g, i * 2 + 1, none⟩ = _ from c1)
      clear hk hp HI0
      go_upto_region 3 with fail
      have hS0 : ∀ l, Pend [(20, ⟨g, i * 2, none⟩, .int .i64 xa), (23, ⟨g, i * 2 + 1, none⟩, .int .i64 xb)] l wr.drew := fun l q hq hl => by
        simp only [List.mem_cons, List.not_mem_nil, or_false] at hq
        rcases hq with rfl | rfl
        · exact c0
        · exact c1
      have HKD : Hid (wr.drew.ownsRow B 41 2 (.slice (some ⟨g, 0, none⟩) n c) n (kc (lat d i z))) := Lib.hid (own_after HK.out (below_drewN (Below.refl _ _) 1))
      have HGD : Hid (w.grownBy wr.drew (some g)) := Lib.hid (only_drew HG.out)
      have hadd := add0 g (i * 2)
      refine wp_region_T [(20, ⟨g, i * 2, none⟩, .int .i64 xa), (23, ⟨g, i * 2 + 1, none⟩, .int .i64 xb)] (by kernel_rfl) ?_
      clear HK HI HG
      generalize World.drew wr = v0 at *
      refine tap 0 ?v0 rfl (hS0 _) ?h0 ?r0
      case h0 => (intro w' hSw; clear hSw; go_simp; try with_reducible rfl)
      simp only [ptk]
      refine tap 1 ?v1 rfl (hS0 _) ?h1 ?r1
      case h1 => (intro w' hSw; clear hSw; go_simp; try with_reducible rfl)
      simp only [ptk]
      refine tap 2 ?v2 rfl (hS0 _) ?h2 ?r2
      case h2 => (intro w' hSw; clear hSw; go_simp; try with_reducible rfl)
      simp only [ptk]
      refine tap 3 ?v3 rfl (hS0 _) ?h3 ?r3
      case h3 => (intro w' hSw; clear hSw; go_simp; try with_reducible rfl)
      simp only [ptk]
      refine tap 4 ?v4 rfl (hS0 _) ?h4 ?r4
      case h4 => (intro w' hSw; clear hSw; go_simp; try with_reducible rfl)
      simp only [ptk]
      refine tap 5 ?v5 rfl (hS0 _) ?h5 ?r5
      case h5 => (intro w' hSw; clear hSw; go_simp; try with_reducible rfl)
      simp only [ptk]
      refine tap 6 ?v6 rfl (hS0 _) ?h6 ?r6
      case h6 => (intro w' hSw; clear hSw; go_simp; try with_reducible rfl)
      simp only [ptk]
      refine tap 7 ?v7 rfl (hS0 _) ?h7 ?r7
      case h7 => (intro w' hSw; clear hSw; go_simp; try with_reducible rfl)
      simp only [ptk]
      refine tal 8 20 ⟨g, i * 2, none⟩ (.int .i64 xa) ?v8 rfl rfl (hS0 _) ?h8 ?r8
      case h8 => (intro w' hSw; go_simp; try with_reducible rfl)
      simp only [ptk]
      refine tap 9 ?v9 rfl (hS0 _) ?h9 ?r9
      case h9 => (intro w' hSw; clear hSw; go_simp; try with_reducible rfl)
      simp only [ptk]
      refine tap 10 ?v10 rfl (hS0 _) ?h10 ?r10
      case h10 => (intro w' hSw; clear hSw; go_simp; try with_reducible rfl)
      simp only [ptk]
      refine tap 11 ?v11 rfl (hS0 _) ?h11 ?r11
      case h11 => (intro w' hSw; clear hSw; go_simp; try with_reducible rfl)
      simp only [ptk]
      refine tap 12 ?v12 rfl (hS0 _) ?h12 ?r12
      case h12 => (intro w' hSw; clear hSw; go_simp; try with_reducible rfl)
      simp only [ptk]
      refine tap 13 ?v13 rfl (hS0 _) ?h13 ?r13
      case h13 => (intro w' hSw; clear hSw; go_simp; try with_reducible rfl)
      simp only [ptk]
      refine tap 14 ?v14 rfl (hS0 _) ?h14 ?r14
      case h14 => (intro w' hSw; clear hSw; go_simp; try with_reducible rfl)
      simp only [ptk]
      refine tal 15 23 ⟨g, i * 2 + 1, none⟩ (.int .i64 xb) ?v15 rfl rfl (hS0 _) ?h15 ?r15
      case h15 => (intro w' hSw; go_simp; try with_reducible rfl)
      simp only [ptk]
      refine tap 16 ?v16 rfl (hS0 _) ?h16 ?r16
      case h16 => (intro w' hSw; clear hSw; go_simp; try with_reducible rfl)
      simp only [ptk]
      refine tap 17 ?v17 rfl (hS0 _) ?h17 ?r17
      case h17 => (intro w' hSw; clear hSw; go_simp; try with_reducible rfl)
      simp only [ptk]
      refine tap 18 ?v18 rfl (hS0 _) ?h18 ?r18
      case h18 => (intro w' hSw; clear hSw; go_simp; try with_reducible rfl)
      simp only [ptk]
      refine tap 19 ?v19 rfl (hS0 _) ?h19 ?r19
      case h19 => (intro w' hSw; clear hSw; go_simp; try with_reducible rfl)
      simp only [ptk]
      refine tan 20 rfl fun K hK => ?_
      have f0 : v0.frozen? ⟨g, i * 2, none⟩ = false := HKD.out.frozenAt _
      have q0 : v0.cell? ⟨g, i * 2, none⟩ = some (.int .i64 xa) := hS0 (Array.replicate 24 false) (20, ⟨g, i * 2, none⟩, .int .i64 xa) (by simp) (by rfl)
      go_simp
      have S1 := (HKD.out.stored (i * 2) (.int .i64 (xa + d)))
      have hS1 : ∀ l : Array Bool, l.getD 20 true = true → Pend [(20, ⟨g, i * 2, none⟩, .int .i64 xa), (23, ⟨g, i * 2 + 1, none⟩, .int .i64 xb)] l (v0.setCell ⟨g, i * 2, none⟩ (.int .i64 (xa + d))) := fun l h7 q hq hl => by
        simp only [List.mem_cons, List.not_mem_nil, or_false] at hq
        rcases hq with rfl | rfl
        · rw [h7] at hl; cases hl
        · rw [World.cell?_setCell_other _ _ _ _ (by intro h; simp only [Addr.mk.injEq] at h; omega)]; exact c1D.out
      refine hK.out _ _ (hS1 _ (by kernel_rfl)) ?_
      clear hK K hS0 f0 q0
      refine tap 21 ?v21 rfl (hS1 _ (by kernel_rfl)) ?h21 ?r21
      case h21 => (intro w' hSw; clear hSw; go_simp; try with_reducible rfl)
      simp only [ptk]
      refine tap 22 ?v22 rfl (hS1 _ (by kernel_rfl)) ?h22 ?r22
      case h22 => (intro w' hSw; clear hSw; go_simp; try with_reducible rfl)
      simp only [ptk]
      refine tan 23 rfl fun K hK => ?_
      have f1 : (v0.setCell ⟨g, i * 2, none⟩ (.int .i64 (xa + d))).frozen? ⟨g, i * 2 + 1, none⟩ = false := S1.1.frozenAt _
      have q1 : (v0.setCell ⟨g, i * 2, none⟩ (.int .i64 (xa + d))).cell? ⟨g, i * 2 + 1, none⟩ = some (.int .i64 xb) := by
        rw [World.cell?_setCell_other _ _ _ _ (by intro h; simp only [Addr.mk.injEq] at h; omega)]; exact c1D.out
      go_simp
      have S2 := (S1.1.stored (i * 2 + 1) (.int .i64 (xb + d)))
      have hS2 : ∀ l : Array Bool, l.getD 20 true = true → l.getD 23 true = true → Pend [(20, ⟨g, i * 2, none⟩, .int .i64 xa), (23, ⟨g, i * 2 + 1, none⟩, .int .i64 xb)] l ((v0.setCell ⟨g, i * 2, none⟩ (.int .i64 (xa + d))).setCell ⟨g, i * 2 + 1, none⟩ (.int .i64 (xb + d))) := fun l h7 h9 q hq hl => by
        simp only [List.mem_cons, List.not_mem_nil, or_false] at hq
        rcases hq with rfl | rfl
        · rw [h7] at hl; cases hl
        · rw [h9] at hl; cases hl
      refine hK.out _ _ (hS2 _ (by kernel_rfl) (by kernel_rfl)) ?_
      clear hK K hS1 hS2 f1 q1
      refine wpAnyT_done (by kernel_rfl) ?_ _
      have HF : Hid (OwnR ((v0.setCell ⟨g, i * 2, none⟩ (.int .i64 (xa + d))).setCell ⟨g, i * 2 + 1, none⟩ (.int .i64 (xb + d))) B ⟨lat d (i + 1) z, some ⟨g, 0, none⟩, c⟩) := Lib.hid (by
        have h := S2.1
        rw [kc_set _ i (xa, xb) (xa + d, xb + d) (lat_at d i z _ HP.out), lat_set d i z _ HP.out] at h
        unfold OwnR
        dsimp only [rwV]
        rw [lat_length, ← HN.out]
        exact h)
      have HGF : Hid (w.grownBy ((v0.setCell ⟨g, i * 2, none⟩ (.int .i64 (xa + d))).setCell ⟨g, i * 2 + 1, none⟩ (.int .i64 (xb + d))) (rwV ⟨z, some ⟨g, 0, none⟩, c⟩).ownBlock) := Lib.hid (only_setCell (only_setCell HGD.out (.inl rfl) _) (.inl rfl) _)
      clear S1 S2 HKD HGD c1D
      generalize ((v0.setCell ⟨g, i * 2, none⟩ (.int .i64 (xa + d))).setCell ⟨g, i * 2 + 1, none⟩ (.int .i64 (xb + d))) = F at *
      go_wp2_with fail
      go_roundw
      case rel => exact ⟨i + 1, by go_num, by omega, HF, HGF⟩
      case measure => simp [intOf]; omega
    · have hin : i = n := by omega
      subst hin
      go_wp2
      refine bodyPost_ret (results_none rfl _ _ _) rfl ?_
      refine ⟨rfl, Lib.hid ?_, HG⟩
      have h := HI.out
      rw [HN.out, lat_all] at h
      exact h
end Go.Proofs.Ytffddkbphdjehaa.Lk
