/- Package world's path, door, route, trip, hazard: each asks its thing, and lays it into the world; proved by walking their texts. Conditions: the maker lies as Ms says. -/
import Derived.Test.YtfefnfifeaihhaaGreatWoMs
set_option linter.unusedVariables false
set_option linter.unusedSimpArgs false
set_option maxHeartbeats 2000000
set_option maxRecDepth 100000
namespace Go.Proofs.YtfefnfifeaihhaaGreat.Wo
open Go.ChangeShapes Go.WideShapes Go.ChangeAt Go.RowKit Go.Maps
open Lx Sh It
def MsE (w : World) (B M T : Nat) (X : Nat → Prop) (x : SheetM) (p : ShA) (tA : Option Addr) (tn tc : Nat) (nv : List Value) (wd : WorldM) : Prop := ∃ v2 v3 v4 v5 v6, Ms w B M T X x p tA tn tc nv wd v2 v3 v4 v5 v6
theorem MsE.after {w w' : World} {B M T : Nat} {X : Nat → Prop} {x : SheetM} {p : ShA} {tA : Option Addr} {tn tc : Nat} {nv : List Value} {wd : WorldM} (h : MsE w B M T X x p tA tn tc nv wd) (hb : Below w.heap.size w w') : MsE w' B M T X x p tA tn tc nv wd := by
  obtain ⟨v2, v3, v4, v5, v6, h⟩ := h
  exact ⟨v2, v3, v4, v5, v6, h.after hb⟩
def MetPost (w : World) (B M T : Nat) (X : Nat → Prop) (x : SheetM) (p : ShA) (tA : Option Addr) (tn tc : Nat) (nv : List Value) (er : Int) (wd : WorldM) (e : Ending) (w' : World) : Prop :=
  e = .returned (.int .i64 er) ∧ Hid (MsE w' B M T X x p tA tn tc nv wd) ∧ Hid (Ch (fun k => k = M ∨ B ≤ k) w w' ∧ (er ≠ 0 → Below w.heap.size w w'))
theorem row_of {w6 : World} {M : Nat} {T : Nat} {x : SheetM} {p : ShA} {tA : Option Addr} {tn tc : Nat} {nv : List Value} {v2 v3 v4 v5 v6 : Value} (h : Blk w6 M 177 (mkL T tA tn tc x p ++ (nv ++ [v2, v3, v4, v5, v6]))) (hn : nv.length = 7) : w6.cell? ⟨M, 16, none⟩ = some v2 := by
  rw [h.cell, List.getElem?_append_right (by simp [mkL]), List.getElem?_append_right (by simp [mkL]; omega)]
  simp [mkL, hn]
theorem info_PathO : (Tryz.prog.info? 92).map (fun i => (i.zero, i.size, i.bytes)) = some (some (.agg #[.int .i64 0, .int .i64 0, .int .i64 0]), 3, 24) := by kernel_rfl
theorem path_any {w : World} {B M T : Nat} {X : Nat → Prop} {x : SheetM} {p : ShA} {tA : Option Addr} {tn tc : Nat} {nv : List Value} {wd : WorldM} (h : MsE w B M T X x p tA tn tc nv wd) (hw : wd.paths.length ≤ 400) (hx : x.paths.length ≤ 400) (i : Nat) (q : PathM) (hq : x.paths[i]? = some q) (la : q.a.length ≤ maxLen) (lb : q.b.length ≤ maxLen) :
    Calls Tryz.prog 154 #[.pointer (some ⟨M, 0, none⟩), .int .i64 (i : Int)] w (MetPost w B M T X x p tA tn tc nv (pathE (nPath x.stops q)) (if pathE (nPath x.stops q) = 0 then { wd with paths := wd.paths ++ [nPath x.stops q] } else wd)) := by
  obtain ⟨v2, v3, v4, v5, v6, h⟩ := h
  have H := HH h
  have hi : i < x.paths.length := (List.getElem?_eq_some_iff.1 hq).1
  obtain ⟨ad, e2, ⟨hS1, hS2⟩, h0, hj⟩ := rd_at 4 (fun _ => rfl) (by omega) h.sh.r2 hq
  have c4 : w.cell? ⟨M, 4, none⟩ = some (.slice (some ad) x.paths.length p.c2) := by rw [← e2]; exact h.cell 4 (by omega)
  have c16 : w.cell? ⟨M, 16, none⟩ = some v2 := h.row 0 (by omega)
  have hM : M < w.heap.size := h.lt
  have hne : M ≠ w.heap.size := by omega
  have HWY := HH (fun w1 (hb : Below w.heap.size w w1) => way_any (h.after hb).mk_ q.a q.b q.len la lb)
  unfold WyPost wayO at HWY
  have hnP : nPath x.stops q = ⟨pl x.stops q.a, pl x.stops q.b, q.len⟩ := rfl
  have hpE : pathE (nPath x.stops q) = wayE (pl x.stops q.a) (pl x.stops q.b) q.len := rfl
  rw [hpE, hnP]
  obtain ⟨B2, d2, hv2, hnd2, hrd2⟩ := own_form h.r2
  generalize pl x.stops q.a = na at *
  generalize pl x.stops q.b = nb at *
  obtain ⟨qn, qa, qb, ql⟩ := q
  dsimp only at *
  have a0 : w.cell? (ad.add (i * 4)) = some (.string ⟨qn.toArray⟩) := h0
  have a1 : w.cell? ⟨(ad.add (i * 4)).block, (ad.add (i * 4)).off + 1, none⟩ = some (.string ⟨qa.toArray⟩) := (hj 1 (by omega)).resolve_right (by omega)
  have a2 : w.cell? ⟨(ad.add (i * 4)).block, (ad.add (i * 4)).off + 2, none⟩ = some (.string ⟨qb.toArray⟩) := (hj 2 (by omega)).resolve_right (by omega)
  have a3 : w.cell? ⟨(ad.add (i * 4)).block, (ad.add (i * 4)).off + 3, none⟩ = some (.int .i64 ql) := (hj 3 (by omega)).resolve_right (by omega)
  have hi2 : (i : Int) < (x.paths.length : Int) := by omega
  have hbk : (ad.add (i * 4)).block < w.heap.size := by rw [block_of_add]; have := h.hB; omega
  have hbk2 : (ad.add (i * 4)).block ≠ w.heap.size := by omega
  obtain ⟨np, hnp⟩ : ∃ n, n = x.paths.length := ⟨_, rfl⟩
  rw [← hnp] at c4 hi2
  have hi3 : ¬ ((i : Int) < 0) := by omega
  clear h0 hj h hq la lb hpE hnP e2 hS1 hS2 hnp hi hx hrd2
  by_cases her : wayE na nb ql = 0
  · simp only [her, if_true] at HWY ⊢
    generalize wayE na nb ql = er at *
    subst her
    subst hv2
    go_enter Tryz.func154, Tryz.ntmps154
    go_wp2_with (go_at_call 181; refine (HWY.out _ (one_box _ _)).mono ?_; rintro e w2 ⟨rfl, hb⟩; have HB2 := HH (keep_trans (one_box _ _) hb); clear hb)
    obtain ⟨W, hW⟩ : ∃ W, W = w2.alloc (.cells #[.int .i64 na, .int .i64 nb, .int .i64 ql] 92) := ⟨_, rfl⟩
    have HWB : Hid (Below w.heap.size w W) := HH (by rw [hW]; exact HB2.out.alloc HB2.out.size _)
    have KX : Hid (Blk W w2.heap.size 92 [.int .i64 na, .int .i64 nb, .int .i64 ql]) := HH (by rw [hW]; exact Blk.new w2 _ _)
    rw [← hW]
    clear hW
    generalize w2.heap.size = b at KX ⊢
    have HMW := HH (H.out.after HWB.out)
    clear c4 c16 hM hne a0 a1 a2 a3 hi2 hbk hbk2 hi3 HWY
    have y0 : W.cell? ⟨b, 0, none⟩ = some (.int .i64 na) := KX.out.cell 0
    have z0 : ∀ o, (W.alloc o).cell? ⟨b, 0, none⟩ = some (.int .i64 na) := fun o => (KX.out.alloc o).cell 0
    have y1 : W.cell? ⟨b, 1, none⟩ = some (.int .i64 nb) := KX.out.cell 1
    have z1 : ∀ o, (W.alloc o).cell? ⟨b, 1, none⟩ = some (.int .i64 nb) := fun o => (KX.out.alloc o).cell 1
    have y2 : W.cell? ⟨b, 2, none⟩ = some (.int .i64 ql) := KX.out.cell 2
    have z2 : ∀ o, (W.alloc o).cell? ⟨b, 2, none⟩ = some (.int .i64 ql) := fun o => (KX.out.alloc o).cell 2
    obtain ⟨n, hn⟩ : ∃ n, n = wd.paths.length := ⟨_, rfl⟩
    have HN := HH hn
    have OV : Hid (W.ownsRow B 92 3 (.slice B2 n d2) n (cs poC wd.paths)) := HH (by rw [hn]; exact HMW.out.r2)
    have k1 : W.cell? ⟨M, 16, none⟩ = some (.slice B2 n d2) := by rw [hn]; exact HMW.out.row 0 (by omega)
    have k1' : ∀ o, (W.alloc o).cell? ⟨M, 16, none⟩ = some (.slice B2 n d2) := fun o => by rw [HN.out]; exact (HMW.out.after (one_box W o)).row 0 (by omega)
    have hn4 : n ≤ 400 := by omega
    have hBW := HMW.out.hB
    clear hn hw hnd2
    go_region_law (first
      | (refine step_append_g (by rfl) (.tmp 35) (.tmp 37) 31 (by rfl) B 92 _ 3 24 Tryz.underlying31 info_PathO rfl (by omega) (by omega) _ n (cs poC wd.paths) (by rfl) (HH (own_after OV.out (by repeat (first | exact Below.refl _ _ | exact one_box _ _ | refine below_drewN ?_ _ | refine below_drew ?_ | refine Below.alloc ?_ (by first | omega | (simp; done) | (simp; omega)) _)))) _ _ 1 1 [.int .i64 na, .int .i64 nb, .int .i64 ql] (by rfl) (HH rfl) (by first | exact HH (litd_at2 _ _ _ _ _ (by simp) rfl) | exact HH (Sh.lit_at _ _ _ _ _ (by simp) rfl)) (by simp [Value.oneCell']) (by omega) (by first | omega | (simp; omega)) ?_; intro v' w6 hown hgrow hob; obtain ⟨A', c', rfl, -, -⟩ := own_form hown.out; have hg2 := hgrow.out; rw [HN.out] at hg2; have HS6 := HH (HMW.out.six (by repeat (first | exact Below.refl _ _ | exact one_box _ _ | refine below_drewN ?_ _ | refine below_drew ?_ | refine Below.alloc ?_ (by first | omega | (simp; done) | (simp; omega)) _)) (v := .slice B2 wd.paths.length d2) (by simp) hg2); clear hg2; have HC6 : Hid (∀ i, w6.frozen? ⟨M, i, none⟩ = false) := HH (fun i => HS6.out.1.frozen i); have k6 : w6.cell? ⟨M, 16, none⟩ = some (.slice B2 n d2) := (by rw [HN.out]; exact row_of HS6.out.1 HMW.out.hnv); have f6 : w6.frozen? ⟨M, 16, none⟩ = false := HC6.out 16)
      | fail)
    all_goals
      go_wp2
      go_ret
      have g1 := hgrow.out
      have g2 := hown.out
      have g3 := hob.out
      rw [HN.out] at g1 g2 g3
      have HF := HMW.out.add2 (q := ⟨na, nb, ql⟩) (by repeat (first | exact Below.refl _ _ | exact one_box _ _ | refine below_drewN ?_ _ | refine below_drew ?_ | refine Below.alloc ?_ (by first | omega | (simp; done) | (simp; omega)) _)) g2 g1 g3
      rw [← HN.out] at HF
      exact ⟨rfl, HH ⟨_, _, _, _, _, HF.1⟩, HH ⟨(Ch.of_below HWB.out).trans' HF.2 (fun _ _ h => h), fun h => absurd rfl h⟩⟩
  · simp only [her, if_false] at HWY ⊢
    have her2 : (wayE na nb ql == 0) = false := by simpa using her
    generalize wayE na nb ql = er at *
    go_enter Tryz.func154, Tryz.ntmps154
    go_wp2_with (go_at_call 181; refine (HWY.out _ (one_box _ _)).mono ?_; rintro e w2 ⟨rfl, hb⟩; have HB2 := HH (keep_trans (one_box _ _) hb); clear hb)
    go_ret
    have hbf := (HB2.out.alloc HB2.out.size (.cells #[.int .i64 0, .int .i64 0, .int .i64 0] 92))
    exact ⟨rfl, HH ⟨v2, v3, v4, v5, v6, H.out.after hbf⟩, HH ⟨Ch.of_below hbf, fun _ => hbf⟩⟩
end Go.Proofs.YtfefnfifeaihhaaGreat.Wo
