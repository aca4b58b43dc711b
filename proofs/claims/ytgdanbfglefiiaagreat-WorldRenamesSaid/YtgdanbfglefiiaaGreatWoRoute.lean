/- Package world's route; proved by walking its text. Conditions: the maker lies as Ms says; at most 400 stops in a route. -/
import Derived.Test.YtgdanbfglefiiaaGreatWoTrip
import Derived.ChangeSlices
import Derived.Deep.Strs
import Derived.Deep.SlicePairs
import Derived.ChangeArms
import Derived.Carry
import Derived.Deep.RegionHeld3
import Derived.Deep.RegionHeldLaw
import Derived.Deep.CutRange
import Derived.StillTailTactics
import Derived.WalkSpells
import Derived.Lib.QuietBelow
import Derived.Deep.QuietTactic
namespace Go.Proofs.YtgdanbfglefiiaaGreat.Wo
open Go.ChangeShapes Go.WideShapes Go.ChangeAt Go.RowKit Go.Maps
open Lx Sh It
set_option linter.unusedVariables false
set_option linter.unusedSimpArgs false
theorem route_no {S : List Nm} {r : RouteM} (h : ∃ s ∈ r.stops, s ∉ S) : routeE (nRoute S r) = 5 := by
  unfold routeE
  rw [if_pos]
  obtain ⟨s, hs, hn⟩ := h
  simp only [nRoute, List.any_map, List.any_eq_true]
  exact ⟨s, hs, by simpa using pl_neg.2 hn⟩
theorem route_yes {S : List Nm} {r : RouteM} (h : ∀ s ∈ r.stops, s ∈ S) : routeE (nRoute S r) = if reps (r.stops.map (pl S)) || r.rides.any (fun n => decide (n < 1)) then 2 else 0 := by
  unfold routeE
  rw [if_neg]
  · rfl
  · simp only [nRoute, List.any_map, List.any_eq_true, not_exists, not_and]
    intro s hs
    have := fun hh => pl_neg.1 hh (h s hs)
    simpa using this
set_option maxRecDepth 100000 in
set_option maxHeartbeats 4000000 in
theorem route_any {w : World} {B M T : Nat} {X : Nat → Prop} {x : SheetM} {p : ShA} {tA : Option Addr} {tn tc : Nat} {nv : List Value} {wd : WorldM} (h : MsE w B M T X x p tA tn tc nv wd) (hw : wd.routes.length ≤ 400) (hx : x.routes.length ≤ 400) (i : Nat) (q : RouteM) (hq : x.routes[i]? = some q) (hl : q.stops.length ≤ 400 ∧ q.rides.length ≤ 400 ∧ q.stays.length ≤ 400) (la : ∀ s ∈ q.stops, s.length ≤ maxLen) :
    Calls Tryz.prog 97 #[.pointer (some ⟨M, 0, none⟩), .int .i64 (i : Int)] w (MetPost w B M T X x p tA tn tc nv (routeE (nRoute x.stops q)) (if routeE (nRoute x.stops q) = 0 then { wd with routes := wd.routes ++ [nRoute x.stops q] } else wd)) := by
  obtain ⟨v2, v3, v4, v5, v6, h⟩ := h
  have H := Lib.hid h
  have hi : i < x.routes.length := (List.getElem?_eq_some_iff.1 hq).1
  obtain ⟨cx, hc4, hc4'⟩ := h.sh.r4
  obtain ⟨ad, e2, ⟨hS1, hS2⟩, sa, sc, ra, rc, ya, yc, h0, h1, h2, h3, hrt⟩ := rts_at hc4 hc4' hq
  have c4 : w.cell? ⟨M, 6, none⟩ = some (.slice (some ad) x.routes.length p.c4) := by rw [← e2]; exact h.cell 6 (by omega)
  have hM : M < w.heap.size := h.lt
  have hne : M ≠ w.heap.size := by omega
  have hi2 : (i : Int) < (x.routes.length : Int) := by omega
  have hbk : (ad.add (i * 4)).block < w.heap.size := by rw [block_of_add]; have := h.hB; omega
  have hbk2 : (ad.add (i * 4)).block ≠ w.heap.size := by omega
  obtain ⟨np, hnp⟩ : ∃ n, n = x.routes.length := ⟨_, rfl⟩
  rw [← hnp] at c4 hi2
  have hi3 : ¬ ((i : Int) < 0) := by omega
  have HRT : Hid (RtAt w (· < w.heap.size) q sa ra ya) := Lib.hid (hrt.more fun b hb => by have := h.hB; omega)
  have HMK := Lib.hid (fun w1 (hb : Below w.heap.size w w1) => (h.after hb).mk_)
  have HLA := Lib.hid la
  clear hc4 hc4' hrt e2 hS1 hS2 hnp hi hx h hq la
  obtain ⟨hl1, hl2, hl3⟩ := hl
  obtain ⟨n1, hn1⟩ : ∃ n, n = q.stops.length := ⟨_, rfl⟩
  obtain ⟨n2, hn2⟩ : ∃ n, n = q.rides.length := ⟨_, rfl⟩
  obtain ⟨n3, hn3⟩ : ∃ n, n = q.stays.length := ⟨_, rfl⟩
  rw [← hn1] at hl1 h1
  rw [← hn2] at hl2 h2
  rw [← hn3] at hl3 h3
  have HN1 := Lib.hid hn1
  have HN2 := Lib.hid hn2
  have HN3 := Lib.hid hn3
  have HS := Lib.hid (fun w1 (hb : Below w.heap.size w w1) => stops_any (HMK.out w1 hb) sa n1 sc q.stops HN1 hl1 ((HRT.out.later hb).hs) HLA.out)
  have HSH := Lib.hid (fun w1 (hb : Below w.heap.size w w1) => shorts_any w1 ra n2 rc q.rides HN2 hl2 ((HRT.out.later hb).hr))
  have HC1 := Lib.hid (fun w1 (hb : Below w.heap.size w w1) => clone_rint w1 ra n2 rc q.rides HN2 (by omega) ((HRT.out.later hb).hr))
  have HC2 := Lib.hid (fun w1 (hb : Below w.heap.size w w1) => clone_rint w1 ya n3 yc q.stays HN3 (by omega) ((HRT.out.later hb).hy))
  clear hn1 hn2 hn3
  obtain ⟨qn, hqn⟩ : ∃ qn, qn = q.name := ⟨_, rfl⟩
  rw [← hqn] at h0
  clear hqn
  by_cases hin : ∀ s ∈ q.stops, s ∈ x.stops
  · have HIN := Lib.hid hin
    have HST : Hid (∀ w1, Below w.heap.size w w1 → Calls Tryz.prog 138 #[.pointer (some ⟨M, 0, none⟩), .slice sa n1 sc] w1 (StYes w1 x.stops q.stops)) := Lib.hid (fun w1 hb => (HS.out w1 hb).mono fun e w' he => by
      rcases he with he | he
      · exact he.2
      · obtain ⟨s, hs, hn⟩ := he.1
        exact absurd (HIN.out s hs) hn)
    rw [route_yes hin]
    clear HS hin
    have HRP := Lib.hid (fun w1 A c hx => repeats_any w1 A n1 c (q.stops.map (pl x.stops)) (Lib.hid (by rw [List.length_map]; exact HN1.out)) hl1 hx)
    cases hrp : reps (q.stops.map (pl x.stops)) with
    | true =>
      rw [hrp] at HRP
      simp only [Bool.true_or, if_true, show ((2 : Int) = 0) = False by simp, if_false]
      clear hrp
      go_enter Tryz.func97, Tryz.ntmps97
      go_wp2_with (first
        | (go_at_call 138; refine (HST.out _ (one_box _ _)).mono ?_; rintro e w2 ⟨SA, sc2, rfl, ho, hb⟩; rw [← HN1.out] at ho ⊢; have R2 : Hid (Below w.heap.size w w2) := Lib.hid (keep_trans (one_box _ _) hb); have HBX := Lib.hid ((Blk.new w 72 [.string ⟨qn.toArray⟩, .slice sa n1 sc, .slice ra n2 rc, .slice ya n3 yc]).after hb); have FO : Hid (Fr w2 w.heap.size SA (cs intC (q.stops.map (pl x.stops)))) := Lib.hid (fr_own ho.out (by simp)); clear hb ho)
        | (go_at_call 139; refine (HRP.out _ _ _ FO.out.old).mono ?_; rintro e w3 ⟨rfl, hb⟩; have R3 : Hid (Below w.heap.size w w3) := Lib.hid (keep_trans R2.out hb); have HBX := Lib.hid (HBX.out.after hb); have FO := Lib.hid (FO.out.later hb); have b2 : w3.cell? ⟨w.heap.size, 2, none⟩ = some (.slice ra n2 rc) := HBX.out.cell 2; clear hb))
      go_ret
      exact ⟨rfl, Lib.hid ⟨v2, v3, v4, v5, v6, H.out.after R3.out⟩, Lib.hid ⟨Ch.of_below R3.out, fun _ => R3.out⟩⟩
    | false =>
      rw [hrp] at HRP
      clear hrp
      cases hsh : q.rides.any (fun n => decide (n < 1)) with
      | true =>
        rw [hsh] at HSH
        simp only [Bool.or_true, if_true, show ((2 : Int) = 0) = False by simp, if_false]
        clear hsh
        go_enter Tryz.func97, Tryz.ntmps97
        go_wp2_with (first
          | (go_at_call 138; refine (HST.out _ (one_box _ _)).mono ?_; rintro e w2 ⟨SA, sc2, rfl, ho, hb⟩; rw [← HN1.out] at ho ⊢; have R2 : Hid (Below w.heap.size w w2) := Lib.hid (keep_trans (one_box _ _) hb); have HBX := Lib.hid ((Blk.new w 72 [.string ⟨qn.toArray⟩, .slice sa n1 sc, .slice ra n2 rc, .slice ya n3 yc]).after hb); have FO : Hid (Fr w2 w.heap.size SA (cs intC (q.stops.map (pl x.stops)))) := Lib.hid (fr_own ho.out (by simp)); clear hb ho)
          | (go_at_call 139; refine (HRP.out _ _ _ FO.out.old).mono ?_; rintro e w3 ⟨rfl, hb⟩; have R3 : Hid (Below w.heap.size w w3) := Lib.hid (keep_trans R2.out hb); have HBX := Lib.hid (HBX.out.after hb); have FO := Lib.hid (FO.out.later hb); have b2 : w3.cell? ⟨w.heap.size, 2, none⟩ = some (.slice ra n2 rc) := HBX.out.cell 2; clear hb)
          | (go_at_call 140; refine (HSH.out _ R3.out).mono ?_; rintro e w4 ⟨rfl, hb⟩; have HWB : Hid (Below w.heap.size w w4) := Lib.hid (keep_trans R3.out hb); have hbs := Lib.hid hb; clear hb b2))
        go_ret
        exact ⟨rfl, Lib.hid ⟨v2, v3, v4, v5, v6, H.out.after HWB.out⟩, Lib.hid ⟨Ch.of_below HWB.out, fun _ => HWB.out⟩⟩
      | false =>
        rw [hsh] at HSH
        simp only [Bool.or_false, Bool.false_eq_true, if_false, if_true]
        clear hsh
        go_enter Tryz.func97, Tryz.ntmps97
        go_wp2_with (first
          | (go_at_call 138; refine (HST.out _ (one_box _ _)).mono ?_; rintro e w2 ⟨SA, sc2, rfl, ho, hb⟩; rw [← HN1.out] at ho ⊢; have R2 : Hid (Below w.heap.size w w2) := Lib.hid (keep_trans (one_box _ _) hb); have HBX := Lib.hid ((Blk.new w 72 [.string ⟨qn.toArray⟩, .slice sa n1 sc, .slice ra n2 rc, .slice ya n3 yc]).after hb); have FO : Hid (Fr w2 w.heap.size SA (cs intC (q.stops.map (pl x.stops)))) := Lib.hid (fr_own ho.out (by simp)); clear hb ho)
          | (go_at_call 139; refine (HRP.out _ _ _ FO.out.old).mono ?_; rintro e w3 ⟨rfl, hb⟩; have R3 : Hid (Below w.heap.size w w3) := Lib.hid (keep_trans R2.out hb); have HBX := Lib.hid (HBX.out.after hb); have FO := Lib.hid (FO.out.later hb); have b2 : w3.cell? ⟨w.heap.size, 2, none⟩ = some (.slice ra n2 rc) := HBX.out.cell 2; clear hb)
          | (go_at_call 140; refine (HSH.out _ R3.out).mono ?_; rintro e w4 ⟨rfl, hb⟩; have HWB : Hid (Below w.heap.size w w4) := Lib.hid (keep_trans R3.out hb); have hbs := Lib.hid hb; clear hb b2))
        have HWM : Hid (w.heap.size ≠ M) := Lib.hid (by omega)
        have FO := Lib.hid (FO.out.later hbs.out)
        have KD := Lib.hid (HBX.out.after hbs.out)
        have HMW := Lib.hid (H.out.after HWB.out)
        have HWS : Hid (w.heap.size < w4.heap.size) := Lib.hid KD.out.lt
        generalize w4 = W at *
        clear c4 hM hne h0 h1 h2 h3 hi2 hbk hbk2 hi3 HST HRP HSH hbs HBX R3 R2
        obtain ⟨c0, hcr0, -⟩ := HMW.out.r4
        have HNW : Hid (¬ (w.heap.size = M ∨ some w.heap.size = v4.ownBlock)) := Lib.hid (fun h => h.elim HWM.out (fun e => own_ne_blk hcr0 KD.out (by decide) _ e.symm rfl))
        clear hcr0 c0
        obtain ⟨cr, hcr, hcr'⟩ := H.out.r4
        have hcrW := own_after hcr HWB.out
        obtain ⟨Bk, dk, hvk, hndk, hrdk⟩ := own_form hcrW
        subst hvk
        obtain ⟨n, hn⟩ : ∃ n, n = wd.routes.length := ⟨_, rfl⟩
        have HN := Lib.hid hn
        rw [← hn] at HNW
        have OV : Hid (W.ownsRow B 111 3 (.slice Bk n dk) n cr) := Lib.hid (by rw [hn]; exact hcrW)
        have HCR := Lib.hid hcr'
        have K1R : Hid (W.cell? ⟨M, 18, none⟩ = some (.slice Bk n dk)) := Lib.hid (by rw [hn]; exact HMW.out.row 2 (by omega))
        have hn4 : n ≤ 400 := by omega
        have hBW := HMW.out.hB
        clear hn hw hndk hrdk hcr hcr' hcrW
        have KC : Hid (∀ w', Ch (fun k => k = M ∨ some k = (Value.slice Bk n dk).ownBlock) W w' → w'.cell? ⟨w.heap.size, 2, none⟩ = some (.slice ra n2 rc) ∧ w'.cell? ⟨w.heap.size, 3, none⟩ = some (.slice ya n3 yc)) := Lib.hid (fun w' hc => ⟨(hc.blk KD.out HNW.out).cell 2, (hc.blk KD.out HNW.out).cell 3⟩)
        refine wp_region_held_drew (S := fun w' => Hid (Ch (fun k => k = M ∨ some k = (Value.slice Bk n dk).ownBlock) W w')) (by kernel_rfl) ?_ (fun hHeld => ?_)
        · exact Lib.hid ((Ch.refl _ W).drew)
        refine wpAnyH_take (i := 0) (v := ?vur1) rfl (by kernel_rfl) (by kernel_rfl) (by kernel_rfl) (fun _ _ _ h => h) (Or.inl ⟨by rfl, ?hyur1⟩) (by assumption) ?restur1
        case hyur1 => (intro w' hSw; obtain ⟨kc2, kc3⟩ := KC.out w' hSw.out; clear hSw; go_simp; try with_reducible rfl)
        simp only [Act.put, List.getElem_toArray, List.getElem_cons_zero, List.getElem_cons_succ, List.setIfInBounds_toArray, List.set_cons_zero, List.set_cons_succ]
        refine wpAnyH_take (i := 1) (v := ?vur2) rfl (by kernel_rfl) (by kernel_rfl) (by kernel_rfl) (fun _ _ _ h => h) (Or.inl ⟨by rfl, ?hyur2⟩) (by assumption) ?restur2
        case hyur2 => (intro w' hSw; obtain ⟨kc2, kc3⟩ := KC.out w' hSw.out; clear hSw; go_simp; try with_reducible rfl)
        simp only [Act.put, List.getElem_toArray, List.getElem_cons_zero, List.getElem_cons_succ, List.setIfInBounds_toArray, List.set_cons_zero, List.set_cons_succ]
        refine wpAnyH_take (i := 2) (v := ?vur3) rfl (by kernel_rfl) (by kernel_rfl) (by kernel_rfl) (fun _ _ _ h => h) (Or.inl ⟨by rfl, ?hyur3⟩) (by assumption) ?restur3
        case hyur3 => (intro w' hSw; obtain ⟨kc2, kc3⟩ := KC.out w' hSw.out; clear hSw; go_simp; try with_reducible rfl)
        simp only [Act.put, List.getElem_toArray, List.getElem_cons_zero, List.getElem_cons_succ, List.setIfInBounds_toArray, List.set_cons_zero, List.set_cons_succ]
        refine wpAnyH_take (i := 3) (v := ?vur4) rfl (by kernel_rfl) (by kernel_rfl) (by kernel_rfl) (fun _ _ _ h => h) (Or.inl ⟨by rfl, ?hyur4⟩) (by assumption) ?restur4
        case hyur4 => (intro w' hSw; obtain ⟨kc2, kc3⟩ := KC.out w' hSw.out; clear hSw; go_simp; try with_reducible rfl)
        simp only [Act.put, List.getElem_toArray, List.getElem_cons_zero, List.getElem_cons_succ, List.setIfInBounds_toArray, List.set_cons_zero, List.set_cons_succ]
        refine wpAnyH_take (i := 4) (v := ?vur5) rfl (by kernel_rfl) (by kernel_rfl) (by kernel_rfl) (fun _ _ _ h => h) (Or.inl ⟨by rfl, ?hyur5⟩) (by assumption) ?restur5
        case hyur5 => (intro w' hSw; obtain ⟨kc2, kc3⟩ := KC.out w' hSw.out; clear hSw; go_simp; try with_reducible rfl)
        simp only [Act.put, List.getElem_toArray, List.getElem_cons_zero, List.getElem_cons_succ, List.setIfInBounds_toArray, List.set_cons_zero, List.set_cons_succ]
        refine wpAnyH_take (i := 6) (v := ?vur6) rfl (by kernel_rfl) (by kernel_rfl) (by kernel_rfl) (fun _ _ _ h => h) (Or.inl ⟨by rfl, ?hyur6⟩) (by assumption) ?restur6
        case hyur6 => (intro w' hSw; obtain ⟨kc2, kc3⟩ := KC.out w' hSw.out; clear hSw; go_simp; try with_reducible rfl)
        simp only [Act.put, List.getElem_toArray, List.getElem_cons_zero, List.getElem_cons_succ, List.setIfInBounds_toArray, List.set_cons_zero, List.set_cons_succ]
        refine wpAnyH_take (i := 7) (v := ?vur7) rfl (by kernel_rfl) (by kernel_rfl) (by kernel_rfl) (fun _ _ _ h => h) (Or.inl ⟨by rfl, ?hyur7⟩) (by assumption) ?restur7
        case hyur7 => (intro w' hSw; obtain ⟨kc2, kc3⟩ := KC.out w' hSw.out; clear hSw; go_simp; try with_reducible rfl)
        simp only [Act.put, List.getElem_toArray, List.getElem_cons_zero, List.getElem_cons_succ, List.setIfInBounds_toArray, List.set_cons_zero, List.set_cons_succ]
        refine wpAnyH_take (i := 8) (v := ?vur8) rfl (by kernel_rfl) (by kernel_rfl) (by kernel_rfl) (fun _ _ _ h => h) (Or.inl ⟨by rfl, ?hyur8⟩) (by assumption) ?restur8
        case hyur8 => (intro w' hSw; obtain ⟨kc2, kc3⟩ := KC.out w' hSw.out; clear hSw; go_simp; try with_reducible rfl)
        simp only [Act.put, List.getElem_toArray, List.getElem_cons_zero, List.getElem_cons_succ, List.setIfInBounds_toArray, List.set_cons_zero, List.set_cons_succ]
        refine wpAnyH_take (i := 10) (v := ?vur9) rfl (by kernel_rfl) (by kernel_rfl) (by kernel_rfl) (fun _ _ _ h => h) (Or.inl ⟨by rfl, ?hyur9⟩) (by assumption) ?restur9
        case hyur9 => (intro w' hSw; obtain ⟨kc2, kc3⟩ := KC.out w' hSw.out; clear hSw; go_simp; try with_reducible rfl)
        simp only [Act.put, List.getElem_toArray, List.getElem_cons_zero, List.getElem_cons_succ, List.setIfInBounds_toArray, List.set_cons_zero, List.set_cons_succ]
        refine wpAnyH_take (i := 11) (v := ?vur10) rfl (by kernel_rfl) (by kernel_rfl) (by kernel_rfl) (fun _ _ _ h => h) (Or.inl ⟨by rfl, ?hyur10⟩) (by assumption) ?restur10
        case hyur10 => (intro w' hSw; obtain ⟨kc2, kc3⟩ := KC.out w' hSw.out; clear hSw; go_simp; try with_reducible rfl)
        simp only [Act.put, List.getElem_toArray, List.getElem_cons_zero, List.getElem_cons_succ, List.setIfInBounds_toArray, List.set_cons_zero, List.set_cons_succ]
        have D0 := hHeld
        clear hHeld
        have BW0 : Hid (Below W.heap.size W (World.drew W)) := Lib.hid (below_drew (Below.refl _ _))
        have FO0 : Hid (Fr (World.drew W) w.heap.size SA (cs intC (q.stops.map (pl x.stops)))) := FO
        generalize World.drew W = v0 at *
        refine wpAnyH_ready (rs := [5, 9]) (by kernel_rfl) (by simp) ?_
        refine AllReadyH.cons rfl (fun K hK => ?_) ?_
        · have q4 : v0.cell? ⟨M, 18, none⟩ = some (.slice Bk n dk) := (cell_keep (p := ⟨M, 18, none⟩) BW0.out (by have := HMW.out.lt; exact this)).trans K1R.out
          go_simp
          clear q4
          refine hK.out _ _ D0 (fun hHeld => ?_)
          clear hK K
          refine wpAnyH_ready (rs := [9]) (by kernel_rfl) (by simp) ?_
          refine AllReadyH.cons rfl (fun K hK => ?_) ?_
          · go_simp
            go_at_call 142
            refine (HC1.out _ (keep_trans HWB.out BW0.out)).mono ?_
            rintro e' vr12 ⟨A1, d1, rfl, hd, hO, hb⟩
            have Dr12 : Hid (Ch (fun k => k = M ∨ some k = (Value.slice Bk n dk).ownBlock) W vr12) := Lib.hid (D0.out.trans' (Ch.of_below (X := fun k => k = M ∨ some k = (Value.slice Bk n dk).ownBlock) hb) (fun _ _ h => h))
            have BWr12 : Hid (Below W.heap.size W vr12) := Lib.hid (keep_trans BW0.out hb)
            have FO0x12 := Lib.hid (FO0.out.later hb)
            have F1x12 : Hid (Fr vr12 w.heap.size A1 (cs intC q.rides)) := Lib.hid (fr_own hO.out (by have := BW0.out.size; have := HWS.out; omega))
            clear hb hO hd
            dsimp only
            refine hK.out _ _ Dr12 (fun hHeld => ?_)
            clear hK K
            refine wpAnyH_ready (rs := [12]) (by kernel_rfl) (by simp) ?_
            refine AllReadyH.cons rfl (fun K hK => ?_) ?_
            · go_simp
              go_at_call 142
              refine (HC2.out _ (keep_trans HWB.out BWr12.out)).mono ?_
              rintro e' vr13 ⟨A2, d2, rfl, hd, hO, hb⟩
              have Dr13 : Hid (Ch (fun k => k = M ∨ some k = (Value.slice Bk n dk).ownBlock) W vr13) := Lib.hid (Dr12.out.trans' (Ch.of_below (X := fun k => k = M ∨ some k = (Value.slice Bk n dk).ownBlock) hb) (fun _ _ h => h))
              have BWr13 : Hid (Below W.heap.size W vr13) := Lib.hid (keep_trans BWr12.out hb)
              have FO0x13 := Lib.hid (FO0x12.out.later hb)
              have F1x13 := Lib.hid (F1x12.out.later hb)
              have F2x13 : Hid (Fr vr13 w.heap.size A2 (cs intC q.stays)) := Lib.hid (fr_own hO.out (by have := BWr12.out.size; have := HWS.out; omega))
              clear hb hO hd
              dsimp only
              refine hK.out _ _ Dr13 (fun hHeld => ?_)
              clear hK K
              refine wpAnyH_take (i := 13) (v := ?vur14) rfl (by kernel_rfl) (by kernel_rfl) (by kernel_rfl) (fun _ _ _ h => h) (Or.inl ⟨by rfl, ?hyur14⟩) (by assumption) ?restur14
              case hyur14 => (intro w' hSw; clear hSw; go_simp; try with_reducible rfl)
              simp only [Act.put, List.getElem_toArray, List.getElem_cons_zero, List.getElem_cons_succ, List.setIfInBounds_toArray, List.set_cons_zero, List.set_cons_succ]
              refine wpAnyH_ready (rs := [14]) (by kernel_rfl) (by simp) ?_
              refine AllReadyH.cons rfl (fun K hK => ?_) ?_
              · go_simp
                have Dr15 : Hid (Ch (fun k => k = M ∨ some k = (Value.slice Bk n dk).ownBlock) W (vr13.alloc (.cells #[.slice SA n1 sc2, .slice A1 n2 d1, .slice A2 n3 d2] 111))) := Lib.hid (Dr13.out.alloc _)
                have BWr15 : Hid (Below W.heap.size W (vr13.alloc (.cells #[.slice SA n1 sc2, .slice A1 n2 d1, .slice A2 n3 d2] 111))) := Lib.hid (BWr13.out.alloc BWr13.out.size _)
                have FO0x15 := Lib.hid (FO0x13.out.later (one_box vr13 (.cells #[.slice SA n1 sc2, .slice A1 n2 d1, .slice A2 n3 d2] 111)))
                have F1x15 := Lib.hid (F1x13.out.later (one_box vr13 (.cells #[.slice SA n1 sc2, .slice A1 n2 d1, .slice A2 n3 d2] 111)))
                have F2x15 := Lib.hid (F2x13.out.later (one_box vr13 (.cells #[.slice SA n1 sc2, .slice A1 n2 d1, .slice A2 n3 d2] 111)))
                have HLI : Hid (Rd (vr13.alloc (.cells #[.slice SA n1 sc2, .slice A1 n2 d1, .slice A2 n3 d2] 111)) (· < (vr13.alloc (.cells #[.slice SA n1 sc2, .slice A1 n2 d1, .slice A2 n3 d2] 111)).heap.size) (some ⟨vr13.heap.size, 0, none⟩) [.slice SA n1 sc2, .slice A1 n2 d1, .slice A2 n3 d2]) := Lib.hid (Sh.lit_rd _ _ _ _ rfl)
                generalize vr13.alloc (.cells #[.slice SA n1 sc2, .slice A1 n2 d1, .slice A2 n3 d2] 111) = vr15 at *
                refine hK.out _ _ Dr15 (fun hHeld => ?_)
                clear hK K
                refine wpAnyH_ready (rs := [15]) (by kernel_rfl) (by simp) ?_
                refine AllReadyH.cons rfl (fun K hK => ?_) ?_
                · refine step_append_g (by rfl) (.tmp 37) (.tmp 46) 28 (by rfl) B 111 _ 3 72 Tryz.underlying28 info_RouteO rfl (by omega) (by omega) (.slice Bk n dk) n cr (by rfl) (Lib.hid (own_after OV.out BWr15.out)) _ _ 1 1 _ (by rfl) (Lib.hid rfl) HLI (by simp [Value.oneCell']) (by omega) (Nat.le_trans hBW BWr15.out.size) ?_
                  intro v' w6 hown hgrow hob
                  obtain ⟨A', c', rfl, -, -⟩ := own_form hown.out
                  have hg2 := hgrow.out
                  have hg3 := hown.out
                  have hg4 := hob.out
                  have hg5 := own_after OV.out BWr15.out
                  rw [HN.out] at hg2 hg3 hg4 hg5
                  have HS6 := Lib.hid (HMW.out.six BWr15.out (v := .slice Bk wd.routes.length dk) (by simp) hg2)
                  have hwv := keep_trans HWB.out BWr15.out
                  have hnew : Rtos vr15 (fun b => w.heap.size ≤ b ∧ b < vr15.heap.size) [nRoute x.stops q] [.slice SA n1 sc2, .slice A1 n2 d1, .slice A2 n3 d2] := ⟨SA, sc2, A1, d1, A2, d2, [], by simp only [nRoute, List.length_map, HN1.out, HN2.out, HN3.out], FO0x15.out, F1x15.out, F2x15.out, rfl⟩
                  have HF := Lib.hid (H.out.add4 (q := nRoute x.stops q) hwv cr hg5 ((HCR.out.keep fun b hk => hwv.block b hk.2.1).more fun b hk => hk.on hwv.size fun _ h => .inl h) _ hg3 hnew hg2 hg4)
                  rw [← HN.out] at HF
                  have D6 : Hid (Ch (fun k => k = M ∨ some k = (Value.slice Bk n dk).ownBlock) W w6) := Lib.hid (Dr15.out.trans' (Ch.of_grown (X := fun k => k = M ∨ some k = (Value.slice Bk n dk).ownBlock) hgrow.out fun k e => .inr e) (fun _ _ h => h))
                  have k6 : w6.cell? ⟨M, 18, none⟩ = some (.slice Bk n dk) := by rw [HN.out]; exact row_of4 HS6.out.1 HMW.out.hnv
                  have f6 : w6.frozen? ⟨M, 18, none⟩ = false := HS6.out.1.frozen 18
                  clear hg2 hg3 hg4 hg5 hnew
                  refine hK.out _ _ D6 (fun hHeld => ?_)
                  clear hK K
                  refine wpAnyH_take (i := 16) (v := ?vur17) rfl (by kernel_rfl) (by kernel_rfl) (by kernel_rfl) (fun _ _ _ h => h) (Or.inl ⟨by rfl, ?hyur17⟩) (by assumption) ?restur17
                  case hyur17 => (intro w' hSw; clear hSw; go_simp; try with_reducible rfl)
                  simp only [Act.put, List.getElem_toArray, List.getElem_cons_zero, List.getElem_cons_succ, List.setIfInBounds_toArray, List.set_cons_zero, List.set_cons_succ]
                  refine wpAnyH_take (i := 17) (v := ?vur18) rfl (by kernel_rfl) (by kernel_rfl) (by kernel_rfl) (fun _ _ _ h => h) (Or.inl ⟨by rfl, ?hyur18⟩) (by assumption) ?restur18
                  case hyur18 => (intro w' hSw; clear hSw; go_simp; try with_reducible rfl)
                  simp only [Act.put, List.getElem_toArray, List.getElem_cons_zero, List.getElem_cons_succ, List.setIfInBounds_toArray, List.set_cons_zero, List.set_cons_succ]
                  refine wpAnyH_take (i := 18) (v := ?vur19) rfl (by kernel_rfl) (by kernel_rfl) (by kernel_rfl) (fun _ _ _ h => h) (Or.inl ⟨by rfl, ?hyur19⟩) (by assumption) ?restur19
                  case hyur19 => (intro w' hSw; clear hSw; go_simp; try with_reducible rfl)
                  simp only [Act.put, List.getElem_toArray, List.getElem_cons_zero, List.getElem_cons_succ, List.setIfInBounds_toArray, List.set_cons_zero, List.set_cons_succ]
                  refine wpAnyH_ready (rs := [19]) (by kernel_rfl) (by simp) ?_
                  refine AllReadyH.cons rfl (fun K hK => ?_) AllReadyH.nil
                  go_simp
                  have D7 : Hid (Ch (fun k => k = M ∨ some k = (Value.slice Bk n dk).ownBlock) W (w6.setCell ⟨M, 18, none⟩ (.slice A' (n + 1) c'))) := Lib.hid (D6.out.setCell (p := ⟨M, 18, none⟩) (.inl (.inl rfl)) _)
                  refine hK.out _ _ D7 (fun hHeld => ?_)
                  refine wpAnyH_done (by kernel_rfl) ?_ _
                  go_wp2
                  go_ret
                  exact ⟨rfl, Lib.hid ⟨_, _, _, _, _, HF.out.1⟩, Lib.hid ⟨HF.out.2, fun h => absurd rfl h⟩⟩
                exact AllReadyH.nil
              exact AllReadyH.nil
            exact AllReadyH.nil
          exact AllReadyH.nil
        refine AllReadyH.cons rfl (fun K hK => ?_) ?_
        · go_simp
          go_at_call 142
          refine (HC1.out _ (keep_trans HWB.out BW0.out)).mono ?_
          rintro e' vr20 ⟨A1, d1, rfl, hd, hO, hb⟩
          have Dr20 : Hid (Ch (fun k => k = M ∨ some k = (Value.slice Bk n dk).ownBlock) W vr20) := Lib.hid (D0.out.trans' (Ch.of_below (X := fun k => k = M ∨ some k = (Value.slice Bk n dk).ownBlock) hb) (fun _ _ h => h))
          have BWr20 : Hid (Below W.heap.size W vr20) := Lib.hid (keep_trans BW0.out hb)
          have FO0x20 := Lib.hid (FO0.out.later hb)
          have F1x20 : Hid (Fr vr20 w.heap.size A1 (cs intC q.rides)) := Lib.hid (fr_own hO.out (by have := BW0.out.size; have := HWS.out; omega))
          clear hb hO hd
          dsimp only
          refine hK.out _ _ Dr20 (fun hHeld => ?_)
          clear hK K
          refine wpAnyH_ready (rs := [5, 12]) (by kernel_rfl) (by simp) ?_
          refine AllReadyH.cons rfl (fun K hK => ?_) ?_
          · have q4 : vr20.cell? ⟨M, 18, none⟩ = some (.slice Bk n dk) := (cell_keep (p := ⟨M, 18, none⟩) BWr20.out (by have := HMW.out.lt; exact this)).trans K1R.out
            go_simp
            clear q4
            refine hK.out _ _ Dr20 (fun hHeld => ?_)
            clear hK K
            refine wpAnyH_ready (rs := [12]) (by kernel_rfl) (by simp) ?_
            refine AllReadyH.cons rfl (fun K hK => ?_) ?_
            · go_simp
              go_at_call 142
              refine (HC2.out _ (keep_trans HWB.out BWr20.out)).mono ?_
              rintro e' vr22 ⟨A2, d2, rfl, hd, hO, hb⟩
              have Dr22 : Hid (Ch (fun k => k = M ∨ some k = (Value.slice Bk n dk).ownBlock) W vr22) := Lib.hid (Dr20.out.trans' (Ch.of_below (X := fun k => k = M ∨ some k = (Value.slice Bk n dk).ownBlock) hb) (fun _ _ h => h))
              have BWr22 : Hid (Below W.heap.size W vr22) := Lib.hid (keep_trans BWr20.out hb)
              have FO0x22 := Lib.hid (FO0x20.out.later hb)
              have F1x22 := Lib.hid (F1x20.out.later hb)
              have F2x22 : Hid (Fr vr22 w.heap.size A2 (cs intC q.stays)) := Lib.hid (fr_own hO.out (by have := BWr20.out.size; have := HWS.out; omega))
              clear hb hO hd
              dsimp only
              refine hK.out _ _ Dr22 (fun hHeld => ?_)
              clear hK K
              refine wpAnyH_take (i := 13) (v := ?vur23) rfl (by kernel_rfl) (by kernel_rfl) (by kernel_rfl) (fun _ _ _ h => h) (Or.inl ⟨by rfl, ?hyur23⟩) (by assumption) ?restur23
              case hyur23 => (intro w' hSw; clear hSw; go_simp; try with_reducible rfl)
              simp only [Act.put, List.getElem_toArray, List.getElem_cons_zero, List.getElem_cons_succ, List.setIfInBounds_toArray, List.set_cons_zero, List.set_cons_succ]
              refine wpAnyH_ready (rs := [14]) (by kernel_rfl) (by simp) ?_
              refine AllReadyH.cons rfl (fun K hK => ?_) ?_
              · go_simp
                have Dr24 : Hid (Ch (fun k => k = M ∨ some k = (Value.slice Bk n dk).ownBlock) W (vr22.alloc (.cells #[.slice SA n1 sc2, .slice A1 n2 d1, .slice A2 n3 d2] 111))) := Lib.hid (Dr22.out.alloc _)
                have BWr24 : Hid (Below W.heap.size W (vr22.alloc (.cells #[.slice SA n1 sc2, .slice A1 n2 d1, .slice A2 n3 d2] 111))) := Lib.hid (BWr22.out.alloc BWr22.out.size _)
                have FO0x24 := Lib.hid (FO0x22.out.later (one_box vr22 (.cells #[.slice SA n1 sc2, .slice A1 n2 d1, .slice A2 n3 d2] 111)))
                have F1x24 := Lib.hid (F1x22.out.later (one_box vr22 (.cells #[.slice SA n1 sc2, .slice A1 n2 d1, .slice A2 n3 d2] 111)))
                have F2x24 := Lib.hid (F2x22.out.later (one_box vr22 (.cells #[.slice SA n1 sc2, .slice A1 n2 d1, .slice A2 n3 d2] 111)))
                have HLI : Hid (Rd (vr22.alloc (.cells #[.slice SA n1 sc2, .slice A1 n2 d1, .slice A2 n3 d2] 111)) (· < (vr22.alloc (.cells #[.slice SA n1 sc2, .slice A1 n2 d1, .slice A2 n3 d2] 111)).heap.size) (some ⟨vr22.heap.size, 0, none⟩) [.slice SA n1 sc2, .slice A1 n2 d1, .slice A2 n3 d2]) := Lib.hid (Sh.lit_rd _ _ _ _ rfl)
                generalize vr22.alloc (.cells #[.slice SA n1 sc2, .slice A1 n2 d1, .slice A2 n3 d2] 111) = vr24 at *
                refine hK.out _ _ Dr24 (fun hHeld => ?_)
                clear hK K
                refine wpAnyH_ready (rs := [15]) (by kernel_rfl) (by simp) ?_
                refine AllReadyH.cons rfl (fun K hK => ?_) ?_
                · refine step_append_g (by rfl) (.tmp 37) (.tmp 46) 28 (by rfl) B 111 _ 3 72 Tryz.underlying28 info_RouteO rfl (by omega) (by omega) (.slice Bk n dk) n cr (by rfl) (Lib.hid (own_after OV.out BWr24.out)) _ _ 1 1 _ (by rfl) (Lib.hid rfl) HLI (by simp [Value.oneCell']) (by omega) (Nat.le_trans hBW BWr24.out.size) ?_
                  intro v' w6 hown hgrow hob
                  obtain ⟨A', c', rfl, -, -⟩ := own_form hown.out
                  have hg2 := hgrow.out
                  have hg3 := hown.out
                  have hg4 := hob.out
                  have hg5 := own_after OV.out BWr24.out
                  rw [HN.out] at hg2 hg3 hg4 hg5
                  have HS6 := Lib.hid (HMW.out.six BWr24.out (v := .slice Bk wd.routes.length dk) (by simp) hg2)
                  have hwv := keep_trans HWB.out BWr24.out
                  have hnew : Rtos vr24 (fun b => w.heap.size ≤ b ∧ b < vr24.heap.size) [nRoute x.stops q] [.slice SA n1 sc2, .slice A1 n2 d1, .slice A2 n3 d2] := ⟨SA, sc2, A1, d1, A2, d2, [], by simp only [nRoute, List.length_map, HN1.out, HN2.out, HN3.out], FO0x24.out, F1x24.out, F2x24.out, rfl⟩
                  have HF := Lib.hid (H.out.add4 (q := nRoute x.stops q) hwv cr hg5 ((HCR.out.keep fun b hk => hwv.block b hk.2.1).more fun b hk => hk.on hwv.size fun _ h => .inl h) _ hg3 hnew hg2 hg4)
                  rw [← HN.out] at HF
                  have D6 : Hid (Ch (fun k => k = M ∨ some k = (Value.slice Bk n dk).ownBlock) W w6) := Lib.hid (Dr24.out.trans' (Ch.of_grown (X := fun k => k = M ∨ some k = (Value.slice Bk n dk).ownBlock) hgrow.out fun k e => .inr e) (fun _ _ h => h))
                  have k6 : w6.cell? ⟨M, 18, none⟩ = some (.slice Bk n dk) := by rw [HN.out]; exact row_of4 HS6.out.1 HMW.out.hnv
                  have f6 : w6.frozen? ⟨M, 18, none⟩ = false := HS6.out.1.frozen 18
                  clear hg2 hg3 hg4 hg5 hnew
                  refine hK.out _ _ D6 (fun hHeld => ?_)
                  clear hK K
                  refine wpAnyH_take (i := 16) (v := ?vur26) rfl (by kernel_rfl) (by kernel_rfl) (by kernel_rfl) (fun _ _ _ h => h) (Or.inl ⟨by rfl, ?hyur26⟩) (by assumption) ?restur26
                  case hyur26 => (intro w' hSw; clear hSw; go_simp; try with_reducible rfl)
                  simp only [Act.put, List.getElem_toArray, List.getElem_cons_zero, List.getElem_cons_succ, List.setIfInBounds_toArray, List.set_cons_zero, List.set_cons_succ]
                  refine wpAnyH_take (i := 17) (v := ?vur27) rfl (by kernel_rfl) (by kernel_rfl) (by kernel_rfl) (fun _ _ _ h => h) (Or.inl ⟨by rfl, ?hyur27⟩) (by assumption) ?restur27
                  case hyur27 => (intro w' hSw; clear hSw; go_simp; try with_reducible rfl)
                  simp only [Act.put, List.getElem_toArray, List.getElem_cons_zero, List.getElem_cons_succ, List.setIfInBounds_toArray, List.set_cons_zero, List.set_cons_succ]
                  refine wpAnyH_take (i := 18) (v := ?vur28) rfl (by kernel_rfl) (by kernel_rfl) (by kernel_rfl) (fun _ _ _ h => h) (Or.inl ⟨by rfl, ?hyur28⟩) (by assumption) ?restur28
                  case hyur28 => (intro w' hSw; clear hSw; go_simp; try with_reducible rfl)
                  simp only [Act.put, List.getElem_toArray, List.getElem_cons_zero, List.getElem_cons_succ, List.setIfInBounds_toArray, List.set_cons_zero, List.set_cons_succ]
                  refine wpAnyH_ready (rs := [19]) (by kernel_rfl) (by simp) ?_
                  refine AllReadyH.cons rfl (fun K hK => ?_) AllReadyH.nil
                  go_simp
                  have D7 : Hid (Ch (fun k => k = M ∨ some k = (Value.slice Bk n dk).ownBlock) W (w6.setCell ⟨M, 18, none⟩ (.slice A' (n + 1) c'))) := Lib.hid (D6.out.setCell (p := ⟨M, 18, none⟩) (.inl (.inl rfl)) _)
                  refine hK.out _ _ D7 (fun hHeld => ?_)
                  refine wpAnyH_done (by kernel_rfl) ?_ _
                  go_wp2
                  go_ret
                  exact ⟨rfl, Lib.hid ⟨_, _, _, _, _, HF.out.1⟩, Lib.hid ⟨HF.out.2, fun h => absurd rfl h⟩⟩
                exact AllReadyH.nil
              exact AllReadyH.nil
            exact AllReadyH.nil
          refine AllReadyH.cons rfl (fun K hK => ?_) ?_
          · go_simp
            go_at_call 142
            refine (HC2.out _ (keep_trans HWB.out BWr20.out)).mono ?_
            rintro e' vr29 ⟨A2, d2, rfl, hd, hO, hb⟩
            have Dr29 : Hid (Ch (fun k => k = M ∨ some k = (Value.slice Bk n dk).ownBlock) W vr29) := Lib.hid (Dr20.out.trans' (Ch.of_below (X := fun k => k = M ∨ some k = (Value.slice Bk n dk).ownBlock) hb) (fun _ _ h => h))
            have BWr29 : Hid (Below W.heap.size W vr29) := Lib.hid (keep_trans BWr20.out hb)
            have FO0x29 := Lib.hid (FO0x20.out.later hb)
            have F1x29 := Lib.hid (F1x20.out.later hb)
            have F2x29 : Hid (Fr vr29 w.heap.size A2 (cs intC q.stays)) := Lib.hid (fr_own hO.out (by have := BWr20.out.size; have := HWS.out; omega))
            clear hb hO hd
            dsimp only
            refine hK.out _ _ Dr29 (fun hHeld => ?_)
            clear hK K
            refine wpAnyH_take (i := 13) (v := ?vur30) rfl (by kernel_rfl) (by kernel_rfl) (by kernel_rfl) (fun _ _ _ h => h) (Or.inl ⟨by rfl, ?hyur30⟩) (by assumption) ?restur30
            case hyur30 => (intro w' hSw; clear hSw; go_simp; try with_reducible rfl)
            simp only [Act.put, List.getElem_toArray, List.getElem_cons_zero, List.getElem_cons_succ, List.setIfInBounds_toArray, List.set_cons_zero, List.set_cons_succ]
            refine wpAnyH_ready (rs := [5, 14]) (by kernel_rfl) (by simp) ?_
            refine AllReadyH.cons rfl (fun K hK => ?_) ?_
            · have q4 : vr29.cell? ⟨M, 18, none⟩ = some (.slice Bk n dk) := (cell_keep (p := ⟨M, 18, none⟩) BWr29.out (by have := HMW.out.lt; exact this)).trans K1R.out
              go_simp
              clear q4
              refine hK.out _ _ Dr29 (fun hHeld => ?_)
              clear hK K
              refine wpAnyH_ready (rs := [14]) (by kernel_rfl) (by simp) ?_
              refine AllReadyH.cons rfl (fun K hK => ?_) ?_
              · go_simp
                have Dr32 : Hid (Ch (fun k => k = M ∨ some k = (Value.slice Bk n dk).ownBlock) W (vr29.alloc (.cells #[.slice SA n1 sc2, .slice A1 n2 d1, .slice A2 n3 d2] 111))) := Lib.hid (Dr29.out.alloc _)
                have BWr32 : Hid (Below W.heap.size W (vr29.alloc (.cells #[.slice SA n1 sc2, .slice A1 n2 d1, .slice A2 n3 d2] 111))) := Lib.hid (BWr29.out.alloc BWr29.out.size _)
                have FO0x32 := Lib.hid (FO0x29.out.later (one_box vr29 (.cells #[.slice SA n1 sc2, .slice A1 n2 d1, .slice A2 n3 d2] 111)))
                have F1x32 := Lib.hid (F1x29.out.later (one_box vr29 (.cells #[.slice SA n1 sc2, .slice A1 n2 d1, .slice A2 n3 d2] 111)))
                have F2x32 := Lib.hid (F2x29.out.later (one_box vr29 (.cells #[.slice SA n1 sc2, .slice A1 n2 d1, .slice A2 n3 d2] 111)))
                have HLI : Hid (Rd (vr29.alloc (.cells #[.slice SA n1 sc2, .slice A1 n2 d1, .slice A2 n3 d2] 111)) (· < (vr29.alloc (.cells #[.slice SA n1 sc2, .slice A1 n2 d1, .slice A2 n3 d2] 111)).heap.size) (some ⟨vr29.heap.size, 0, none⟩) [.slice SA n1 sc2, .slice A1 n2 d1, .slice A2 n3 d2]) := Lib.hid (Sh.lit_rd _ _ _ _ rfl)
                generalize vr29.alloc (.cells #[.slice SA n1 sc2, .slice A1 n2 d1, .slice A2 n3 d2] 111) = vr32 at *
                refine hK.out _ _ Dr32 (fun hHeld => ?_)
                clear hK K
                refine wpAnyH_ready (rs := [15]) (by kernel_rfl) (by simp) ?_
                refine AllReadyH.cons rfl (fun K hK => ?_) ?_
                · refine step_append_g (by rfl) (.tmp 37) (.tmp 46) 28 (by rfl) B 111 _ 3 72 Tryz.underlying28 info_RouteO rfl (by omega) (by omega) (.slice Bk n dk) n cr (by rfl) (Lib.hid (own_after OV.out BWr32.out)) _ _ 1 1 _ (by rfl) (Lib.hid rfl) HLI (by simp [Value.oneCell']) (by omega) (Nat.le_trans hBW BWr32.out.size) ?_
                  intro v' w6 hown hgrow hob
                  obtain ⟨A', c', rfl, -, -⟩ := own_form hown.out
                  have hg2 := hgrow.out
                  have hg3 := hown.out
                  have hg4 := hob.out
                  have hg5 := own_after OV.out BWr32.out
                  rw [HN.out] at hg2 hg3 hg4 hg5
                  have HS6 := Lib.hid (HMW.out.six BWr32.out (v := .slice Bk wd.routes.length dk) (by simp) hg2)
                  have hwv := keep_trans HWB.out BWr32.out
                  have hnew : Rtos vr32 (fun b => w.heap.size ≤ b ∧ b < vr32.heap.size) [nRoute x.stops q] [.slice SA n1 sc2, .slice A1 n2 d1, .slice A2 n3 d2] := ⟨SA, sc2, A1, d1, A2, d2, [], by simp only [nRoute, List.length_map, HN1.out, HN2.out, HN3.out], FO0x32.out, F1x32.out, F2x32.out, rfl⟩
                  have HF := Lib.hid (H.out.add4 (q := nRoute x.stops q) hwv cr hg5 ((HCR.out.keep fun b hk => hwv.block b hk.2.1).more fun b hk => hk.on hwv.size fun _ h => .inl h) _ hg3 hnew hg2 hg4)
                  rw [← HN.out] at HF
                  have D6 : Hid (Ch (fun k => k = M ∨ some k = (Value.slice Bk n dk).ownBlock) W w6) := Lib.hid (Dr32.out.trans' (Ch.of_grown (X := fun k => k = M ∨ some k = (Value.slice Bk n dk).ownBlock) hgrow.out fun k e => .inr e) (fun _ _ h => h))
                  have k6 : w6.cell? ⟨M, 18, none⟩ = some (.slice Bk n dk) := by rw [HN.out]; exact row_of4 HS6.out.1 HMW.out.hnv
                  have f6 : w6.frozen? ⟨M, 18, none⟩ = false := HS6.out.1.frozen 18
                  clear hg2 hg3 hg4 hg5 hnew
                  refine hK.out _ _ D6 (fun hHeld => ?_)
                  clear hK K
                  refine wpAnyH_take (i := 16) (v := ?vur34) rfl (by kernel_rfl) (by kernel_rfl) (by kernel_rfl) (fun _ _ _ h => h) (Or.inl ⟨by rfl, ?hyur34⟩) (by assumption) ?restur34
                  case hyur34 => (intro w' hSw; clear hSw; go_simp; try with_reducible rfl)
                  simp only [Act.put, List.getElem_toArray, List.getElem_cons_zero, List.getElem_cons_succ, List.setIfInBounds_toArray, List.set_cons_zero, List.set_cons_succ]
                  refine wpAnyH_take (i := 17) (v := ?vur35) rfl (by kernel_rfl) (by kernel_rfl) (by kernel_rfl) (fun _ _ _ h => h) (Or.inl ⟨by rfl, ?hyur35⟩) (by assumption) ?restur35
                  case hyur35 => (intro w' hSw; clear hSw; go_simp; try with_reducible rfl)
                  simp only [Act.put, List.getElem_toArray, List.getElem_cons_zero, List.getElem_cons_succ, List.setIfInBounds_toArray, List.set_cons_zero, List.set_cons_succ]
                  refine wpAnyH_take (i := 18) (v := ?vur36) rfl (by kernel_rfl) (by kernel_rfl) (by kernel_rfl) (fun _ _ _ h => h) (Or.inl ⟨by rfl, ?hyur36⟩) (by assumption) ?restur36
                  case hyur36 => (intro w' hSw; clear hSw; go_simp; try with_reducible rfl)
                  simp only [Act.put, List.getElem_toArray, List.getElem_cons_zero, List.getElem_cons_succ, List.setIfInBounds_toArray, List.set_cons_zero, List.set_cons_succ]
                  refine wpAnyH_ready (rs := [19]) (by kernel_rfl) (by simp) ?_
                  refine AllReadyH.cons rfl (fun K hK => ?_) AllReadyH.nil
                  go_simp
                  have D7 : Hid (Ch (fun k => k = M ∨ some k = (Value.slice Bk n dk).ownBlock) W (w6.setCell ⟨M, 18, none⟩ (.slice A' (n + 1) c'))) := Lib.hid (D6.out.setCell (p := ⟨M, 18, none⟩) (.inl (.inl rfl)) _)
                  refine hK.out _ _ D7 (fun hHeld => ?_)
                  refine wpAnyH_done (by kernel_rfl) ?_ _
                  go_wp2
                  go_ret
                  exact ⟨rfl, Lib.hid ⟨_, _, _, _, _, HF.out.1⟩, Lib.hid ⟨HF.out.2, fun h => absurd rfl h⟩⟩
                exact AllReadyH.nil
              exact AllReadyH.nil
            refine AllReadyH.cons rfl (fun K hK => ?_) ?_
            · go_simp
              have Dr37 : Hid (Ch (fun k => k = M ∨ some k = (Value.slice Bk n dk).ownBlock) W (vr29.alloc (.cells #[.slice SA n1 sc2, .slice A1 n2 d1, .slice A2 n3 d2] 111))) := Lib.hid (Dr29.out.alloc _)
              have BWr37 : Hid (Below W.heap.size W (vr29.alloc (.cells #[.slice SA n1 sc2, .slice A1 n2 d1, .slice A2 n3 d2] 111))) := Lib.hid (BWr29.out.alloc BWr29.out.size _)
              have FO0x37 := Lib.hid (FO0x29.out.later (one_box vr29 (.cells #[.slice SA n1 sc2, .slice A1 n2 d1, .slice A2 n3 d2] 111)))
              have F1x37 := Lib.hid (F1x29.out.later (one_box vr29 (.cells #[.slice SA n1 sc2, .slice A1 n2 d1, .slice A2 n3 d2] 111)))
              have F2x37 := Lib.hid (F2x29.out.later (one_box vr29 (.cells #[.slice SA n1 sc2, .slice A1 n2 d1, .slice A2 n3 d2] 111)))
              have HLI : Hid (Rd (vr29.alloc (.cells #[.slice SA n1 sc2, .slice A1 n2 d1, .slice A2 n3 d2] 111)) (· < (vr29.alloc (.cells #[.slice SA n1 sc2, .slice A1 n2 d1, .slice A2 n3 d2] 111)).heap.size) (some ⟨vr29.heap.size, 0, none⟩) [.slice SA n1 sc2, .slice A1 n2 d1, .slice A2 n3 d2]) := Lib.hid (Sh.lit_rd _ _ _ _ rfl)
              generalize vr29.alloc (.cells #[.slice SA n1 sc2, .slice A1 n2 d1, .slice A2 n3 d2] 111) = vr37 at *
              refine hK.out _ _ Dr37 (fun hHeld => ?_)
              clear hK K
              refine wpAnyH_ready (rs := [5]) (by kernel_rfl) (by simp) ?_
              refine AllReadyH.cons rfl (fun K hK => ?_) ?_
              · have q4 : vr37.cell? ⟨M, 18, none⟩ = some (.slice Bk n dk) := (cell_keep (p := ⟨M, 18, none⟩) BWr37.out (by have := HMW.out.lt; exact this)).trans K1R.out
                go_simp
                clear q4
                refine hK.out _ _ Dr37 (fun hHeld => ?_)
                clear hK K
                refine wpAnyH_ready (rs := [15]) (by kernel_rfl) (by simp) ?_
                refine AllReadyH.cons rfl (fun K hK => ?_) ?_
                · refine step_append_g (by rfl) (.tmp 37) (.tmp 46) 28 (by rfl) B 111 _ 3 72 Tryz.underlying28 info_RouteO rfl (by omega) (by omega) (.slice Bk n dk) n cr (by rfl) (Lib.hid (own_after OV.out BWr37.out)) _ _ 1 1 _ (by rfl) (Lib.hid rfl) HLI (by simp [Value.oneCell']) (by omega) (Nat.le_trans hBW BWr37.out.size) ?_
                  intro v' w6 hown hgrow hob
                  obtain ⟨A', c', rfl, -, -⟩ := own_form hown.out
                  have hg2 := hgrow.out
                  have hg3 := hown.out
                  have hg4 := hob.out
                  have hg5 := own_after OV.out BWr37.out
                  rw [HN.out] at hg2 hg3 hg4 hg5
                  have HS6 := Lib.hid (HMW.out.six BWr37.out (v := .slice Bk wd.routes.length dk) (by simp) hg2)
                  have hwv := keep_trans HWB.out BWr37.out
                  have hnew : Rtos vr37 (fun b => w.heap.size ≤ b ∧ b < vr37.heap.size) [nRoute x.stops q] [.slice SA n1 sc2, .slice A1 n2 d1, .slice A2 n3 d2] := ⟨SA, sc2, A1, d1, A2, d2, [], by simp only [nRoute, List.length_map, HN1.out, HN2.out, HN3.out], FO0x37.out, F1x37.out, F2x37.out, rfl⟩
                  have HF := Lib.hid (H.out.add4 (q := nRoute x.stops q) hwv cr hg5 ((HCR.out.keep fun b hk => hwv.block b hk.2.1).more fun b hk => hk.on hwv.size fun _ h => .inl h) _ hg3 hnew hg2 hg4)
                  rw [← HN.out] at HF
                  have D6 : Hid (Ch (fun k => k = M ∨ some k = (Value.slice Bk n dk).ownBlock) W w6) := Lib.hid (Dr37.out.trans' (Ch.of_grown (X := fun k => k = M ∨ some k = (Value.slice Bk n dk).ownBlock) hgrow.out fun k e => .inr e) (fun _ _ h => h))
                  have k6 : w6.cell? ⟨M, 18, none⟩ = some (.slice Bk n dk) := by rw [HN.out]; exact row_of4 HS6.out.1 HMW.out.hnv
                  have f6 : w6.frozen? ⟨M, 18, none⟩ = false := HS6.out.1.frozen 18
                  clear hg2 hg3 hg4 hg5 hnew
                  refine hK.out _ _ D6 (fun hHeld => ?_)
                  clear hK K
                  refine wpAnyH_take (i := 16) (v := ?vur40) rfl (by kernel_rfl) (by kernel_rfl) (by kernel_rfl) (fun _ _ _ h => h) (Or.inl ⟨by rfl, ?hyur40⟩) (by assumption) ?restur40
                  case hyur40 => (intro w' hSw; clear hSw; go_simp; try with_reducible rfl)
                  simp only [Act.put, List.getElem_toArray, List.getElem_cons_zero, List.getElem_cons_succ, List.setIfInBounds_toArray, List.set_cons_zero, List.set_cons_succ]
                  refine wpAnyH_take (i := 17) (v := ?vur41) rfl (by kernel_rfl) (by kernel_rfl) (by kernel_rfl) (fun _ _ _ h => h) (Or.inl ⟨by rfl, ?hyur41⟩) (by assumption) ?restur41
                  case hyur41 => (intro w' hSw; clear hSw; go_simp; try with_reducible rfl)
                  simp only [Act.put, List.getElem_toArray, List.getElem_cons_zero, List.getElem_cons_succ, List.setIfInBounds_toArray, List.set_cons_zero, List.set_cons_succ]
                  refine wpAnyH_take (i := 18) (v := ?vur42) rfl (by kernel_rfl) (by kernel_rfl) (by kernel_rfl) (fun _ _ _ h => h) (Or.inl ⟨by rfl, ?hyur42⟩) (by assumption) ?restur42
                  case hyur42 => (intro w' hSw; clear hSw; go_simp; try with_reducible rfl)
                  simp only [Act.put, List.getElem_toArray, List.getElem_cons_zero, List.getElem_cons_succ, List.setIfInBounds_toArray, List.set_cons_zero, List.set_cons_succ]
                  refine wpAnyH_ready (rs := [19]) (by kernel_rfl) (by simp) ?_
                  refine AllReadyH.cons rfl (fun K hK => ?_) AllReadyH.nil
                  go_simp
                  have D7 : Hid (Ch (fun k => k = M ∨ some k = (Value.slice Bk n dk).ownBlock) W (w6.setCell ⟨M, 18, none⟩ (.slice A' (n + 1) c'))) := Lib.hid (D6.out.setCell (p := ⟨M, 18, none⟩) (.inl (.inl rfl)) _)
                  refine hK.out _ _ D7 (fun hHeld => ?_)
                  refine wpAnyH_done (by kernel_rfl) ?_ _
                  go_wp2
                  go_ret
                  exact ⟨rfl, Lib.hid ⟨_, _, _, _, _, HF.out.1⟩, Lib.hid ⟨HF.out.2, fun h => absurd rfl h⟩⟩
                exact AllReadyH.nil
              exact AllReadyH.nil
            exact AllReadyH.nil
          exact AllReadyH.nil
        exact AllReadyH.nil
  · have HNO : Hid (∃ s ∈ q.stops, s ∉ x.stops) := Lib.hid (by
      rcases Classical.em (∃ s ∈ q.stops, s ∉ x.stops) with h | h
      · exact h
      · exact absurd (fun s hs => Classical.byContradiction fun hn => h ⟨s, hs, hn⟩) hin)
    have HST : Hid (∀ w1, Below w.heap.size w w1 → Calls Tryz.prog 138 #[.pointer (some ⟨M, 0, none⟩), .slice sa n1 sc] w1 (StNo w1)) := Lib.hid (fun w1 hb => (HS.out w1 hb).mono fun e w' he => by
      rcases he with he | he
      · obtain ⟨s, hs, hn⟩ := HNO.out
        exact absurd (he.1 s hs) hn
      · exact he.2)
    rw [route_no HNO.out]
    simp only [show ((5 : Int) = 0) = False by simp, if_false]
    clear HS hin
    go_enter Tryz.func97, Tryz.ntmps97
    go_wp2_with (go_at_call 138; refine (HST.out _ (one_box _ _)).mono ?_; rintro e w2 ⟨rfl, hb⟩; have HB2 := Lib.hid (keep_trans (one_box _ _) hb); clear hb)
    go_ret
    exact ⟨rfl, Lib.hid ⟨v2, v3, v4, v5, v6, H.out.after HB2.out⟩, Lib.hid ⟨Ch.of_below HB2.out, fun _ => HB2.out⟩⟩
end Go.Proofs.YtgdanbfglefiiaaGreat.Wo
