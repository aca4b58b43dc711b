/- Package world's route; proved by walking its text. Conditions: the maker lies as Ms says; at most 400 stops in a route. -/
import Derived.Test.YtfefnfifeaihhaaGreatWoTrip
set_option linter.unusedVariables false
set_option linter.unusedSimpArgs false
set_option maxHeartbeats 4000000
set_option maxRecDepth 100000
namespace Go.Proofs.YtfefnfifeaihhaaGreat.Wo
open Go.ChangeShapes Go.WideShapes Go.ChangeAt Go.RowKit Go.Maps
open Lx Sh It
theorem route_no {S : List Nm} {r : RouteM} (h : ∃ s ∈ r.stops, s ∉ S) : routeE (nRoute S r) = 5 := by
  unfold routeE
  rw [if_pos]
  obtain ⟨s, hs, hn⟩ := h
  simp only [nRoute, List.any_map, List.any_eq_true]
  exact ⟨s, hs, by simpa using pl_neg.2 hn⟩
theorem route_yes {S : List Nm} {r : RouteM} (h : ∀ s ∈ r.stops, s ∈ S) : routeE (nRoute S r) = if reps (r.stops.map (pl S)) || r.rides.any (fun n => decide (n < 1)) then 2 else 0 := by
  unfold routeE
  rw [if_neg]
  · rfl
  · simp only [nRoute, List.any_map, List.any_eq_true, not_exists, not_and]
    intro s hs
    have := fun hh => pl_neg.1 hh (h s hs)
    simpa using this
theorem route_any {w : World} {B M T : Nat} {X : Nat → Prop} {x : SheetM} {p : ShA} {tA : Option Addr} {tn tc : Nat} {nv : List Value} {wd : WorldM} (h : MsE w B M T X x p tA tn tc nv wd) (hw : wd.routes.length ≤ 400) (hx : x.routes.length ≤ 400) (i : Nat) (q : RouteM) (hq : x.routes[i]? = some q) (hl : q.stops.length ≤ 400 ∧ q.rides.length ≤ 400 ∧ q.stays.length ≤ 400) (la : ∀ s ∈ q.stops, s.length ≤ maxLen) :
    Calls Tryz.prog 156 #[.pointer (some ⟨M, 0, none⟩), .int .i64 (i : Int)] w (MetPost w B M T X x p tA tn tc nv (routeE (nRoute x.stops q)) (if routeE (nRoute x.stops q) = 0 then { wd with routes := wd.routes ++ [nRoute x.stops q] } else wd)) := by
  obtain ⟨v2, v3, v4, v5, v6, h⟩ := h
  have H := HH h
  have hi : i < x.routes.length := (List.getElem?_eq_some_iff.1 hq).1
  obtain ⟨cx, hc4, hc4'⟩ := h.sh.r4
  obtain ⟨ad, e2, ⟨hS1, hS2⟩, sa, sc, ra, rc, ya, yc, h0, h1, h2, h3, hrt⟩ := rts_at hc4 hc4' hq
  have c4 : w.cell? ⟨M, 6, none⟩ = some (.slice (some ad) x.routes.length p.c4) := by rw [← e2]; exact h.cell 6 (by omega)
  have hM : M < w.heap.size := h.lt
  have hne : M ≠ w.heap.size := by omega
  have hi2 : (i : Int) < (x.routes.length : Int) := by omega
  have hbk : (ad.add (i * 4)).block < w.heap.size := by rw [block_of_add]; have := h.hB; omega
  have hbk2 : (ad.add (i * 4)).block ≠ w.heap.size := by omega
  obtain ⟨np, hnp⟩ : ∃ n, n = x.routes.length := ⟨_, rfl⟩
  rw [← hnp] at c4 hi2
  have hi3 : ¬ ((i : Int) < 0) := by omega
  have HRT : Hid (RtAt w (· < w.heap.size) q sa ra ya) := HH (hrt.more fun b hb => by have := h.hB; omega)
  have HMK := HH (fun w1 (hb : Below w.heap.size w w1) => (h.after hb).mk_)
  have HLA := HH la
  clear hc4 hc4' hrt e2 hS1 hS2 hnp hi hx h hq la
  obtain ⟨hl1, hl2, hl3⟩ := hl
  obtain ⟨n1, hn1⟩ : ∃ n, n = q.stops.length := ⟨_, rfl⟩
  obtain ⟨n2, hn2⟩ : ∃ n, n = q.rides.length := ⟨_, rfl⟩
  obtain ⟨n3, hn3⟩ : ∃ n, n = q.stays.length := ⟨_, rfl⟩
  rw [← hn1] at hl1 h1
  rw [← hn2] at hl2 h2
  rw [← hn3] at hl3 h3
  have HN1 := HH hn1
  have HN2 := HH hn2
  have HN3 := HH hn3
  have HS := HH (fun w1 (hb : Below w.heap.size w w1) => stops_any (HMK.out w1 hb) sa n1 sc q.stops HN1 hl1 ((HRT.out.later hb).hs) HLA.out)
  have HSH := HH (fun w1 (hb : Below w.heap.size w w1) => shorts_any w1 ra n2 rc q.rides HN2 hl2 ((HRT.out.later hb).hr))
  have HC1 := HH (fun w1 (hb : Below w.heap.size w w1) => clone_rint w1 ra n2 rc q.rides HN2 (by omega) ((HRT.out.later hb).hr))
  have HC2 := HH (fun w1 (hb : Below w.heap.size w w1) => clone_rint w1 ya n3 yc q.stays HN3 (by omega) ((HRT.out.later hb).hy))
  clear hn1 hn2 hn3
  obtain ⟨qn, hqn⟩ : ∃ qn, qn = q.name := ⟨_, rfl⟩
  rw [← hqn] at h0
  clear hqn
  by_cases hin : ∀ s ∈ q.stops, s ∈ x.stops
  · have HIN := HH hin
    have HST : Hid (∀ w1, Below w.heap.size w w1 → Calls Tryz.prog 183 #[.pointer (some ⟨M, 0, none⟩), .slice sa n1 sc] w1 (StYes w1 x.stops q.stops)) := HH (fun w1 hb => (HS.out w1 hb).mono fun e w' he => by
      rcases he with he | he
      · exact he.2
      · obtain ⟨s, hs, hn⟩ := he.1
        exact absurd (HIN.out s hs) hn)
    rw [route_yes hin]
    clear HS hin
    have HRP := HH (fun w1 A c hx => repeats_any w1 A n1 c (q.stops.map (pl x.stops)) (HH (by rw [List.length_map]; exact HN1.out)) hl1 hx)
    cases hrp : reps (q.stops.map (pl x.stops)) with
    | true =>
      rw [hrp] at HRP
      simp only [Bool.true_or, if_true, show ((2 : Int) = 0) = False by simp, if_false]
      clear hrp
      go_enter Tryz.func156, Tryz.ntmps156
      go_wp2_with (first
        | (go_at_call 183; refine (HST.out _ (one_box _ _)).mono ?_; rintro e w2 ⟨SA, sc2, rfl, ho, hb⟩; rw [← HN1.out] at ho ⊢; have R2 : Hid (Below w.heap.size w w2) := HH (keep_trans (one_box _ _) hb); have HBX := HH ((Blk.new w 121 [.string ⟨qn.toArray⟩, .slice sa n1 sc, .slice ra n2 rc, .slice ya n3 yc]).after hb); have FO : Hid (Fr w2 w.heap.size SA (cs intC (q.stops.map (pl x.stops)))) := HH (fr_own ho.out (by simp)); clear hb ho)
        | (go_at_call 184; refine (HRP.out _ _ _ FO.out.old).mono ?_; rintro e w3 ⟨rfl, hb⟩; have R3 : Hid (Below w.heap.size w w3) := HH (keep_trans R2.out hb); have HBX := HH (HBX.out.after hb); have FO := HH (FO.out.later hb); have b2 : w3.cell? ⟨w.heap.size, 2, none⟩ = some (.slice ra n2 rc) := HBX.out.cell 2; clear hb))
      go_ret
      exact ⟨rfl, HH ⟨v2, v3, v4, v5, v6, H.out.after R3.out⟩, HH ⟨Ch.of_below R3.out, fun _ => R3.out⟩⟩
    | false =>
      rw [hrp] at HRP
      clear hrp
      cases hsh : q.rides.any (fun n => decide (n < 1)) with
      | true =>
        rw [hsh] at HSH
        simp only [Bool.or_true, if_true, show ((2 : Int) = 0) = False by simp, if_false]
        clear hsh
        go_enter Tryz.func156, Tryz.ntmps156
        go_wp2_with (first
          | (go_at_call 183; refine (HST.out _ (one_box _ _)).mono ?_; rintro e w2 ⟨SA, sc2, rfl, ho, hb⟩; rw [← HN1.out] at ho ⊢; have R2 : Hid (Below w.heap.size w w2) := HH (keep_trans (one_box _ _) hb); have HBX := HH ((Blk.new w 121 [.string ⟨qn.toArray⟩, .slice sa n1 sc, .slice ra n2 rc, .slice ya n3 yc]).after hb); have FO : Hid (Fr w2 w.heap.size SA (cs intC (q.stops.map (pl x.stops)))) := HH (fr_own ho.out (by simp)); clear hb ho)
          | (go_at_call 184; refine (HRP.out _ _ _ FO.out.old).mono ?_; rintro e w3 ⟨rfl, hb⟩; have R3 : Hid (Below w.heap.size w w3) := HH (keep_trans R2.out hb); have HBX := HH (HBX.out.after hb); have FO := HH (FO.out.later hb); have b2 : w3.cell? ⟨w.heap.size, 2, none⟩ = some (.slice ra n2 rc) := HBX.out.cell 2; clear hb)
          | (go_at_call 185; refine (HSH.out _ R3.out).mono ?_; rintro e w4 ⟨rfl, hb⟩; have HWB : Hid (Below w.heap.size w w4) := HH (keep_trans R3.out hb); have hbs := HH hb; clear hb b2))
        go_ret
        exact ⟨rfl, HH ⟨v2, v3, v4, v5, v6, H.out.after HWB.out⟩, HH ⟨Ch.of_below HWB.out, fun _ => HWB.out⟩⟩
      | false =>
        rw [hsh] at HSH
        simp only [Bool.or_false, Bool.false_eq_true, if_false, if_true]
        clear hsh
        go_enter Tryz.func156, Tryz.ntmps156
        go_wp2_with (first
          | (go_at_call 183; refine (HST.out _ (one_box _ _)).mono ?_; rintro e w2 ⟨SA, sc2, rfl, ho, hb⟩; rw [← HN1.out] at ho ⊢; have R2 : Hid (Below w.heap.size w w2) := HH (keep_trans (one_box _ _) hb); have HBX := HH ((Blk.new w 121 [.string ⟨qn.toArray⟩, .slice sa n1 sc, .slice ra n2 rc, .slice ya n3 yc]).after hb); have FO : Hid (Fr w2 w.heap.size SA (cs intC (q.stops.map (pl x.stops)))) := HH (fr_own ho.out (by simp)); clear hb ho)
          | (go_at_call 184; refine (HRP.out _ _ _ FO.out.old).mono ?_; rintro e w3 ⟨rfl, hb⟩; have R3 : Hid (Below w.heap.size w w3) := HH (keep_trans R2.out hb); have HBX := HH (HBX.out.after hb); have FO := HH (FO.out.later hb); have b2 : w3.cell? ⟨w.heap.size, 2, none⟩ = some (.slice ra n2 rc) := HBX.out.cell 2; clear hb)
          | (go_at_call 185; refine (HSH.out _ R3.out).mono ?_; rintro e w4 ⟨rfl, hb⟩; have HWB : Hid (Below w.heap.size w w4) := HH (keep_trans R3.out hb); have hbs := HH hb; clear hb b2))
        have HWM : Hid (w.heap.size ≠ M) := HH (by omega)
        have FO := HH (FO.out.later hbs.out)
        have KD := HH (HBX.out.after hbs.out)
        have HMW := HH (H.out.after HWB.out)
        have HWS : Hid (w.heap.size < w4.heap.size) := HH KD.out.lt
        generalize w4 = W at *
        clear c4 hM hne h0 h1 h2 h3 hi2 hbk hbk2 hi3 HST HRP HSH hbs HBX R3 R2
        obtain ⟨c0, hcr0, -⟩ := HMW.out.r4
        have HNW : Hid (¬ (w.heap.size = M ∨ some w.heap.size = v4.ownBlock)) := HH (fun h => h.elim HWM.out (fun e => own_ne_blk hcr0 KD.out (by decide) _ e.symm rfl))
        clear hcr0 c0
        obtain ⟨cr, hcr, hcr'⟩ := H.out.r4
        have hcrW := own_after hcr HWB.out
        obtain ⟨Bk, dk, hvk, hndk, hrdk⟩ := own_form hcrW
        subst hvk
        obtain ⟨n, hn⟩ : ∃ n, n = wd.routes.length := ⟨_, rfl⟩
        have HN := HH hn
        rw [← hn] at HNW
        have OV : Hid (W.ownsRow B 59 3 (.slice Bk n dk) n cr) := HH (by rw [hn]; exact hcrW)
        have HCR := HH hcr'
        have K1R : Hid (W.cell? ⟨M, 18, none⟩ = some (.slice Bk n dk)) := HH (by rw [hn]; exact HMW.out.row 2 (by omega))
        have hn4 : n ≤ 400 := by omega
        have hBW := HMW.out.hB
        clear hn hw hndk hrdk hcr hcr' hcrW
        have KC : Hid (∀ w', Ch (fun k => k = M ∨ some k = (Value.slice Bk n dk).ownBlock) W w' → w'.cell? ⟨w.heap.size, 2, none⟩ = some (.slice ra n2 rc) ∧ w'.cell? ⟨w.heap.size, 3, none⟩ = some (.slice ya n3 yc)) := HH (fun w' hc => ⟨(hc.blk KD.out HNW.out).cell 2, (hc.blk KD.out HNW.out).cell 3⟩)
        refine wp_region_held_drew (S := fun w' => Hid (Ch (fun k => k = M ∨ some k = (Value.slice Bk n dk).ownBlock) W w')) (by kernel_rfl) ?_ (fun hHeld => ?_)
        · exact HH ((Ch.refl _ W).drew)
        refine tak 0 ?vur1 rfl ?hyur1 ?restur1
        case hyur1 => (intro w' hSw; obtain ⟨kc2, kc3⟩ := KC.out w' hSw.out; clear hSw; go_simp; try with_reducible rfl)
        simp only [ptk]
        refine tak 1 ?vur2 rfl ?hyur2 ?restur2
        case hyur2 => (intro w' hSw; obtain ⟨kc2, kc3⟩ := KC.out w' hSw.out; clear hSw; go_simp; try with_reducible rfl)
        simp only [ptk]
        refine tak 2 ?vur3 rfl ?hyur3 ?restur3
        case hyur3 => (intro w' hSw; obtain ⟨kc2, kc3⟩ := KC.out w' hSw.out; clear hSw; go_simp; try with_reducible rfl)
        simp only [ptk]
        refine tak 3 ?vur4 rfl ?hyur4 ?restur4
        case hyur4 => (intro w' hSw; obtain ⟨kc2, kc3⟩ := KC.out w' hSw.out; clear hSw; go_simp; try with_reducible rfl)
        simp only [ptk]
        refine tak 4 ?vur5 rfl ?hyur5 ?restur5
        case hyur5 => (intro w' hSw; obtain ⟨kc2, kc3⟩ := KC.out w' hSw.out; clear hSw; go_simp; try with_reducible rfl)
        simp only [ptk]
        refine tak 6 ?vur6 rfl ?hyur6 ?restur6
        case hyur6 => (intro w' hSw; obtain ⟨kc2, kc3⟩ := KC.out w' hSw.out; clear hSw; go_simp; try with_reducible rfl)
        simp only [ptk]
        refine tak 7 ?vur7 rfl ?hyur7 ?restur7
        case hyur7 => (intro w' hSw; obtain ⟨kc2, kc3⟩ := KC.out w' hSw.out; clear hSw; go_simp; try with_reducible rfl)
        simp only [ptk]
        refine tak 8 ?vur8 rfl ?hyur8 ?restur8
        case hyur8 => (intro w' hSw; obtain ⟨kc2, kc3⟩ := KC.out w' hSw.out; clear hSw; go_simp; try with_reducible rfl)
        simp only [ptk]
        refine tak 10 ?vur9 rfl ?hyur9 ?restur9
        case hyur9 => (intro w' hSw; obtain ⟨kc2, kc3⟩ := KC.out w' hSw.out; clear hSw; go_simp; try with_reducible rfl)
        simp only [ptk]
        refine tak 11 ?vur10 rfl ?hyur10 ?restur10
        case hyur10 => (intro w' hSw; obtain ⟨kc2, kc3⟩ := KC.out w' hSw.out; clear hSw; go_simp; try with_reducible rfl)
        simp only [ptk]
        have D0 := hHeld
        clear hHeld
        have BW0 : Hid (Below W.heap.size W (World.drew W)) := HH (below_drew (Below.refl _ _))
        have FO0 : Hid (Fr (World.drew W) w.heap.size SA (cs intC (q.stops.map (pl x.stops)))) := FO
        generalize World.drew W = v0 at *
        refine rdy [5, 9] ?_
        refine AllReadyH.cons rfl (fun K hK => ?_) ?_
        · have q4 : v0.cell? ⟨M, 18, none⟩ = some (.slice Bk n dk) := (cell_keep (p := ⟨M, 18, none⟩) BW0.out (by have := HMW.out.lt; exact this)).trans K1R.out
          go_simp
          clear q4
          refine hK.out _ _ D0 (fun hHeld => ?_)
          clear hK K
          refine rdy [9] ?_
          refine AllReadyH.cons rfl (fun K hK => ?_) ?_
          · go_simp
            go_at_call 35
            refine (HC1.out _ (keep_trans HWB.out BW0.out)).mono ?_
            rintro e' vr12 ⟨A1, d1, rfl, hd, hO, hb⟩
            have Dr12 : Hid (Ch (fun k => k = M ∨ some k = (Value.slice Bk n dk).ownBlock) W vr12) := HH (D0.out.trans' (Ch.of_below (X := fun k => k = M ∨ some k = (Value.slice Bk n dk).ownBlock) hb) (fun _ _ h => h))
            have BWr12 : Hid (Below W.heap.size W vr12) := HH (keep_trans BW0.out hb)
            have FO0x12 := HH (FO0.out.later hb)
            have F1x12 : Hid (Fr vr12 w.heap.size A1 (cs intC q.rides)) := HH (fr_own hO.out (by have := BW0.out.size; have := HWS.out; omega))
            clear hb hO hd
            dsimp only
            refine hK.out _ _ Dr12 (fun hHeld => ?_)
            clear hK K
            refine rdy [12] ?_
            refine AllReadyH.cons rfl (fun K hK => ?_) ?_
            · go_simp
              go_at_call 35
              refine (HC2.out _ (keep_trans HWB.out BWr12.out)).mono ?_
              rintro e' vr13 ⟨A2, d2, rfl, hd, hO, hb⟩
              have Dr13 : Hid (Ch (fun k => k = M ∨ some k = (Value.slice Bk n dk).ownBlock) W vr13) := HH (Dr12.out.trans' (Ch.of_below (X := fun k => k = M ∨ some k = (Value.slice Bk n dk).ownBlock) hb) (fun _ _ h => h))
              have BWr13 : Hid (Below W.heap.size W vr13) := HH (keep_trans BWr12.out hb)
              have FO0x13 := HH (FO0x12.out.later hb)
              have F1x13 := HH (F1x12.out.later hb)
              have F2x13 : Hid (Fr vr13 w.heap.size A2 (cs intC q.stays)) := HH (fr_own hO.out (by have := BWr12.out.size; have := HWS.out; omega))
              clear hb hO hd
              dsimp only
              refine hK.out _ _ Dr13 (fun hHeld => ?_)
              clear hK K
              refine tak 13 ?vur14 rfl ?hyur14 ?restur14
              case hyur14 => (intro w' hSw; clear hSw; go_simp; try with_reducible rfl)
              simp only [ptk]
              refine rdy [14] ?_
              refine AllReadyH.cons rfl (fun K hK => ?_) ?_
              · go_simp
                have Dr15 : Hid (Ch (fun k => k = M ∨ some k = (Value.slice Bk n dk).ownBlock) W (vr13.alloc (.cells #[.slice SA n1 sc2, .slice A1 n2 d1, .slice A2 n3 d2] 59))) := HH (Dr13.out.alloc _)
                have BWr15 : Hid (Below W.heap.size W (vr13.alloc (.cells #[.slice SA n1 sc2, .slice A1 n2 d1, .slice A2 n3 d2] 59))) := HH (BWr13.out.alloc BWr13.out.size _)
                have FO0x15 := HH (FO0x13.out.later (one_box vr13 (.cells #[.slice SA n1 sc2, .slice A1 n2 d1, .slice A2 n3 d2] 59)))
                have F1x15 := HH (F1x13.out.later (one_box vr13 (.cells #[.slice SA n1 sc2, .slice A1 n2 d1, .slice A2 n3 d2] 59)))
                have F2x15 := HH (F2x13.out.later (one_box vr13 (.cells #[.slice SA n1 sc2, .slice A1 n2 d1, .slice A2 n3 d2] 59)))
                have HLI : Hid (Rd (vr13.alloc (.cells #[.slice SA n1 sc2, .slice A1 n2 d1, .slice A2 n3 d2] 59)) (· < (vr13.alloc (.cells #[.slice SA n1 sc2, .slice A1 n2 d1, .slice A2 n3 d2] 59)).heap.size) (some ⟨vr13.heap.size, 0, none⟩) [.slice SA n1 sc2, .slice A1 n2 d1, .slice A2 n3 d2]) := HH (Sh.lit_rd _ _ _ _ rfl)
                generalize vr13.alloc (.cells #[.slice SA n1 sc2, .slice A1 n2 d1, .slice A2 n3 d2] 59) = vr15 at *
                refine hK.out _ _ Dr15 (fun hHeld => ?_)
                clear hK K
                refine rdy [15] ?_
                refine AllReadyH.cons rfl (fun K hK => ?_) ?_
                · refine step_append_g (by rfl) (.tmp 37) (.tmp 46) 33 (by rfl) B 59 _ 3 72 Tryz.underlying33 info_RouteO rfl (by omega) (by omega) (.slice Bk n dk) n cr (by rfl) (HH (own_after OV.out BWr15.out)) _ _ 1 1 _ (by rfl) (HH rfl) HLI (by simp [Value.oneCell']) (by omega) (Nat.le_trans hBW BWr15.out.size) ?_
                  intro v' w6 hown hgrow hob
                  obtain ⟨A', c', rfl, -, -⟩ := own_form hown.out
                  have hg2 := hgrow.out
                  have hg3 := hown.out
                  have hg4 := hob.out
                  have hg5 := own_after OV.out BWr15.out
                  rw [HN.out] at hg2 hg3 hg4 hg5
                  have HS6 := HH (HMW.out.six BWr15.out (v := .slice Bk wd.routes.length dk) (by simp) hg2)
                  have hwv := keep_trans HWB.out BWr15.out
                  have hnew : Rtos vr15 (fun b => w.heap.size ≤ b ∧ b < vr15.heap.size) [nRoute x.stops q] [.slice SA n1 sc2, .slice A1 n2 d1, .slice A2 n3 d2] := ⟨SA, sc2, A1, d1, A2, d2, [], by simp only [nRoute, List.length_map, HN1.out, HN2.out, HN3.out], FO0x15.out, F1x15.out, F2x15.out, rfl⟩
                  have HF := HH (H.out.add4 (q := nRoute x.stops q) hwv cr hg5 ((HCR.out.keep fun b hk => hwv.block b hk.2.1).more fun b hk => hk.on hwv.size fun _ h => .inl h) _ hg3 hnew hg2 hg4)
                  rw [← HN.out] at HF
                  have D6 : Hid (Ch (fun k => k = M ∨ some k = (Value.slice Bk n dk).ownBlock) W w6) := HH (Dr15.out.trans' (Ch.of_grown (X := fun k => k = M ∨ some k = (Value.slice Bk n dk).ownBlock) hgrow.out fun k e => .inr e) (fun _ _ h => h))
                  have k6 : w6.cell? ⟨M, 18, none⟩ = some (.slice Bk n dk) := by rw [HN.out]; exact row_of4 HS6.out.1 HMW.out.hnv
                  have f6 : w6.frozen? ⟨M, 18, none⟩ = false := HS6.out.1.frozen 18
                  clear hg2 hg3 hg4 hg5 hnew
                  refine hK.out _ _ D6 (fun hHeld => ?_)
                  clear hK K
                  refine tak 16 ?vur17 rfl ?hyur17 ?restur17
                  case hyur17 => (intro w' hSw; clear hSw; go_simp; try with_reducible rfl)
                  simp only [ptk]
                  refine tak 17 ?vur18 rfl ?hyur18 ?restur18
                  case hyur18 => (intro w' hSw; clear hSw; go_simp; try with_reducible rfl)
                  simp only [ptk]
                  refine tak 18 ?vur19 rfl ?hyur19 ?restur19
                  case hyur19 => (intro w' hSw; clear hSw; go_simp; try with_reducible rfl)
                  simp only [ptk]
                  refine rdy [19] ?_
                  refine AllReadyH.cons rfl (fun K hK => ?_) AllReadyH.nil
                  go_simp
                  have D7 : Hid (Ch (fun k => k = M ∨ some k = (Value.slice Bk n dk).ownBlock) W (w6.setCell ⟨M, 18, none⟩ (.slice A' (n + 1) c'))) := HH (D6.out.setCell (p := ⟨M, 18, none⟩) (.inl (.inl rfl)) _)
                  refine hK.out _ _ D7 (fun hHeld => ?_)
                  refine wpAnyH_done (by kernel_rfl) ?_ _
                  go_wp2
                  go_ret
                  exact ⟨rfl, HH ⟨_, _, _, _, _, HF.out.1⟩, HH ⟨HF.out.2, fun h => absurd rfl h⟩⟩
                exact AllReadyH.nil
              exact AllReadyH.nil
            exact AllReadyH.nil
          exact AllReadyH.nil
        refine AllReadyH.cons rfl (fun K hK => ?_) ?_
        · go_simp
          go_at_call 35
          refine (HC1.out _ (keep_trans HWB.out BW0.out)).mono ?_
          rintro e' vr20 ⟨A1, d1, rfl, hd, hO, hb⟩
          have Dr20 : Hid (Ch (fun k => k = M ∨ some k = (Value.slice Bk n dk).ownBlock) W vr20) := HH (D0.out.trans' (Ch.of_below (X := fun k => k = M ∨ some k = (Value.slice Bk n dk).ownBlock) hb) (fun _ _ h => h))
          have BWr20 : Hid (Below W.heap.size W vr20) := HH (keep_trans BW0.out hb)
          have FO0x20 := HH (FO0.out.later hb)
          have F1x20 : Hid (Fr vr20 w.heap.size A1 (cs intC q.rides)) := HH (fr_own hO.out (by have := BW0.out.size; have := HWS.out; omega))
          clear hb hO hd
          dsimp only
          refine hK.out _ _ Dr20 (fun hHeld => ?_)
          clear hK K
          refine rdy [5, 12] ?_
          refine AllReadyH.cons rfl (fun K hK => ?_) ?_
          · have q4 : vr20.cell? ⟨M, 18, none⟩ = some (.slice Bk n dk) := (cell_keep (p := ⟨M, 18, none⟩) BWr20.out (by have := HMW.out.lt; exact this)).trans K1R.out
            go_simp
            clear q4
            refine hK.out _ _ Dr20 (fun hHeld => ?_)
            clear hK K
            refine rdy [12] ?_
            refine AllReadyH.cons rfl (fun K hK => ?_) ?_
            · go_simp
              go_at_call 35
              refine (HC2.out _ (keep_trans HWB.out BWr20.out)).mono ?_
              rintro e' vr22 ⟨A2, d2, rfl, hd, hO, hb⟩
              have Dr22 : Hid (Ch (fun k => k = M ∨ some k = (Value.slice Bk n dk).ownBlock) W vr22) := HH (Dr20.out.trans' (Ch.of_below (X := fun k => k = M ∨ some k = (Value.slice Bk n dk).ownBlock) hb) (fun _ _ h => h))
              have BWr22 : Hid (Below W.heap.size W vr22) := HH (keep_trans BWr20.out hb)
              have FO0x22 := HH (FO0x20.out.later hb)
              have F1x22 := HH (F1x20.out.later hb)
              have F2x22 : Hid (Fr vr22 w.heap.size A2 (cs intC q.stays)) := HH (fr_own hO.out (by have := BWr20.out.size; have := HWS.out; omega))
              clear hb hO hd
              dsimp only
              refine hK.out _ _ Dr22 (fun hHeld => ?_)
              clear hK K
              refine tak 13 ?vur23 rfl ?hyur23 ?restur23
              case hyur23 => (intro w' hSw; clear hSw; go_simp; try with_reducible rfl)
              simp only [ptk]
              refine rdy [14] ?_
              refine AllReadyH.cons rfl (fun K hK => ?_) ?_
              · go_simp
                have Dr24 : Hid (Ch (fun k => k = M ∨ some k = (Value.slice Bk n dk).ownBlock) W (vr22.alloc (.cells #[.slice SA n1 sc2, .slice A1 n2 d1, .slice A2 n3 d2] 59))) := HH (Dr22.out.alloc _)
                have BWr24 : Hid (Below W.heap.size W (vr22.alloc (.cells #[.slice SA n1 sc2, .slice A1 n2 d1, .slice A2 n3 d2] 59))) := HH (BWr22.out.alloc BWr22.out.size _)
                have FO0x24 := HH (FO0x22.out.later (one_box vr22 (.cells #[.slice SA n1 sc2, .slice A1 n2 d1, .slice A2 n3 d2] 59)))
                have F1x24 := HH (F1x22.out.later (one_box vr22 (.cells #[.slice SA n1 sc2, .slice A1 n2 d1, .slice A2 n3 d2] 59)))
                have F2x24 := HH (F2x22.out.later (one_box vr22 (.cells #[.slice SA n1 sc2, .slice A1 n2 d1, .slice A2 n3 d2] 59)))
                have HLI : Hid (Rd (vr22.alloc (.cells #[.slice SA n1 sc2, .slice A1 n2 d1, .slice A2 n3 d2] 59)) (· < (vr22.alloc (.cells #[.slice SA n1 sc2, .slice A1 n2 d1, .slice A2 n3 d2] 59)).heap.size) (some ⟨vr22.heap.size, 0, none⟩) [.slice SA n1 sc2, .slice A1 n2 d1, .slice A2 n3 d2]) := HH (Sh.lit_rd _ _ _ _ rfl)
                generalize vr22.alloc (.cells #[.slice SA n1 sc2, .slice A1 n2 d1, .slice A2 n3 d2] 59) = vr24 at *
                refine hK.out _ _ Dr24 (fun hHeld => ?_)
                clear hK K
                refine rdy [15] ?_
                refine AllReadyH.cons rfl (fun K hK => ?_) ?_
                · refine step_append_g (by rfl) (.tmp 37) (.tmp 46) 33 (by rfl) B 59 _ 3 72 Tryz.underlying33 info_RouteO rfl (by omega) (by omega) (.slice Bk n dk) n cr (by rfl) (HH (own_after OV.out BWr24.out)) _ _ 1 1 _ (by rfl) (HH rfl) HLI (by simp [Value.oneCell']) (by omega) (Nat.le_trans hBW BWr24.out.size) ?_
                  intro v' w6 hown hgrow hob
                  obtain ⟨A', c', rfl, -, -⟩ := own_form hown.out
                  have hg2 := hgrow.out
                  have hg3 := hown.out
                  have hg4 := hob.out
                  have hg5 := own_after OV.out BWr24.out
                  rw [HN.out] at hg2 hg3 hg4 hg5
                  have HS6 := HH (HMW.out.six BWr24.out (v := .slice Bk wd.routes.length dk) (by simp) hg2)
                  have hwv := keep_trans HWB.out BWr24.out
                  have hnew : Rtos vr24 (fun b => w.heap.size ≤ b ∧ b < vr24.heap.size) [nRoute x.stops q] [.slice SA n1 sc2, .slice A1 n2 d1, .slice A2 n3 d2] := ⟨SA, sc2, A1, d1, A2, d2, [], by simp only [nRoute, List.length_map, HN1.out, HN2.out, HN3.out], FO0x24.out, F1x24.out, F2x24.out, rfl⟩
                  have HF := HH (H.out.add4 (q := nRoute x.stops q) hwv cr hg5 ((HCR.out.keep fun b hk => hwv.block b hk.2.1).more fun b hk => hk.on hwv.size fun _ h => .inl h) _ hg3 hnew hg2 hg4)
                  rw [← HN.out] at HF
                  have D6 : Hid (Ch (fun k => k = M ∨ some k = (Value.slice Bk n dk).ownBlock) W w6) := HH (Dr24.out.trans' (Ch.of_grown (X := fun k => k = M ∨ some k = (Value.slice Bk n dk).ownBlock) hgrow.out fun k e => .inr e) (fun _ _ h => h))
                  have k6 : w6.cell? ⟨M, 18, none⟩ = some (.slice Bk n dk) := by rw [HN.out]; exact row_of4 HS6.out.1 HMW.out.hnv
                  have f6 : w6.frozen? ⟨M, 18, none⟩ = false := HS6.out.1.frozen 18
                  clear hg2 hg3 hg4 hg5 hnew
                  refine hK.out _ _ D6 (fun hHeld => ?_)
                  clear hK K
                  refine tak 16 ?vur26 rfl ?hyur26 ?restur26
                  case hyur26 => (intro w' hSw; clear hSw; go_simp; try with_reducible rfl)
                  simp only [ptk]
                  refine tak 17 ?vur27 rfl ?hyur27 ?restur27
                  case hyur27 => (intro w' hSw; clear hSw; go_simp; try with_reducible rfl)
                  simp only [ptk]
                  refine tak 18 ?vur28 rfl ?hyur28 ?restur28
                  case hyur28 => (intro w' hSw; clear hSw; go_simp; try with_reducible rfl)
                  simp only [ptk]
                  refine rdy [19] ?_
                  refine AllReadyH.cons rfl (fun K hK => ?_) AllReadyH.nil
                  go_simp
                  have D7 : Hid (Ch (fun k => k = M ∨ some k = (Value.slice Bk n dk).ownBlock) W (w6.setCell ⟨M, 18, none⟩ (.slice A' (n + 1) c'))) := HH (D6.out.setCell (p := ⟨M, 18, none⟩) (.inl (.inl rfl)) _)
                  refine hK.out _ _ D7 (fun hHeld => ?_)
                  refine wpAnyH_done (by kernel_rfl) ?_ _
                  go_wp2
                  go_ret
                  exact ⟨rfl, HH ⟨_, _, _, _, _, HF.out.1⟩, HH ⟨HF.out.2, fun h => absurd rfl h⟩⟩
                exact AllReadyH.nil
              exact AllReadyH.nil
            exact AllReadyH.nil
          refine AllReadyH.cons rfl (fun K hK => ?_) ?_
          · go_simp
            go_at_call 35
            refine (HC2.out _ (keep_trans HWB.out BWr20.out)).mono ?_
            rintro e' vr29 ⟨A2, d2, rfl, hd, hO, hb⟩
            have Dr29 : Hid (Ch (fun k => k = M ∨ some k = (Value.slice Bk n dk).ownBlock) W vr29) := HH (Dr20.out.trans' (Ch.of_below (X := fun k => k = M ∨ some k = (Value.slice Bk n dk).ownBlock) hb) (fun _ _ h => h))
            have BWr29 : Hid (Below W.heap.size W vr29) := HH (keep_trans BWr20.out hb)
            have FO0x29 := HH (FO0x20.out.later hb)
            have F1x29 := HH (F1x20.out.later hb)
            have F2x29 : Hid (Fr vr29 w.heap.size A2 (cs intC q.stays)) := HH (fr_own hO.out (by have := BWr20.out.size; have := HWS.out; omega))
            clear hb hO hd
            dsimp only
            refine hK.out _ _ Dr29 (fun hHeld => ?_)
            clear hK K
            refine tak 13 ?vur30 rfl ?hyur30 ?restur30
            case hyur30 => (intro w' hSw; clear hSw; go_simp; try with_reducible rfl)
            simp only [ptk]
            refine rdy [5, 14] ?_
            refine AllReadyH.cons rfl (fun K hK => ?_) ?_
            · have q4 : vr29.cell? ⟨M, 18, none⟩ = some (.slice Bk n dk) := (cell_keep (p := ⟨M, 18, none⟩) BWr29.out (by have := HMW.out.lt; exact this)).trans K1R.out
              go_simp
              clear q4
              refine hK.out _ _ Dr29 (fun hHeld => ?_)
              clear hK K
              refine rdy [14] ?_
              refine AllReadyH.cons rfl (fun K hK => ?_) ?_
              · go_simp
                have Dr32 : Hid (Ch (fun k => k = M ∨ some k = (Value.slice Bk n dk).ownBlock) W (vr29.alloc (.cells #[.slice SA n1 sc2, .slice A1 n2 d1, .slice A2 n3 d2] 59))) := HH (Dr29.out.alloc _)
                have BWr32 : Hid (Below W.heap.size W (vr29.alloc (.cells #[.slice SA n1 sc2, .slice A1 n2 d1, .slice A2 n3 d2] 59))) := HH (BWr29.out.alloc BWr29.out.size _)
                have FO0x32 := HH (FO0x29.out.later (one_box vr29 (.cells #[.slice SA n1 sc2, .slice A1 n2 d1, .slice A2 n3 d2] 59)))
                have F1x32 := HH (F1x29.out.later (one_box vr29 (.cells #[.slice SA n1 sc2, .slice A1 n2 d1, .slice A2 n3 d2] 59)))
                have F2x32 := HH (F2x29.out.later (one_box vr29 (.cells #[.slice SA n1 sc2, .slice A1 n2 d1, .slice A2 n3 d2] 59)))
                have HLI : Hid (Rd (vr29.alloc (.cells #[.slice SA n1 sc2, .slice A1 n2 d1, .slice A2 n3 d2] 59)) (· < (vr29.alloc (.cells #[.slice SA n1 sc2, .slice A1 n2 d1, .slice A2 n3 d2] 59)).heap.size) (some ⟨vr29.heap.size, 0, none⟩) [.slice SA n1 sc2, .slice A1 n2 d1, .slice A2 n3 d2]) := HH (Sh.lit_rd _ _ _ _ rfl)
                generalize vr29.alloc (.cells #[.slice SA n1 sc2, .slice A1 n2 d1, .slice A2 n3 d2] 59) = vr32 at *
                refine hK.out _ _ Dr32 (fun hHeld => ?_)
                clear hK K
                refine rdy [15] ?_
                refine AllReadyH.cons rfl (fun K hK => ?_) ?_
                · refine step_append_g (by rfl) (.tmp 37) (.tmp 46) 33 (by rfl) B 59 _ 3 72 Tryz.underlying33 info_RouteO rfl (by omega) (by omega) (.slice Bk n dk) n cr (by rfl) (HH (own_after OV.out BWr32.out)) _ _ 1 1 _ (by rfl) (HH rfl) HLI (by simp [Value.oneCell']) (by omega) (Nat.le_trans hBW BWr32.out.size) ?_
                  intro v' w6 hown hgrow hob
                  obtain ⟨A', c', rfl, -, -⟩ := own_form hown.out
                  have hg2 := hgrow.out
                  have hg3 := hown.out
                  have hg4 := hob.out
                  have hg5 := own_after OV.out BWr32.out
                  rw [HN.out] at hg2 hg3 hg4 hg5
                  have HS6 := HH (HMW.out.six BWr32.out (v := .slice Bk wd.routes.length dk) (by simp) hg2)
                  have hwv := keep_trans HWB.out BWr32.out
                  have hnew : Rtos vr32 (fun b => w.heap.size ≤ b ∧ b < vr32.heap.size) [nRoute x.stops q] [.slice SA n1 sc2, .slice A1 n2 d1, .slice A2 n3 d2] := ⟨SA, sc2, A1, d1, A2, d2, [], by simp only [nRoute, List.length_map, HN1.out, HN2.out, HN3.out], FO0x32.out, F1x32.out, F2x32.out, rfl⟩
                  have HF := HH (H.out.add4 (q := nRoute x.stops q) hwv cr hg5 ((HCR.out.keep fun b hk => hwv.block b hk.2.1).more fun b hk => hk.on hwv.size fun _ h => .inl h) _ hg3 hnew hg2 hg4)
                  rw [← HN.out] at HF
                  have D6 : Hid (Ch (fun k => k = M ∨ some k = (Value.slice Bk n dk).ownBlock) W w6) := HH (Dr32.out.trans' (Ch.of_grown (X := fun k => k = M ∨ some k = (Value.slice Bk n dk).ownBlock) hgrow.out fun k e => .inr e) (fun _ _ h => h))
                  have k6 : w6.cell? ⟨M, 18, none⟩ = some (.slice Bk n dk) := by rw [HN.out]; exact row_of4 HS6.out.1 HMW.out.hnv
                  have f6 : w6.frozen? ⟨M, 18, none⟩ = false := HS6.out.1.frozen 18
                  clear hg2 hg3 hg4 hg5 hnew
                  refine hK.out _ _ D6 (fun hHeld => ?_)
                  clear hK K
                  refine tak 16 ?vur34 rfl ?hyur34 ?restur34
                  case hyur34 => (intro w' hSw; clear hSw; go_simp; try with_reducible rfl)
                  simp only [ptk]
                  refine tak 17 ?vur35 rfl ?hyur35 ?restur35
                  case hyur35 => (intro w' hSw; clear hSw; go_simp; try with_reducible rfl)
                  simp only [ptk]
                  refine tak 18 ?vur36 rfl ?hyur36 ?restur36
                  case hyur36 => (intro w' hSw; clear hSw; go_simp; try with_reducible rfl)
                  simp only [ptk]
                  refine rdy [19] ?_
                  refine AllReadyH.cons rfl (fun K hK => ?_) AllReadyH.nil
                  go_simp
                  have D7 : Hid (Ch (fun k => k = M ∨ some k = (Value.slice Bk n dk).ownBlock) W (w6.setCell ⟨M, 18, none⟩ (.slice A' (n + 1) c'))) := HH (D6.out.setCell (p := ⟨M, 18, none⟩) (.inl (.inl rfl)) _)
                  refine hK.out _ _ D7 (fun hHeld => ?_)
                  refine wpAnyH_done (by kernel_rfl) ?_ _
                  go_wp2
                  go_ret
                  exact ⟨rfl, HH ⟨_, _, _, _, _, HF.out.1⟩, HH ⟨HF.out.2, fun h => absurd rfl h⟩⟩
                exact AllReadyH.nil
              exact AllReadyH.nil
            refine AllReadyH.cons rfl (fun K hK => ?_) ?_
            · go_simp
              have Dr37 : Hid (Ch (fun k => k = M ∨ some k = (Value.slice Bk n dk).ownBlock) W (vr29.alloc (.cells #[.slice SA n1 sc2, .slice A1 n2 d1, .slice A2 n3 d2] 59))) := HH (Dr29.out.alloc _)
              have BWr37 : Hid (Below W.heap.size W (vr29.alloc (.cells #[.slice SA n1 sc2, .slice A1 n2 d1, .slice A2 n3 d2] 59))) := HH (BWr29.out.alloc BWr29.out.size _)
              have FO0x37 := HH (FO0x29.out.later (one_box vr29 (.cells #[.slice SA n1 sc2, .slice A1 n2 d1, .slice A2 n3 d2] 59)))
              have F1x37 := HH (F1x29.out.later (one_box vr29 (.cells #[.slice SA n1 sc2, .slice A1 n2 d1, .slice A2 n3 d2] 59)))
              have F2x37 := HH (F2x29.out.later (one_box vr29 (.cells #[.slice SA n1 sc2, .slice A1 n2 d1, .slice A2 n3 d2] 59)))
              have HLI : Hid (Rd (vr29.alloc (.cells #[.slice SA n1 sc2, .slice A1 n2 d1, .slice A2 n3 d2] 59)) (· < (vr29.alloc (.cells #[.slice SA n1 sc2, .slice A1 n2 d1, .slice A2 n3 d2] 59)).heap.size) (some ⟨vr29.heap.size, 0, none⟩) [.slice SA n1 sc2, .slice A1 n2 d1, .slice A2 n3 d2]) := HH (Sh.lit_rd _ _ _ _ rfl)
              generalize vr29.alloc (.cells #[.slice SA n1 sc2, .slice A1 n2 d1, .slice A2 n3 d2] 59) = vr37 at *
              refine hK.out _ _ Dr37 (fun hHeld => ?_)
              clear hK K
              refine rdy [5] ?_
              refine AllReadyH.cons rfl (fun K hK => ?_) ?_
              · have q4 : vr37.cell? ⟨M, 18, none⟩ = some (.slice Bk n dk) := (cell_keep (p := ⟨M, 18, none⟩) BWr37.out (by have := HMW.out.lt; exact this)).trans K1R.out
                go_simp
                clear q4
                refine hK.out _ _ Dr37 (fun hHeld => ?_)
                clear hK K
                refine rdy [15] ?_
                refine AllReadyH.cons rfl (fun K hK => ?_) ?_
                · refine step_append_g (by rfl) (.tmp 37) (.tmp 46) 33 (by rfl) B 59 _ 3 72 Tryz.underlying33 info_RouteO rfl (by omega) (by omega) (.slice Bk n dk) n cr (by rfl) (HH (own_after OV.out BWr37.out)) _ _ 1 1 _ (by rfl) (HH rfl) HLI (by simp [Value.oneCell']) (by omega) (Nat.le_trans hBW BWr37.out.size) ?_
                  intro v' w6 hown hgrow hob
                  obtain ⟨A', c', rfl, -, -⟩ := own_form hown.out
                  have hg2 := hgrow.out
                  have hg3 := hown.out
                  have hg4 := hob.out
                  have hg5 := own_after OV.out BWr37.out
                  rw [HN.out] at hg2 hg3 hg4 hg5
                  have HS6 := HH (HMW.out.six BWr37.out (v := .slice Bk wd.routes.length dk) (by simp) hg2)
                  have hwv := keep_trans HWB.out BWr37.out
                  have hnew : Rtos vr37 (fun b => w.heap.size ≤ b ∧ b < vr37.heap.size) [nRoute x.stops q] [.slice SA n1 sc2, .slice A1 n2 d1, .slice A2 n3 d2] := ⟨SA, sc2, A1, d1, A2, d2, [], by simp only [nRoute, List.length_map, HN1.out, HN2.out, HN3.out], FO0x37.out, F1x37.out, F2x37.out, rfl⟩
                  have HF := HH (H.out.add4 (q := nRoute x.stops q) hwv cr hg5 ((HCR.out.keep fun b hk => hwv.block b hk.2.1).more fun b hk => hk.on hwv.size fun _ h => .inl h) _ hg3 hnew hg2 hg4)
                  rw [← HN.out] at HF
                  have D6 : Hid (Ch (fun k => k = M ∨ some k = (Value.slice Bk n dk).ownBlock) W w6) := HH (Dr37.out.trans' (Ch.of_grown (X := fun k => k = M ∨ some k = (Value.slice Bk n dk).ownBlock) hgrow.out fun k e => .inr e) (fun _ _ h => h))
                  have k6 : w6.cell? ⟨M, 18, none⟩ = some (.slice Bk n dk) := by rw [HN.out]; exact row_of4 HS6.out.1 HMW.out.hnv
                  have f6 : w6.frozen? ⟨M, 18, none⟩ = false := HS6.out.1.frozen 18
                  clear hg2 hg3 hg4 hg5 hnew
                  refine hK.out _ _ D6 (fun hHeld => ?_)
                  clear hK K
                  refine tak 16 ?vur40 rfl ?hyur40 ?restur40
                  case hyur40 => (intro w' hSw; clear hSw; go_simp; try with_reducible rfl)
                  simp only [ptk]
                  refine tak 17 ?vur41 rfl ?hyur41 ?restur41
                  case hyur41 => (intro w' hSw; clear hSw; go_simp; try with_reducible rfl)
                  simp only [ptk]
                  refine tak 18 ?vur42 rfl ?hyur42 ?restur42
                  case hyur42 => (intro w' hSw; clear hSw; go_simp; try with_reducible rfl)
                  simp only [ptk]
                  refine rdy [19] ?_
                  refine AllReadyH.cons rfl (fun K hK => ?_) AllReadyH.nil
                  go_simp
                  have D7 : Hid (Ch (fun k => k = M ∨ some k = (Value.slice Bk n dk).ownBlock) W (w6.setCell ⟨M, 18, none⟩ (.slice A' (n + 1) c'))) := HH (D6.out.setCell (p := ⟨M, 18, none⟩) (.inl (.inl rfl)) _)
                  refine hK.out _ _ D7 (fun hHeld => ?_)
                  refine wpAnyH_done (by kernel_rfl) ?_ _
                  go_wp2
                  go_ret
                  exact ⟨rfl, HH ⟨_, _, _, _, _, HF.out.1⟩, HH ⟨HF.out.2, fun h => absurd rfl h⟩⟩
                exact AllReadyH.nil
              exact AllReadyH.nil
            exact AllReadyH.nil
          exact AllReadyH.nil
        exact AllReadyH.nil
  · have HNO : Hid (∃ s ∈ q.stops, s ∉ x.stops) := HH (by
      rcases Classical.em (∃ s ∈ q.stops, s ∉ x.stops) with h | h
      · exact h
      · exact absurd (fun s hs => Classical.byContradiction fun hn => h ⟨s, hs, hn⟩) hin)
    have HST : Hid (∀ w1, Below w.heap.size w w1 → Calls Tryz.prog 183 #[.pointer (some ⟨M, 0, none⟩), .slice sa n1 sc] w1 (StNo w1)) := HH (fun w1 hb => (HS.out w1 hb).mono fun e w' he => by
      rcases he with he | he
      · obtain ⟨s, hs, hn⟩ := HNO.out
        exact absurd (he.1 s hs) hn
      · exact he.2)
    rw [route_no HNO.out]
    simp only [show ((5 : Int) = 0) = False by simp, if_false]
    clear HS hin
    go_enter Tryz.func156, Tryz.ntmps156
    go_wp2_with (go_at_call 183; refine (HST.out _ (one_box _ _)).mono ?_; rintro e w2 ⟨rfl, hb⟩; have HB2 := HH (keep_trans (one_box _ _) hb); clear hb)
    go_ret
    exact ⟨rfl, HH ⟨v2, v3, v4, v5, v6, H.out.after HB2.out⟩, HH ⟨Ch.of_below HB2.out, fun _ => HB2.out⟩⟩
end Go.Proofs.YtfefnfifeaihhaaGreat.Wo
