/- Package world's hazard; proved by walking its text. Conditions: the maker lies as Ms says. -/
import Derived.Test.YtfefnfifeaihhaaGreatWoTrip
set_option linter.unusedVariables false
set_option linter.unusedSimpArgs false
set_option maxHeartbeats 4000000
set_option maxRecDepth 100000
namespace Go.Proofs.YtfefnfifeaihhaaGreat.Wo
open Go.ChangeShapes Go.WideShapes Go.ChangeAt Go.RowKit Go.Maps
open Lx Sh It
theorem hazard_any {w : World} {B M T : Nat} {X : Nat → Prop} {x : SheetM} {p : ShA} {tA : Option Addr} {tn tc : Nat} {nv : List Value} {wd : WorldM} (h : MsE w B M T X x p tA tn tc nv wd) (hw : wd.hazards.length ≤ 400) (hx : x.hazards.length ≤ 400) (i : Nat) (q : HazM) (hq : x.hazards[i]? = some q) (la : q.at_.length ≤ maxLen) :
    Calls Tryz.prog 158 #[.pointer (some ⟨M, 0, none⟩), .int .i64 (i : Int)] w (MetPost w B M T X x p tA tn tc nv (hazE x.horizon (nHaz x.stops (namesX x).paths q)) (if hazE x.horizon (nHaz x.stops (namesX x).paths q) = 0 then { wd with hazards := wd.hazards ++ [nHaz x.stops (namesX x).paths q] } else wd)) := by
  obtain ⟨v2, v3, v4, v5, v6, h⟩ := h
  have H := HH h
  have hi : i < x.hazards.length := (List.getElem?_eq_some_iff.1 hq).1
  obtain ⟨ad, e2, ⟨hS1, hS2⟩, h0, hj⟩ := rd_at 5 (fun _ => rfl) (by omega) h.sh.r6 hq
  have c4 : w.cell? ⟨M, 8, none⟩ = some (.slice (some ad) x.hazards.length p.c6) := by rw [← e2]; exact h.cell 8 (by omega)
  have hM : M < w.heap.size := h.lt
  have hne : M ≠ w.heap.size := by omega
  have hi2 : (i : Int) < (x.hazards.length : Int) := by omega
  have hbk : (ad.add (i * 5)).block < w.heap.size := by rw [block_of_add]; have := h.hB; omega
  have hbk2 : (ad.add (i * 5)).block ≠ w.heap.size := by omega
  obtain ⟨np, hnp⟩ : ∃ n, n = x.hazards.length := ⟨_, rfl⟩
  rw [← hnp] at c4 hi2
  have hi3 : ¬ ((i : Int) < 0) := by omega
  have HNM := HH (fun w1 (hb : Below w.heap.size w w1) => named_any (h.after hb).mk_ q.at_ la)
  have HTH : Hid (((thingM (namesX x) q.at_).1 = 2 ↔ q.at_ ∉ x.stops ∧ q.at_ ∈ x.paths.map (·.name)) ∧ (q.at_ ∉ x.stops → q.at_ ∈ x.paths.map (·.name) → (thingM (namesX x) q.at_).2 = (x.paths.map (·.name)).idxOf q.at_)) := HH (thing_haz (namesX x) q.at_)
  have HT1 : Hid ((thingM (namesX x) q.at_).1 = 1 ↔ q.at_ ∈ x.stops) := HH (thing_stop (namesX x) q.at_)
  have HT0 : Hid (q.at_ ∈ x.stops → (thingM (namesX x) q.at_).2 = x.stops.idxOf q.at_) := HH (fun hh => by rw [thing_stop2 (n := namesX x) hh]; rfl)
  have HT := HH (fun w1 (hb : Below w.heap.size w w1) => Wo.times_any (h.after hb).mk_ q.times)
  have hnP : nHaz x.stops (namesX x).paths q = if pl x.stops q.at_ < 0 then ⟨false, pl (x.paths.map (·.name)) q.at_, q.times⟩ else ⟨true, pl x.stops q.at_, q.times⟩ := rfl
  rw [hazE, hnP]
  generalize thingM (namesX x) q.at_ = tt at *
  dsimp only [thV] at HNM
  obtain ⟨tE, htE⟩ : ∃ tE, tE = timeE x.horizon q.times := ⟨_, rfl⟩
  have HTE : Hid (timeE x.horizon q.times = tE) := HH htE.symm
  rw [← htE] at HT
  clear hnP la htE
  clear e2 hS1 hS2 hnp hi hx h hq
  obtain ⟨qn, qo, ⟨tf, te, tl⟩⟩ := q
  dsimp only at *
  have a0 : w.cell? (ad.add (i * 5)) = some (.string ⟨qn.toArray⟩) := h0
  have a1 : w.cell? ⟨(ad.add (i * 5)).block, (ad.add (i * 5)).off + 1, none⟩ = some (.string ⟨qo.toArray⟩) := (hj 1 (by omega)).resolve_right (by omega)
  have a2 : w.cell? ⟨(ad.add (i * 5)).block, (ad.add (i * 5)).off + 2, none⟩ = some (.int .i64 tf) := (hj 2 (by omega)).resolve_right (by omega)
  have a3 : w.cell? ⟨(ad.add (i * 5)).block, (ad.add (i * 5)).off + 3, none⟩ = some (.int .i64 te) := (hj 3 (by omega)).resolve_right (by omega)
  have a4 : w.cell? ⟨(ad.add (i * 5)).block, (ad.add (i * 5)).off + 4, none⟩ = some (.int .i64 tl) := (hj 4 (by omega)).resolve_right (by omega)
  clear h0 hj
  have hz : (if (if pl x.stops qo < 0 then HazO.mk false (pl (x.paths.map (·.name)) qo) ⟨tf, te, tl⟩ else HazO.mk true (pl x.stops qo) ⟨tf, te, tl⟩).on_ < 0 then (5 : Int) else timeE x.horizon (if pl x.stops qo < 0 then HazO.mk false (pl (x.paths.map (·.name)) qo) ⟨tf, te, tl⟩ else HazO.mk true (pl x.stops qo) ⟨tf, te, tl⟩).times) = if qo ∈ x.stops then tE else if qo ∈ x.paths.map (·.name) then tE else 5 := by
    by_cases h1 : qo ∈ x.stops
    · have hn : ¬ pl x.stops qo < 0 := fun h => pl_neg.1 h h1
      simp only [if_neg hn, if_pos h1, HTE.out]
    · have hn := pl_neg.2 h1
      simp only [if_pos hn, if_neg h1]
      by_cases h2 : qo ∈ x.paths.map (·.name)
      · have hn2 : ¬ pl (x.paths.map (·.name)) qo < 0 := fun h => pl_neg.1 h h2
        simp only [if_neg hn2, if_pos h2, HTE.out]
      · simp only [if_pos (pl_neg.2 h2), if_neg h2]
  rw [hz]
  clear hz
  by_cases hin : qo ∈ x.stops
  · have hk1 : ((tt.1 : Nat) : Int) = 1 := by have := HT1.out.2 hin; omega
    have hj1 : ((tt.2 : Nat) : Int) = pl x.stops qo := by rw [HT0.out hin, pl_mem hin]
    have hpn : ¬ pl x.stops qo < 0 := fun h => pl_neg.1 h hin
    simp only [if_pos hin, if_neg hpn]
    rw [hk1, hj1] at HNM
    generalize pl x.stops qo = J at *
    clear hk1 hj1 hin hpn
    by_cases het : tE = 0
    · simp only [het, if_true] at HT ⊢
      clear het
      go_enter Tryz.func158, Tryz.ntmps158
      go_wp2_with (first
        | (go_at_call 187; refine (HNM.out _ (one_box _ _)).mono ?_; rintro e w2 ⟨rfl, hb⟩; have HB2 := HH (keep_trans (one_box _ _) hb); have HBX := HH ((Blk.new w 125 [.string ⟨qn.toArray⟩, .string ⟨qo.toArray⟩, .int .i64 tf, .int .i64 te, .int .i64 tl]).after hb); have b2 : w2.cell? ⟨w.heap.size, 2, none⟩ = some (.int .i64 tf) := HBX.out.cell 2; have b3 : w2.cell? ⟨w.heap.size, 3, none⟩ = some (.int .i64 te) := HBX.out.cell 3; have b4 : w2.cell? ⟨w.heap.size, 4, none⟩ = some (.int .i64 tl) := HBX.out.cell 4; have hlt2 : w.heap.size < w2.heap.size := HBX.out.lt; have hne2 : w.heap.size ≠ w2.heap.size := (by omega); clear hb)
        | (go_at_call 182; refine (HT.out _ (HB2.out.alloc HB2.out.size _)).mono ?_; rintro e w3 ⟨rfl, hb⟩; have HWB : Hid (Below w.heap.size w w3) := HH (keep_trans (HB2.out.alloc HB2.out.size _) hb); have KX : Hid (Blk w3 w2.heap.size 212 [.int .i64 1, .int .i64 J]) := HH ((Blk.new w2 _ _).after hb); have KD := HH ((HBX.out.alloc (.cells #[.int .i64 1, .int .i64 J] 212)).after hb); clear hb))
      have HBM : Hid (w2.heap.size ≠ M) := HH (by have := HB2.out.size; omega)
      have HWM : Hid (w.heap.size ≠ M) := HH (by omega)
      generalize w2.heap.size = b at KX HBM ⊢
      generalize hW : w3 = W at *
      have HMW := HH (H.out.after HWB.out)
      clear c4 hM hne a0 a1 a2 a3 a4 hi2 hbk hbk2 hi3 HNM HT b2 b3 b4 hlt2 hne2 HBX HB2
      have HNB : Hid (¬ (b = M ∨ some b = v6.ownBlock)) := HH (fun h => h.elim HBM.out (fun e => own_ne_blk HMW.out.r6 KX.out (by decide) b e.symm rfl))
      have HNW : Hid (¬ (w.heap.size = M ∨ some w.heap.size = v6.ownBlock)) := HH (fun h => h.elim HWM.out (fun e => own_ne_blk HMW.out.r6 KD.out (by decide) _ e.symm rfl))
      obtain ⟨Bk, dk, hvk, hndk, hrdk⟩ := own_form HMW.out.r6
      subst hvk
      obtain ⟨n, hn⟩ : ∃ n, n = wd.hazards.length := ⟨_, rfl⟩
      have HN := HH hn
      rw [← hn] at HNB HNW
      have OV : Hid (W.ownsRow B 101 5 (.slice Bk n dk) n (cs hoC wd.hazards)) := HH (by rw [hn]; exact HMW.out.r6)
      have k1 : W.cell? ⟨M, 20, none⟩ = some (.slice Bk n dk) := by rw [hn]; exact HMW.out.row 4 (by omega)
      have K1R := HH k1
      have hn4 : n ≤ 400 := by omega
      have hBW := HMW.out.hB
      have HOB : Hid (∀ k, (Value.slice Bk n dk).ownBlock = some k → B ≤ k) := HH fun k hk => (OV.out.lt k hk).1
      have HMB : Hid (M < B) := HH HMW.out.hM
      clear hn hw hndk hrdk k1
      have KC : Hid (∀ w', Ch (fun k => k = M ∨ some k = (Value.slice Bk n dk).ownBlock) W w' → w'.cell? ⟨b, 0, none⟩ = some (.int .i64 1) ∧ w'.cell? ⟨b, 1, none⟩ = some (.int .i64 J) ∧ w'.cell? ⟨w.heap.size, 2, none⟩ = some (.int .i64 tf) ∧ w'.cell? ⟨w.heap.size, 3, none⟩ = some (.int .i64 te) ∧ w'.cell? ⟨w.heap.size, 4, none⟩ = some (.int .i64 tl)) := HH (fun w' hc => by
        have aKX := hc.blk KX.out (HNB.out)
        have aKD := hc.blk KD.out (HNW.out)
        exact ⟨aKX.cell 0, aKX.cell 1, aKD.cell 2, aKD.cell 3, aKD.cell 4⟩)
      refine wp_region_held_drew (S := fun w' => Hid (Ch (fun k => k = M ∨ some k = (Value.slice Bk n dk).ownBlock) W w')) (by kernel_rfl) ?_ (fun hHeld => ?_)
      · exact HH ((Ch.refl _ W).drew)
      refine tak 0 ?vuhz11 rfl ?hyuhz11 ?restuhz11
      case hyuhz11 => (intro w' hSw; obtain ⟨kc0, kc1, kc2, kc3, kc4⟩ := KC.out w' hSw.out; clear hSw; go_simp; try with_reducible rfl)
      simp only [ptk]
      refine tak 1 ?vuhz12 rfl ?hyuhz12 ?restuhz12
      case hyuhz12 => (intro w' hSw; obtain ⟨kc0, kc1, kc2, kc3, kc4⟩ := KC.out w' hSw.out; clear hSw; go_simp; try with_reducible rfl)
      simp only [ptk]
      refine tak 2 ?vuhz13 rfl ?hyuhz13 ?restuhz13
      case hyuhz13 => (intro w' hSw; obtain ⟨kc0, kc1, kc2, kc3, kc4⟩ := KC.out w' hSw.out; clear hSw; go_simp; try with_reducible rfl)
      simp only [ptk]
      refine tak 3 ?vuhz14 rfl ?hyuhz14 ?restuhz14
      case hyuhz14 => (intro w' hSw; obtain ⟨kc0, kc1, kc2, kc3, kc4⟩ := KC.out w' hSw.out; clear hSw; go_simp; try with_reducible rfl)
      simp only [ptk]
      refine tak 4 ?vuhz15 rfl ?hyuhz15 ?restuhz15
      case hyuhz15 => (intro w' hSw; obtain ⟨kc0, kc1, kc2, kc3, kc4⟩ := KC.out w' hSw.out; clear hSw; go_simp; try with_reducible rfl)
      simp only [ptk]
      refine tak 6 ?vuhz16 rfl ?hyuhz16 ?restuhz16
      case hyuhz16 => (intro w' hSw; obtain ⟨kc0, kc1, kc2, kc3, kc4⟩ := KC.out w' hSw.out; clear hSw; go_simp; try with_reducible rfl)
      simp only [ptk]
      refine tak 7 ?vuhz17 rfl ?hyuhz17 ?restuhz17
      case hyuhz17 => (intro w' hSw; obtain ⟨kc0, kc1, kc2, kc3, kc4⟩ := KC.out w' hSw.out; clear hSw; go_simp; try with_reducible rfl)
      simp only [ptk]
      refine tak 8 ?vuhz18 rfl ?hyuhz18 ?restuhz18
      case hyuhz18 => (intro w' hSw; obtain ⟨kc0, kc1, kc2, kc3, kc4⟩ := KC.out w' hSw.out; clear hSw; go_simp; try with_reducible rfl)
      simp only [ptk]
      refine tak 9 ?vuhz19 rfl ?hyuhz19 ?restuhz19
      case hyuhz19 => (intro w' hSw; obtain ⟨kc0, kc1, kc2, kc3, kc4⟩ := KC.out w' hSw.out; clear hSw; go_simp; try with_reducible rfl)
      simp only [ptk]
      refine tak 10 ?vuhz110 rfl ?hyuhz110 ?restuhz110
      case hyuhz110 => (intro w' hSw; obtain ⟨kc0, kc1, kc2, kc3, kc4⟩ := KC.out w' hSw.out; clear hSw; go_simp; try with_reducible rfl)
      simp only [ptk]
      refine tak 11 ?vuhz111 rfl ?hyuhz111 ?restuhz111
      case hyuhz111 => (intro w' hSw; obtain ⟨kc0, kc1, kc2, kc3, kc4⟩ := KC.out w' hSw.out; clear hSw; go_simp; try with_reducible rfl)
      simp only [ptk]
      refine tak 12 ?vuhz112 rfl ?hyuhz112 ?restuhz112
      case hyuhz112 => (intro w' hSw; obtain ⟨kc0, kc1, kc2, kc3, kc4⟩ := KC.out w' hSw.out; clear hSw; go_simp; try with_reducible rfl)
      simp only [ptk]
      refine tak 13 ?vuhz113 rfl ?hyuhz113 ?restuhz113
      case hyuhz113 => (intro w' hSw; obtain ⟨kc0, kc1, kc2, kc3, kc4⟩ := KC.out w' hSw.out; clear hSw; go_simp; try with_reducible rfl)
      simp only [ptk]
      have D0 := hHeld
      clear hHeld
      have HMV : Hid (Below W.heap.size W (World.drew W)) := HH (below_drew (Below.refl _ _))
      generalize World.drew W = v0 at *
      refine rdy [5, 14] ?_
      refine AllReadyH.cons rfl (fun K hK => ?_) ?_
      · have q4 : v0.cell? ⟨M, 20, none⟩ = some (.slice Bk n dk) := (cell_keep (p := ⟨M, 20, none⟩) HMV.out (by have := HMW.out.lt; exact this)).trans K1R.out
        go_simp
        clear q4
        refine hK.out _ _ D0 (fun hHeld => ?_)
        clear hK K
        refine rdy [14] ?_
        refine AllReadyH.cons rfl (fun K hK => ?_) ?_
        · go_simp
          have Dhazards14 : Hid (Ch (fun k => k = M ∨ some k = (Value.slice Bk n dk).ownBlock) W (v0.alloc (.cells #[.bool true, .int .i64 J, .int .i64 tf, .int .i64 te, .int .i64 tl] 101))) := HH (D0.out.alloc _)
          have BWhazards14 : Hid (Below W.heap.size W (v0.alloc (.cells #[.bool true, .int .i64 J, .int .i64 tf, .int .i64 te, .int .i64 tl] 101))) := HH (HMV.out.alloc HMV.out.size _)
          have HLI : Hid (Rd (v0.alloc (.cells #[.bool true, .int .i64 J, .int .i64 tf, .int .i64 te, .int .i64 tl] 101)) (· < (v0.alloc (.cells #[.bool true, .int .i64 J, .int .i64 tf, .int .i64 te, .int .i64 tl] 101)).heap.size) (some ⟨v0.heap.size, 0, none⟩) [.bool true, .int .i64 J, .int .i64 tf, .int .i64 te, .int .i64 tl]) := HH (Sh.lit_rd _ _ _ _ rfl)
          generalize v0.alloc (.cells #[.bool true, .int .i64 J, .int .i64 tf, .int .i64 te, .int .i64 tl] 101) = vhazards14 at *
          refine hK.out _ _ Dhazards14 (fun hHeld => ?_)
          clear hK K
          refine rdy [15] ?_
          refine AllReadyH.cons rfl (fun K hK => ?_) ?_
          · refine step_append_g (by rfl) (.tmp 40) (.tmp 49) 35 (by rfl) B 101 _ 5 40 Tryz.underlying35 info_HazO rfl (by omega) (by omega) (.slice Bk n dk) n (cs hoC wd.hazards) (by rfl) (HH (own_after OV.out BWhazards14.out)) _ _ 1 1 _ (by rfl) (HH rfl) HLI (by simp [Value.oneCell']) (by omega) (Nat.le_trans hBW BWhazards14.out.size) ?_
            intro v' w6 hown hgrow hob
            obtain ⟨A', c', rfl, -, -⟩ := own_form hown.out
            have hg2 := hgrow.out
            have hg3 := hown.out
            have hg4 := hob.out
            rw [HN.out] at hg2 hg3 hg4
            have HS6 := HH (HMW.out.six BWhazards14.out (v := .slice Bk wd.hazards.length dk) (by simp) hg2)
            have HF := HH (HMW.out.add6 (q := ⟨true, J, ⟨tf, te, tl⟩⟩) BWhazards14.out hg3 hg2 hg4)
            rw [← HN.out] at HF
            have D6 : Hid (Ch (fun k => k = M ∨ some k = (Value.slice Bk n dk).ownBlock) W w6) := HH (Dhazards14.out.trans' (Ch.of_grown (X := fun k => k = M ∨ some k = (Value.slice Bk n dk).ownBlock) hgrow.out fun k e => .inr e) (fun _ _ h => h))
            have k6 : w6.cell? ⟨M, 20, none⟩ = some (.slice Bk n dk) := by rw [HN.out]; exact row_of6 HS6.out.1 HMW.out.hnv
            have f6 : w6.frozen? ⟨M, 20, none⟩ = false := HS6.out.1.frozen 20
            clear hg2 hg3 hg4
            refine hK.out _ _ D6 (fun hHeld => ?_)
            clear hK K
            refine tak 16 ?vuhz115 rfl ?hyuhz115 ?restuhz115
            case hyuhz115 => (intro w' hSw; clear hSw; go_simp; try with_reducible rfl)
            simp only [ptk]
            refine tak 17 ?vuhz116 rfl ?hyuhz116 ?restuhz116
            case hyuhz116 => (intro w' hSw; clear hSw; go_simp; try with_reducible rfl)
            simp only [ptk]
            refine tak 18 ?vuhz117 rfl ?hyuhz117 ?restuhz117
            case hyuhz117 => (intro w' hSw; clear hSw; go_simp; try with_reducible rfl)
            simp only [ptk]
            refine rdy [19] ?_
            refine AllReadyH.cons rfl (fun K hK => ?_) AllReadyH.nil
            go_simp
            have D7 : Hid (Ch (fun k => k = M ∨ some k = (Value.slice Bk n dk).ownBlock) W (w6.setCell ⟨M, 20, none⟩ (.slice A' (n + 1) c'))) := HH (D6.out.setCell (p := ⟨M, 20, none⟩) (.inl (.inl rfl)) _)
            refine hK.out _ _ D7 (fun hHeld => ?_)
            refine wpAnyH_done (by kernel_rfl) ?_ _
            go_wp2
            go_ret
            exact ⟨rfl, HH ⟨_, _, _, _, _, HF.out.1⟩, HH ⟨(Ch.of_below HWB.out).trans' HF.out.2 (fun _ _ h => h), fun h => absurd rfl h⟩⟩
          exact AllReadyH.nil
        exact AllReadyH.nil
      refine AllReadyH.cons rfl (fun K hK => ?_) ?_
      · go_simp
        have Dhazards18 : Hid (Ch (fun k => k = M ∨ some k = (Value.slice Bk n dk).ownBlock) W (v0.alloc (.cells #[.bool true, .int .i64 J, .int .i64 tf, .int .i64 te, .int .i64 tl] 101))) := HH (D0.out.alloc _)
        have BWhazards18 : Hid (Below W.heap.size W (v0.alloc (.cells #[.bool true, .int .i64 J, .int .i64 tf, .int .i64 te, .int .i64 tl] 101))) := HH (HMV.out.alloc HMV.out.size _)
        have HLI : Hid (Rd (v0.alloc (.cells #[.bool true, .int .i64 J, .int .i64 tf, .int .i64 te, .int .i64 tl] 101)) (· < (v0.alloc (.cells #[.bool true, .int .i64 J, .int .i64 tf, .int .i64 te, .int .i64 tl] 101)).heap.size) (some ⟨v0.heap.size, 0, none⟩) [.bool true, .int .i64 J, .int .i64 tf, .int .i64 te, .int .i64 tl]) := HH (Sh.lit_rd _ _ _ _ rfl)
        generalize v0.alloc (.cells #[.bool true, .int .i64 J, .int .i64 tf, .int .i64 te, .int .i64 tl] 101) = vhazards18 at *
        refine hK.out _ _ Dhazards18 (fun hHeld => ?_)
        clear hK K
        refine rdy [5] ?_
        refine AllReadyH.cons rfl (fun K hK => ?_) ?_
        · have q4 : vhazards18.cell? ⟨M, 20, none⟩ = some (.slice Bk n dk) := (cell_keep (p := ⟨M, 20, none⟩) BWhazards18.out (by have := HMW.out.lt; exact this)).trans K1R.out
          go_simp
          clear q4
          refine hK.out _ _ Dhazards18 (fun hHeld => ?_)
          clear hK K
          refine rdy [15] ?_
          refine AllReadyH.cons rfl (fun K hK => ?_) ?_
          · refine step_append_g (by rfl) (.tmp 40) (.tmp 49) 35 (by rfl) B 101 _ 5 40 Tryz.underlying35 info_HazO rfl (by omega) (by omega) (.slice Bk n dk) n (cs hoC wd.hazards) (by rfl) (HH (own_after OV.out BWhazards18.out)) _ _ 1 1 _ (by rfl) (HH rfl) HLI (by simp [Value.oneCell']) (by omega) (Nat.le_trans hBW BWhazards18.out.size) ?_
            intro v' w6 hown hgrow hob
            obtain ⟨A', c', rfl, -, -⟩ := own_form hown.out
            have hg2 := hgrow.out
            have hg3 := hown.out
            have hg4 := hob.out
            rw [HN.out] at hg2 hg3 hg4
            have HS6 := HH (HMW.out.six BWhazards18.out (v := .slice Bk wd.hazards.length dk) (by simp) hg2)
            have HF := HH (HMW.out.add6 (q := ⟨true, J, ⟨tf, te, tl⟩⟩) BWhazards18.out hg3 hg2 hg4)
            rw [← HN.out] at HF
            have D6 : Hid (Ch (fun k => k = M ∨ some k = (Value.slice Bk n dk).ownBlock) W w6) := HH (Dhazards18.out.trans' (Ch.of_grown (X := fun k => k = M ∨ some k = (Value.slice Bk n dk).ownBlock) hgrow.out fun k e => .inr e) (fun _ _ h => h))
            have k6 : w6.cell? ⟨M, 20, none⟩ = some (.slice Bk n dk) := by rw [HN.out]; exact row_of6 HS6.out.1 HMW.out.hnv
            have f6 : w6.frozen? ⟨M, 20, none⟩ = false := HS6.out.1.frozen 20
            clear hg2 hg3 hg4
            refine hK.out _ _ D6 (fun hHeld => ?_)
            clear hK K
            refine tak 16 ?vuhz119 rfl ?hyuhz119 ?restuhz119
            case hyuhz119 => (intro w' hSw; clear hSw; go_simp; try with_reducible rfl)
            simp only [ptk]
            refine tak 17 ?vuhz120 rfl ?hyuhz120 ?restuhz120
            case hyuhz120 => (intro w' hSw; clear hSw; go_simp; try with_reducible rfl)
            simp only [ptk]
            refine tak 18 ?vuhz121 rfl ?hyuhz121 ?restuhz121
            case hyuhz121 => (intro w' hSw; clear hSw; go_simp; try with_reducible rfl)
            simp only [ptk]
            refine rdy [19] ?_
            refine AllReadyH.cons rfl (fun K hK => ?_) AllReadyH.nil
            go_simp
            have D7 : Hid (Ch (fun k => k = M ∨ some k = (Value.slice Bk n dk).ownBlock) W (w6.setCell ⟨M, 20, none⟩ (.slice A' (n + 1) c'))) := HH (D6.out.setCell (p := ⟨M, 20, none⟩) (.inl (.inl rfl)) _)
            refine hK.out _ _ D7 (fun hHeld => ?_)
            refine wpAnyH_done (by kernel_rfl) ?_ _
            go_wp2
            go_ret
            exact ⟨rfl, HH ⟨_, _, _, _, _, HF.out.1⟩, HH ⟨(Ch.of_below HWB.out).trans' HF.out.2 (fun _ _ h => h), fun h => absurd rfl h⟩⟩
          exact AllReadyH.nil
        exact AllReadyH.nil
      exact AllReadyH.nil
    · simp only [het, if_false] at HT ⊢
      have het2 : (tE == 0) = false := by simpa using het
      go_enter Tryz.func158, Tryz.ntmps158
      go_wp2_with (first
        | (go_at_call 187; refine (HNM.out _ (one_box _ _)).mono ?_; rintro e w2 ⟨rfl, hb⟩; have HB2 := HH (keep_trans (one_box _ _) hb); have HBX := HH ((Blk.new w 125 [.string ⟨qn.toArray⟩, .string ⟨qo.toArray⟩, .int .i64 tf, .int .i64 te, .int .i64 tl]).after hb); have b2 : w2.cell? ⟨w.heap.size, 2, none⟩ = some (.int .i64 tf) := HBX.out.cell 2; have b3 : w2.cell? ⟨w.heap.size, 3, none⟩ = some (.int .i64 te) := HBX.out.cell 3; have b4 : w2.cell? ⟨w.heap.size, 4, none⟩ = some (.int .i64 tl) := HBX.out.cell 4; have hlt2 : w.heap.size < w2.heap.size := HBX.out.lt; have hne2 : w.heap.size ≠ w2.heap.size := (by omega); clear hb)
        | (go_at_call 182; refine (HT.out _ (HB2.out.alloc HB2.out.size _)).mono ?_; rintro e w3 ⟨rfl, hb⟩; have HWB : Hid (Below w.heap.size w w3) := HH (keep_trans (HB2.out.alloc HB2.out.size _) hb); clear hb))
      go_ret
      exact ⟨rfl, HH ⟨v2, v3, v4, v5, v6, H.out.after HWB.out⟩, HH ⟨Ch.of_below HWB.out, fun _ => HWB.out⟩⟩
  · by_cases hip : qo ∈ x.paths.map (·.name)
    · have hk2 : ((tt.1 : Nat) : Int) = 2 := by have := HTH.out.1.2 ⟨hin, hip⟩; omega
      have hj2 : ((tt.2 : Nat) : Int) = pl (x.paths.map (·.name)) qo := by rw [HTH.out.2 hin hip, pl_mem hip]
      have hpn := pl_neg.2 hin
      simp only [if_neg hin, if_pos hip, if_pos hpn]
      rw [hk2, hj2] at HNM
      generalize pl (x.paths.map (·.name)) qo = J at *
      clear hk2 hj2 hin hip hpn
      by_cases het : tE = 0
      · simp only [het, if_true] at HT ⊢
        clear het
        go_enter Tryz.func158, Tryz.ntmps158
        go_wp2_with (first
          | (go_at_call 187; refine (HNM.out _ (one_box _ _)).mono ?_; rintro e w2 ⟨rfl, hb⟩; have HB2 := HH (keep_trans (one_box _ _) hb); have HBX := HH ((Blk.new w 125 [.string ⟨qn.toArray⟩, .string ⟨qo.toArray⟩, .int .i64 tf, .int .i64 te, .int .i64 tl]).after hb); have b2 : w2.cell? ⟨w.heap.size, 2, none⟩ = some (.int .i64 tf) := HBX.out.cell 2; have b3 : w2.cell? ⟨w.heap.size, 3, none⟩ = some (.int .i64 te) := HBX.out.cell 3; have b4 : w2.cell? ⟨w.heap.size, 4, none⟩ = some (.int .i64 tl) := HBX.out.cell 4; have hlt2 : w.heap.size < w2.heap.size := HBX.out.lt; have hne2 : w.heap.size ≠ w2.heap.size := (by omega); clear hb)
          | (go_at_call 182; refine (HT.out _ (HB2.out.alloc HB2.out.size _)).mono ?_; rintro e w3 ⟨rfl, hb⟩; have HWB : Hid (Below w.heap.size w w3) := HH (keep_trans (HB2.out.alloc HB2.out.size _) hb); have KX : Hid (Blk w3 w2.heap.size 212 [.int .i64 2, .int .i64 J]) := HH ((Blk.new w2 _ _).after hb); have KD := HH ((HBX.out.alloc (.cells #[.int .i64 2, .int .i64 J] 212)).after hb); clear hb))
        have HBM : Hid (w2.heap.size ≠ M) := HH (by have := HB2.out.size; omega)
        have HWM : Hid (w.heap.size ≠ M) := HH (by omega)
        generalize w2.heap.size = b at KX HBM ⊢
        generalize hW : w3 = W at *
        have HMW := HH (H.out.after HWB.out)
        clear c4 hM hne a0 a1 a2 a3 a4 hi2 hbk hbk2 hi3 HNM HT b2 b3 b4 hlt2 hne2 HBX HB2
        have HNB : Hid (¬ (b = M ∨ some b = v6.ownBlock)) := HH (fun h => h.elim HBM.out (fun e => own_ne_blk HMW.out.r6 KX.out (by decide) b e.symm rfl))
        have HNW : Hid (¬ (w.heap.size = M ∨ some w.heap.size = v6.ownBlock)) := HH (fun h => h.elim HWM.out (fun e => own_ne_blk HMW.out.r6 KD.out (by decide) _ e.symm rfl))
        obtain ⟨Bk, dk, hvk, hndk, hrdk⟩ := own_form HMW.out.r6
        subst hvk
        obtain ⟨n, hn⟩ : ∃ n, n = wd.hazards.length := ⟨_, rfl⟩
        have HN := HH hn
        rw [← hn] at HNB HNW
        have OV : Hid (W.ownsRow B 101 5 (.slice Bk n dk) n (cs hoC wd.hazards)) := HH (by rw [hn]; exact HMW.out.r6)
        have k1 : W.cell? ⟨M, 20, none⟩ = some (.slice Bk n dk) := by rw [hn]; exact HMW.out.row 4 (by omega)
        have K1R := HH k1
        have hn4 : n ≤ 400 := by omega
        have hBW := HMW.out.hB
        have HOB : Hid (∀ k, (Value.slice Bk n dk).ownBlock = some k → B ≤ k) := HH fun k hk => (OV.out.lt k hk).1
        have HMB : Hid (M < B) := HH HMW.out.hM
        clear hn hw hndk hrdk k1
        have KC : Hid (∀ w', Ch (fun k => k = M ∨ some k = (Value.slice Bk n dk).ownBlock) W w' → w'.cell? ⟨b, 0, none⟩ = some (.int .i64 2) ∧ w'.cell? ⟨b, 1, none⟩ = some (.int .i64 J) ∧ w'.cell? ⟨w.heap.size, 2, none⟩ = some (.int .i64 tf) ∧ w'.cell? ⟨w.heap.size, 3, none⟩ = some (.int .i64 te) ∧ w'.cell? ⟨w.heap.size, 4, none⟩ = some (.int .i64 tl)) := HH (fun w' hc => by
          have aKX := hc.blk KX.out (HNB.out)
          have aKD := hc.blk KD.out (HNW.out)
          exact ⟨aKX.cell 0, aKX.cell 1, aKD.cell 2, aKD.cell 3, aKD.cell 4⟩)
        refine wp_region_held_drew (S := fun w' => Hid (Ch (fun k => k = M ∨ some k = (Value.slice Bk n dk).ownBlock) W w')) (by kernel_rfl) ?_ (fun hHeld => ?_)
        · exact HH ((Ch.refl _ W).drew)
        refine tak 0 ?vuhz21 rfl ?hyuhz21 ?restuhz21
        case hyuhz21 => (intro w' hSw; obtain ⟨kc0, kc1, kc2, kc3, kc4⟩ := KC.out w' hSw.out; clear hSw; go_simp; try with_reducible rfl)
        simp only [ptk]
        refine tak 1 ?vuhz22 rfl ?hyuhz22 ?restuhz22
        case hyuhz22 => (intro w' hSw; obtain ⟨kc0, kc1, kc2, kc3, kc4⟩ := KC.out w' hSw.out; clear hSw; go_simp; try with_reducible rfl)
        simp only [ptk]
        refine tak 2 ?vuhz23 rfl ?hyuhz23 ?restuhz23
        case hyuhz23 => (intro w' hSw; obtain ⟨kc0, kc1, kc2, kc3, kc4⟩ := KC.out w' hSw.out; clear hSw; go_simp; try with_reducible rfl)
        simp only [ptk]
        refine tak 3 ?vuhz24 rfl ?hyuhz24 ?restuhz24
        case hyuhz24 => (intro w' hSw; obtain ⟨kc0, kc1, kc2, kc3, kc4⟩ := KC.out w' hSw.out; clear hSw; go_simp; try with_reducible rfl)
        simp only [ptk]
        refine tak 4 ?vuhz25 rfl ?hyuhz25 ?restuhz25
        case hyuhz25 => (intro w' hSw; obtain ⟨kc0, kc1, kc2, kc3, kc4⟩ := KC.out w' hSw.out; clear hSw; go_simp; try with_reducible rfl)
        simp only [ptk]
        refine tak 6 ?vuhz26 rfl ?hyuhz26 ?restuhz26
        case hyuhz26 => (intro w' hSw; obtain ⟨kc0, kc1, kc2, kc3, kc4⟩ := KC.out w' hSw.out; clear hSw; go_simp; try with_reducible rfl)
        simp only [ptk]
        refine tak 7 ?vuhz27 rfl ?hyuhz27 ?restuhz27
        case hyuhz27 => (intro w' hSw; obtain ⟨kc0, kc1, kc2, kc3, kc4⟩ := KC.out w' hSw.out; clear hSw; go_simp; try with_reducible rfl)
        simp only [ptk]
        refine tak 8 ?vuhz28 rfl ?hyuhz28 ?restuhz28
        case hyuhz28 => (intro w' hSw; obtain ⟨kc0, kc1, kc2, kc3, kc4⟩ := KC.out w' hSw.out; clear hSw; go_simp; try with_reducible rfl)
        simp only [ptk]
        refine tak 9 ?vuhz29 rfl ?hyuhz29 ?restuhz29
        case hyuhz29 => (intro w' hSw; obtain ⟨kc0, kc1, kc2, kc3, kc4⟩ := KC.out w' hSw.out; clear hSw; go_simp; try with_reducible rfl)
        simp only [ptk]
        refine tak 10 ?vuhz210 rfl ?hyuhz210 ?restuhz210
        case hyuhz210 => (intro w' hSw; obtain ⟨kc0, kc1, kc2, kc3, kc4⟩ := KC.out w' hSw.out; clear hSw; go_simp; try with_reducible rfl)
        simp only [ptk]
        refine tak 11 ?vuhz211 rfl ?hyuhz211 ?restuhz211
        case hyuhz211 => (intro w' hSw; obtain ⟨kc0, kc1, kc2, kc3, kc4⟩ := KC.out w' hSw.out; clear hSw; go_simp; try with_reducible rfl)
        simp only [ptk]
        refine tak 12 ?vuhz212 rfl ?hyuhz212 ?restuhz212
        case hyuhz212 => (intro w' hSw; obtain ⟨kc0, kc1, kc2, kc3, kc4⟩ := KC.out w' hSw.out; clear hSw; go_simp; try with_reducible rfl)
        simp only [ptk]
        refine tak 13 ?vuhz213 rfl ?hyuhz213 ?restuhz213
        case hyuhz213 => (intro w' hSw; obtain ⟨kc0, kc1, kc2, kc3, kc4⟩ := KC.out w' hSw.out; clear hSw; go_simp; try with_reducible rfl)
        simp only [ptk]
        have D0 := hHeld
        clear hHeld
        have HMV : Hid (Below W.heap.size W (World.drew W)) := HH (below_drew (Below.refl _ _))
        generalize World.drew W = v0 at *
        refine rdy [5, 14] ?_
        refine AllReadyH.cons rfl (fun K hK => ?_) ?_
        · have q4 : v0.cell? ⟨M, 20, none⟩ = some (.slice Bk n dk) := (cell_keep (p := ⟨M, 20, none⟩) HMV.out (by have := HMW.out.lt; exact this)).trans K1R.out
          go_simp
          clear q4
          refine hK.out _ _ D0 (fun hHeld => ?_)
          clear hK K
          refine rdy [14] ?_
          refine AllReadyH.cons rfl (fun K hK => ?_) ?_
          · go_simp
            have Dhazards14 : Hid (Ch (fun k => k = M ∨ some k = (Value.slice Bk n dk).ownBlock) W (v0.alloc (.cells #[.bool false, .int .i64 J, .int .i64 tf, .int .i64 te, .int .i64 tl] 101))) := HH (D0.out.alloc _)
            have BWhazards14 : Hid (Below W.heap.size W (v0.alloc (.cells #[.bool false, .int .i64 J, .int .i64 tf, .int .i64 te, .int .i64 tl] 101))) := HH (HMV.out.alloc HMV.out.size _)
            have HLI : Hid (Rd (v0.alloc (.cells #[.bool false, .int .i64 J, .int .i64 tf, .int .i64 te, .int .i64 tl] 101)) (· < (v0.alloc (.cells #[.bool false, .int .i64 J, .int .i64 tf, .int .i64 te, .int .i64 tl] 101)).heap.size) (some ⟨v0.heap.size, 0, none⟩) [.bool false, .int .i64 J, .int .i64 tf, .int .i64 te, .int .i64 tl]) := HH (Sh.lit_rd _ _ _ _ rfl)
            generalize v0.alloc (.cells #[.bool false, .int .i64 J, .int .i64 tf, .int .i64 te, .int .i64 tl] 101) = vhazards14 at *
            refine hK.out _ _ Dhazards14 (fun hHeld => ?_)
            clear hK K
            refine rdy [15] ?_
            refine AllReadyH.cons rfl (fun K hK => ?_) ?_
            · refine step_append_g (by rfl) (.tmp 40) (.tmp 49) 35 (by rfl) B 101 _ 5 40 Tryz.underlying35 info_HazO rfl (by omega) (by omega) (.slice Bk n dk) n (cs hoC wd.hazards) (by rfl) (HH (own_after OV.out BWhazards14.out)) _ _ 1 1 _ (by rfl) (HH rfl) HLI (by simp [Value.oneCell']) (by omega) (Nat.le_trans hBW BWhazards14.out.size) ?_
              intro v' w6 hown hgrow hob
              obtain ⟨A', c', rfl, -, -⟩ := own_form hown.out
              have hg2 := hgrow.out
              have hg3 := hown.out
              have hg4 := hob.out
              rw [HN.out] at hg2 hg3 hg4
              have HS6 := HH (HMW.out.six BWhazards14.out (v := .slice Bk wd.hazards.length dk) (by simp) hg2)
              have HF := HH (HMW.out.add6 (q := ⟨false, J, ⟨tf, te, tl⟩⟩) BWhazards14.out hg3 hg2 hg4)
              rw [← HN.out] at HF
              have D6 : Hid (Ch (fun k => k = M ∨ some k = (Value.slice Bk n dk).ownBlock) W w6) := HH (Dhazards14.out.trans' (Ch.of_grown (X := fun k => k = M ∨ some k = (Value.slice Bk n dk).ownBlock) hgrow.out fun k e => .inr e) (fun _ _ h => h))
              have k6 : w6.cell? ⟨M, 20, none⟩ = some (.slice Bk n dk) := by rw [HN.out]; exact row_of6 HS6.out.1 HMW.out.hnv
              have f6 : w6.frozen? ⟨M, 20, none⟩ = false := HS6.out.1.frozen 20
              clear hg2 hg3 hg4
              refine hK.out _ _ D6 (fun hHeld => ?_)
              clear hK K
              refine tak 16 ?vuhz215 rfl ?hyuhz215 ?restuhz215
              case hyuhz215 => (intro w' hSw; clear hSw; go_simp; try with_reducible rfl)
              simp only [ptk]
              refine tak 17 ?vuhz216 rfl ?hyuhz216 ?restuhz216
              case hyuhz216 => (intro w' hSw; clear hSw; go_simp; try with_reducible rfl)
              simp only [ptk]
              refine tak 18 ?vuhz217 rfl ?hyuhz217 ?restuhz217
              case hyuhz217 => (intro w' hSw; clear hSw; go_simp; try with_reducible rfl)
              simp only [ptk]
              refine rdy [19] ?_
              refine AllReadyH.cons rfl (fun K hK => ?_) AllReadyH.nil
              go_simp
              have D7 : Hid (Ch (fun k => k = M ∨ some k = (Value.slice Bk n dk).ownBlock) W (w6.setCell ⟨M, 20, none⟩ (.slice A' (n + 1) c'))) := HH (D6.out.setCell (p := ⟨M, 20, none⟩) (.inl (.inl rfl)) _)
              refine hK.out _ _ D7 (fun hHeld => ?_)
              refine wpAnyH_done (by kernel_rfl) ?_ _
              go_wp2
              go_ret
              exact ⟨rfl, HH ⟨_, _, _, _, _, HF.out.1⟩, HH ⟨(Ch.of_below HWB.out).trans' HF.out.2 (fun _ _ h => h), fun h => absurd rfl h⟩⟩
            exact AllReadyH.nil
          exact AllReadyH.nil
        refine AllReadyH.cons rfl (fun K hK => ?_) ?_
        · go_simp
          have Dhazards18 : Hid (Ch (fun k => k = M ∨ some k = (Value.slice Bk n dk).ownBlock) W (v0.alloc (.cells #[.bool false, .int .i64 J, .int .i64 tf, .int .i64 te, .int .i64 tl] 101))) := HH (D0.out.alloc _)
          have BWhazards18 : Hid (Below W.heap.size W (v0.alloc (.cells #[.bool false, .int .i64 J, .int .i64 tf, .int .i64 te, .int .i64 tl] 101))) := HH (HMV.out.alloc HMV.out.size _)
          have HLI : Hid (Rd (v0.alloc (.cells #[.bool false, .int .i64 J, .int .i64 tf, .int .i64 te, .int .i64 tl] 101)) (· < (v0.alloc (.cells #[.bool false, .int .i64 J, .int .i64 tf, .int .i64 te, .int .i64 tl] 101)).heap.size) (some ⟨v0.heap.size, 0, none⟩) [.bool false, .int .i64 J, .int .i64 tf, .int .i64 te, .int .i64 tl]) := HH (Sh.lit_rd _ _ _ _ rfl)
          generalize v0.alloc (.cells #[.bool false, .int .i64 J, .int .i64 tf, .int .i64 te, .int .i64 tl] 101) = vhazards18 at *
          refine hK.out _ _ Dhazards18 (fun hHeld => ?_)
          clear hK K
          refine rdy [5] ?_
          refine AllReadyH.cons rfl (fun K hK => ?_) ?_
          · have q4 : vhazards18.cell? ⟨M, 20, none⟩ = some (.slice Bk n dk) := (cell_keep (p := ⟨M, 20, none⟩) BWhazards18.out (by have := HMW.out.lt; exact this)).trans K1R.out
            go_simp
            clear q4
            refine hK.out _ _ Dhazards18 (fun hHeld => ?_)
            clear hK K
            refine rdy [15] ?_
            refine AllReadyH.cons rfl (fun K hK => ?_) ?_
            · refine step_append_g (by rfl) (.tmp 40) (.tmp 49) 35 (by rfl) B 101 _ 5 40 Tryz.underlying35 info_HazO rfl (by omega) (by omega) (.slice Bk n dk) n (cs hoC wd.hazards) (by rfl) (HH (own_after OV.out BWhazards18.out)) _ _ 1 1 _ (by rfl) (HH rfl) HLI (by simp [Value.oneCell']) (by omega) (Nat.le_trans hBW BWhazards18.out.size) ?_
              intro v' w6 hown hgrow hob
              obtain ⟨A', c', rfl, -, -⟩ := own_form hown.out
              have hg2 := hgrow.out
              have hg3 := hown.out
              have hg4 := hob.out
              rw [HN.out] at hg2 hg3 hg4
              have HS6 := HH (HMW.out.six BWhazards18.out (v := .slice Bk wd.hazards.length dk) (by simp) hg2)
              have HF := HH (HMW.out.add6 (q := ⟨false, J, ⟨tf, te, tl⟩⟩) BWhazards18.out hg3 hg2 hg4)
              rw [← HN.out] at HF
              have D6 : Hid (Ch (fun k => k = M ∨ some k = (Value.slice Bk n dk).ownBlock) W w6) := HH (Dhazards18.out.trans' (Ch.of_grown (X := fun k => k = M ∨ some k = (Value.slice Bk n dk).ownBlock) hgrow.out fun k e => .inr e) (fun _ _ h => h))
              have k6 : w6.cell? ⟨M, 20, none⟩ = some (.slice Bk n dk) := by rw [HN.out]; exact row_of6 HS6.out.1 HMW.out.hnv
              have f6 : w6.frozen? ⟨M, 20, none⟩ = false := HS6.out.1.frozen 20
              clear hg2 hg3 hg4
              refine hK.out _ _ D6 (fun hHeld => ?_)
              clear hK K
              refine tak 16 ?vuhz219 rfl ?hyuhz219 ?restuhz219
              case hyuhz219 => (intro w' hSw; clear hSw; go_simp; try with_reducible rfl)
              simp only [ptk]
              refine tak 17 ?vuhz220 rfl ?hyuhz220 ?restuhz220
              case hyuhz220 => (intro w' hSw; clear hSw; go_simp; try with_reducible rfl)
              simp only [ptk]
              refine tak 18 ?vuhz221 rfl ?hyuhz221 ?restuhz221
              case hyuhz221 => (intro w' hSw; clear hSw; go_simp; try with_reducible rfl)
              simp only [ptk]
              refine rdy [19] ?_
              refine AllReadyH.cons rfl (fun K hK => ?_) AllReadyH.nil
              go_simp
              have D7 : Hid (Ch (fun k => k = M ∨ some k = (Value.slice Bk n dk).ownBlock) W (w6.setCell ⟨M, 20, none⟩ (.slice A' (n + 1) c'))) := HH (D6.out.setCell (p := ⟨M, 20, none⟩) (.inl (.inl rfl)) _)
              refine hK.out _ _ D7 (fun hHeld => ?_)
              refine wpAnyH_done (by kernel_rfl) ?_ _
              go_wp2
              go_ret
              exact ⟨rfl, HH ⟨_, _, _, _, _, HF.out.1⟩, HH ⟨(Ch.of_below HWB.out).trans' HF.out.2 (fun _ _ h => h), fun h => absurd rfl h⟩⟩
            exact AllReadyH.nil
          exact AllReadyH.nil
        exact AllReadyH.nil
      · simp only [het, if_false] at HT ⊢
        have het2 : (tE == 0) = false := by simpa using het
        go_enter Tryz.func158, Tryz.ntmps158
        go_wp2_with (first
          | (go_at_call 187; refine (HNM.out _ (one_box _ _)).mono ?_; rintro e w2 ⟨rfl, hb⟩; have HB2 := HH (keep_trans (one_box _ _) hb); have HBX := HH ((Blk.new w 125 [.string ⟨qn.toArray⟩, .string ⟨qo.toArray⟩, .int .i64 tf, .int .i64 te, .int .i64 tl]).after hb); have b2 : w2.cell? ⟨w.heap.size, 2, none⟩ = some (.int .i64 tf) := HBX.out.cell 2; have b3 : w2.cell? ⟨w.heap.size, 3, none⟩ = some (.int .i64 te) := HBX.out.cell 3; have b4 : w2.cell? ⟨w.heap.size, 4, none⟩ = some (.int .i64 tl) := HBX.out.cell 4; have hlt2 : w.heap.size < w2.heap.size := HBX.out.lt; have hne2 : w.heap.size ≠ w2.heap.size := (by omega); clear hb)
          | (go_at_call 182; refine (HT.out _ (HB2.out.alloc HB2.out.size _)).mono ?_; rintro e w3 ⟨rfl, hb⟩; have HWB : Hid (Below w.heap.size w w3) := HH (keep_trans (HB2.out.alloc HB2.out.size _) hb); clear hb))
        go_ret
        exact ⟨rfl, HH ⟨v2, v3, v4, v5, v6, H.out.after HWB.out⟩, HH ⟨Ch.of_below HWB.out, fun _ => HWB.out⟩⟩
    · have hk1 : ¬ (((tt.1 : Nat) : Int) = 1) := by intro h; exact hin (HT1.out.1 (by omega))
      have hk2 : ¬ (((tt.1 : Nat) : Int) = 2) := by intro h; exact hip (HTH.out.1.1 (by omega)).2
      have hk3 : (((tt.1 : Nat) : Int) == 1) = false := by simpa using hk1
      have hk4 : (((tt.1 : Nat) : Int) == 2) = false := by simpa using hk2
      have hk5 : (((tt.1 : Nat) : Int) != 1) = true := by rw [bne, hk3]; rfl
      have hk6 : (((tt.1 : Nat) : Int) != 2) = true := by rw [bne, hk4]; rfl
      simp only [if_neg hin, if_neg hip, show ((5 : Int) = 0) = False by simp, if_false]
      generalize ((tt.1 : Nat) : Int) = K at *
      generalize ((tt.2 : Nat) : Int) = J at *
      go_enter Tryz.func158, Tryz.ntmps158
      go_wp2_with (go_at_call 187; refine (HNM.out _ (one_box _ _)).mono ?_; rintro e w2 ⟨rfl, hb⟩; have HB2 := HH (keep_trans (one_box _ _) hb); have HBX := HH ((Blk.new w 125 [.string ⟨qn.toArray⟩, .string ⟨qo.toArray⟩, .int .i64 tf, .int .i64 te, .int .i64 tl]).after hb); have b2 : w2.cell? ⟨w.heap.size, 2, none⟩ = some (.int .i64 tf) := HBX.out.cell 2; have b3 : w2.cell? ⟨w.heap.size, 3, none⟩ = some (.int .i64 te) := HBX.out.cell 3; have b4 : w2.cell? ⟨w.heap.size, 4, none⟩ = some (.int .i64 tl) := HBX.out.cell 4; have hlt2 : w.heap.size < w2.heap.size := HBX.out.lt; have hne2 : w.heap.size ≠ w2.heap.size := (by omega); clear hb)
      go_ret
      have hbf := (HB2.out.alloc HB2.out.size (.cells #[.int .i64 K, .int .i64 J] 212))
      exact ⟨rfl, HH ⟨v2, v3, v4, v5, v6, H.out.after hbf⟩, HH ⟨Ch.of_below hbf, fun _ => hbf⟩⟩
end Go.Proofs.YtfefnfifeaihhaaGreat.Wo
