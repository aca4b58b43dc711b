/- Package world's trip and hazard; proved by walking their texts. Conditions: the maker lies as Ms says; no name stands twice. -/
import Derived.Test.YtfefnfifeaihhaaGreatWoDoor
set_option linter.unusedVariables false
set_option linter.unusedSimpArgs false
set_option maxHeartbeats 4000000
set_option maxRecDepth 100000
namespace Go.Proofs.YtfefnfifeaihhaaGreat.Wo
open Go.ChangeShapes Go.WideShapes Go.ChangeAt Go.RowKit Go.Maps
open Lx Sh It
theorem thing_route {n : NamesM} (hd : n.flat.Nodup) (a : Nm) : ((thingM n a).1 = 4 ↔ a ∈ n.routes) ∧ (a ∈ n.routes → (thingM n a).2 = n.routes.idxOf a) := by
  unfold NamesM.flat at hd
  simp only [List.nodup_append, List.mem_append] at hd
  have key : a ∈ n.routes → a ∉ n.stops ∧ a ∉ n.paths ∧ a ∉ n.doors := fun h => ⟨fun h2 => hd.2.2 a h2 a (.inr (.inr (.inl h))) rfl, fun h2 => hd.2.1.2.2 a h2 a (.inr (.inl h)) rfl, fun h2 => hd.2.1.2.1.2.2 a h2 a (.inl h) rfl⟩
  unfold thingM
  by_cases h : a ∈ n.routes
  · obtain ⟨h1, h2, h3⟩ := key h
    simp [h, h1, h2, h3]
  · refine ⟨?_, fun h2 => absurd h2 h⟩
    simp only [h, if_false, iff_false]
    repeat' split
    all_goals simp
theorem thing_haz (n : NamesM) (a : Nm) : ((thingM n a).1 = 2 ↔ a ∉ n.stops ∧ a ∈ n.paths) ∧ (a ∉ n.stops → a ∈ n.paths → (thingM n a).2 = n.paths.idxOf a) := by
  unfold thingM
  by_cases h1 : a ∈ n.stops
  · simp [h1]
  by_cases h2 : a ∈ n.paths
  · simp [h1, h2]
  · refine ⟨?_, fun _ h => absurd h h2⟩
    simp only [h1, h2, if_false, and_false, iff_false]
    repeat' split
    all_goals simp
theorem Ms.nodup {w : World} {B M T : Nat} {X : Nat → Prop} {x : SheetM} {p : ShA} {tA : Option Addr} {tn tc : Nat} {nv : List Value} {wd : WorldM} {v2 v3 v4 v5 v6 : Value} (h : Ms w B M T X x p tA tn tc nv wd v2 v3 v4 v5 v6) : (namesX x).flat.Nodup := h.tab.good.1
theorem trip_any {w : World} {B M T : Nat} {X : Nat → Prop} {x : SheetM} {p : ShA} {tA : Option Addr} {tn tc : Nat} {nv : List Value} {wd : WorldM} (h : MsE w B M T X x p tA tn tc nv wd) (hw : wd.trips.length ≤ 400) (hx : x.trips.length ≤ 400) (i : Nat) (q : TripM) (hq : x.trips[i]? = some q) (la : q.route.length ≤ maxLen) :
    Calls Tryz.prog 157 #[.pointer (some ⟨M, 0, none⟩), .int .i64 (i : Int)] w (MetPost w B M T X x p tA tn tc nv (tripE (nTrip (namesX x).routes q)) (if tripE (nTrip (namesX x).routes q) = 0 then { wd with trips := wd.trips ++ [nTrip (namesX x).routes q] } else wd)) := by
  obtain ⟨v2, v3, v4, v5, v6, h⟩ := h
  have H := HH h
  have hi : i < x.trips.length := (List.getElem?_eq_some_iff.1 hq).1
  obtain ⟨ad, e2, ⟨hS1, hS2⟩, h0, hj⟩ := rd_at 5 (fun _ => rfl) (by omega) h.sh.r5 hq
  have c4 : w.cell? ⟨M, 7, none⟩ = some (.slice (some ad) x.trips.length p.c5) := by rw [← e2]; exact h.cell 7 (by omega)
  have hM : M < w.heap.size := h.lt
  have hne : M ≠ w.heap.size := by omega
  have hi2 : (i : Int) < (x.trips.length : Int) := by omega
  have hbk : (ad.add (i * 5)).block < w.heap.size := by rw [block_of_add]; have := h.hB; omega
  have hbk2 : (ad.add (i * 5)).block ≠ w.heap.size := by omega
  obtain ⟨np, hnp⟩ : ∃ n, n = x.trips.length := ⟨_, rfl⟩
  rw [← hnp] at c4 hi2
  have hi3 : ¬ ((i : Int) < 0) := by omega
  have HNM := HH (fun w1 (hb : Below w.heap.size w w1) => named_any (h.after hb).mk_ q.route la)
  have HTR := HH (thing_route h.nodup q.route)
  have hnP : nTrip (namesX x).routes q = ⟨pl (x.routes.map (·.name)) q.route, q.frm, q.every, q.til⟩ := rfl
  have hpE : tripE (nTrip (namesX x).routes q) = if pl (x.routes.map (·.name)) q.route < 0 then 5 else if q.til < q.frm then 2 else 0 := rfl
  have hnr : (namesX x).routes = x.routes.map (·.name) := rfl
  rw [hpE, hnP]
  rw [hnr] at HTR
  generalize thingM (namesX x) q.route = tt at *
  dsimp only [thV] at HNM
  clear hnP hpE la hnr
  clear e2 hS1 hS2 hnp hi hx h hq
  obtain ⟨qn, qr, qf, qe, qu⟩ := q
  dsimp only at *
  have a0 : w.cell? (ad.add (i * 5)) = some (.string ⟨qn.toArray⟩) := h0
  have a1 : w.cell? ⟨(ad.add (i * 5)).block, (ad.add (i * 5)).off + 1, none⟩ = some (.string ⟨qr.toArray⟩) := (hj 1 (by omega)).resolve_right (by omega)
  have a2 : w.cell? ⟨(ad.add (i * 5)).block, (ad.add (i * 5)).off + 2, none⟩ = some (.int .i64 qf) := (hj 2 (by omega)).resolve_right (by omega)
  have a3 : w.cell? ⟨(ad.add (i * 5)).block, (ad.add (i * 5)).off + 3, none⟩ = some (.int .i64 qe) := (hj 3 (by omega)).resolve_right (by omega)
  have a4 : w.cell? ⟨(ad.add (i * 5)).block, (ad.add (i * 5)).off + 4, none⟩ = some (.int .i64 qu) := (hj 4 (by omega)).resolve_right (by omega)
  clear h0 hj
  by_cases hin : qr ∈ x.routes.map (·.name)
  · have hk4 : ((tt.1 : Nat) : Int) = 4 := by have := HTR.out.1.2 hin; omega
    have hj4 : ((tt.2 : Nat) : Int) = pl (x.routes.map (·.name)) qr := by rw [HTR.out.2 hin, pl_mem hin]
    have hpn : ¬ pl (x.routes.map (·.name)) qr < 0 := fun h => pl_neg.1 h hin
    rw [if_neg hpn]
    rw [hk4, hj4] at HNM
    generalize pl (x.routes.map (·.name)) qr = J at *
    clear hk4 hj4 hin
    by_cases hu : qu < qf
    · rw [if_pos hu]
      simp only [show ((2 : Int) = 0) = False by simp, if_false]
      go_enter Tryz.func157, Tryz.ntmps157
      go_wp2_with (go_at_call 187; refine (HNM.out _ (one_box _ _)).mono ?_; rintro e w2 ⟨rfl, hb⟩; have HB2 := HH (keep_trans (one_box _ _) hb); have HBX := HH ((Blk.new w 123 [.string ⟨qn.toArray⟩, .string ⟨qr.toArray⟩, .int .i64 qf, .int .i64 qe, .int .i64 qu]).after hb); have b2 : w2.cell? ⟨w.heap.size, 2, none⟩ = some (.int .i64 qf) := HBX.out.cell 2; have b4 : w2.cell? ⟨w.heap.size, 4, none⟩ = some (.int .i64 qu) := HBX.out.cell 4; have hlt2 : w.heap.size < w2.heap.size := HBX.out.lt; have hne2 : w.heap.size ≠ w2.heap.size := (by omega); clear hb)
      go_ret
      have hbf := (HB2.out.alloc HB2.out.size (.cells #[.int .i64 4, .int .i64 J] 212))
      exact ⟨rfl, HH ⟨v2, v3, v4, v5, v6, H.out.after hbf⟩, HH ⟨Ch.of_below hbf, fun _ => hbf⟩⟩
    · rw [if_neg hu]
      simp only [if_true]
      go_enter Tryz.func157, Tryz.ntmps157
      go_wp2_with (go_at_call 187; refine (HNM.out _ (one_box _ _)).mono ?_; rintro e w2 ⟨rfl, hb⟩; have HB2 := HH (keep_trans (one_box _ _) hb); have HBX := HH ((Blk.new w 123 [.string ⟨qn.toArray⟩, .string ⟨qr.toArray⟩, .int .i64 qf, .int .i64 qe, .int .i64 qu]).after hb); have b2 : w2.cell? ⟨w.heap.size, 2, none⟩ = some (.int .i64 qf) := HBX.out.cell 2; have b4 : w2.cell? ⟨w.heap.size, 4, none⟩ = some (.int .i64 qu) := HBX.out.cell 4; have hlt2 : w.heap.size < w2.heap.size := HBX.out.lt; have hne2 : w.heap.size ≠ w2.heap.size := (by omega); clear hb)
      obtain ⟨W, hW⟩ : ∃ W, W = w2.alloc (.cells #[.int .i64 4, .int .i64 J] 212) := ⟨_, rfl⟩
      have HWB : Hid (Below w.heap.size w W) := HH (by rw [hW]; exact HB2.out.alloc HB2.out.size _)
      have KX : Hid (Blk W w2.heap.size 212 [.int .i64 4, .int .i64 J]) := HH (by rw [hW]; exact Blk.new w2 _ _)
      have KD : Hid (Blk W w.heap.size 123 [.string ⟨qn.toArray⟩, .string ⟨qr.toArray⟩, .int .i64 qf, .int .i64 qe, .int .i64 qu]) := HH (by rw [hW]; exact HBX.out.alloc _)
      rw [← hW]
      clear hW
      have HBM : Hid (w2.heap.size ≠ M) := HH (by have := HB2.out.size; omega)
      have HWM : Hid (w.heap.size ≠ M) := HH (by omega)
      generalize w2.heap.size = b at KX HBM ⊢
      have HMW := HH (H.out.after HWB.out)
      clear c4 hM hne a0 a1 a2 a3 a4 hi2 hbk hbk2 hi3 HNM b2 b4 hlt2 hne2 HBX HB2
      have HNB : Hid (¬ (b = M ∨ some b = v5.ownBlock)) := HH (fun h => h.elim HBM.out (fun e => own_ne_blk HMW.out.r5 KX.out (by decide) b e.symm rfl))
      have HNW : Hid (¬ (w.heap.size = M ∨ some w.heap.size = v5.ownBlock)) := HH (fun h => h.elim HWM.out (fun e => own_ne_blk HMW.out.r5 KD.out (by decide) _ e.symm rfl))
      obtain ⟨Bk, dk, hvk, hndk, hrdk⟩ := own_form HMW.out.r5
      subst hvk
      obtain ⟨n, hn⟩ : ∃ n, n = wd.trips.length := ⟨_, rfl⟩
      have HN := HH hn
      rw [← hn] at HNB HNW
      have OV : Hid (W.ownsRow B 56 4 (.slice Bk n dk) n (cs toC wd.trips)) := HH (by rw [hn]; exact HMW.out.r5)
      have k1 : W.cell? ⟨M, 19, none⟩ = some (.slice Bk n dk) := by rw [hn]; exact HMW.out.row 3 (by omega)
      have K1R := HH k1
      have hn4 : n ≤ 400 := by omega
      have hBW := HMW.out.hB
      have HOB : Hid (∀ k, (Value.slice Bk n dk).ownBlock = some k → B ≤ k) := HH fun k hk => (OV.out.lt k hk).1
      have HMB : Hid (M < B) := HH HMW.out.hM
      clear hn hw hndk hrdk k1
      have KC : Hid (∀ w', Ch (fun k => k = M ∨ some k = (Value.slice Bk n dk).ownBlock) W w' → w'.cell? ⟨b, 1, none⟩ = some (.int .i64 J) ∧ w'.cell? ⟨w.heap.size, 2, none⟩ = some (.int .i64 qf) ∧ w'.cell? ⟨w.heap.size, 3, none⟩ = some (.int .i64 qe) ∧ w'.cell? ⟨w.heap.size, 4, none⟩ = some (.int .i64 qu)) := HH (fun w' hc => by
        have aKX := hc.blk KX.out (HNB.out)
        have aKD := hc.blk KD.out (HNW.out)
        exact ⟨aKX.cell 1, aKD.cell 2, aKD.cell 3, aKD.cell 4⟩)
      refine wp_region_held_drew (S := fun w' => Hid (Ch (fun k => k = M ∨ some k = (Value.slice Bk n dk).ownBlock) W w')) (by kernel_rfl) ?_ (fun hHeld => ?_)
      · exact HH ((Ch.refl _ W).drew)
      refine tak 0 ?vutrips1 rfl ?hyutrips1 ?restutrips1
      case hyutrips1 => (intro w' hSw; obtain ⟨kc0, kc1, kc2, kc3⟩ := KC.out w' hSw.out; clear hSw; go_simp; try with_reducible rfl)
      simp only [ptk]
      refine tak 1 ?vutrips2 rfl ?hyutrips2 ?restutrips2
      case hyutrips2 => (intro w' hSw; obtain ⟨kc0, kc1, kc2, kc3⟩ := KC.out w' hSw.out; clear hSw; go_simp; try with_reducible rfl)
      simp only [ptk]
      refine tak 2 ?vutrips3 rfl ?hyutrips3 ?restutrips3
      case hyutrips3 => (intro w' hSw; obtain ⟨kc0, kc1, kc2, kc3⟩ := KC.out w' hSw.out; clear hSw; go_simp; try with_reducible rfl)
      simp only [ptk]
      refine tak 3 ?vutrips4 rfl ?hyutrips4 ?restutrips4
      case hyutrips4 => (intro w' hSw; obtain ⟨kc0, kc1, kc2, kc3⟩ := KC.out w' hSw.out; clear hSw; go_simp; try with_reducible rfl)
      simp only [ptk]
      refine tak 4 ?vutrips5 rfl ?hyutrips5 ?restutrips5
      case hyutrips5 => (intro w' hSw; obtain ⟨kc0, kc1, kc2, kc3⟩ := KC.out w' hSw.out; clear hSw; go_simp; try with_reducible rfl)
      simp only [ptk]
      refine tak 6 ?vutrips6 rfl ?hyutrips6 ?restutrips6
      case hyutrips6 => (intro w' hSw; obtain ⟨kc0, kc1, kc2, kc3⟩ := KC.out w' hSw.out; clear hSw; go_simp; try with_reducible rfl)
      simp only [ptk]
      refine tak 7 ?vutrips7 rfl ?hyutrips7 ?restutrips7
      case hyutrips7 => (intro w' hSw; obtain ⟨kc0, kc1, kc2, kc3⟩ := KC.out w' hSw.out; clear hSw; go_simp; try with_reducible rfl)
      simp only [ptk]
      refine tak 8 ?vutrips8 rfl ?hyutrips8 ?restutrips8
      case hyutrips8 => (intro w' hSw; obtain ⟨kc0, kc1, kc2, kc3⟩ := KC.out w' hSw.out; clear hSw; go_simp; try with_reducible rfl)
      simp only [ptk]
      refine tak 9 ?vutrips9 rfl ?hyutrips9 ?restutrips9
      case hyutrips9 => (intro w' hSw; obtain ⟨kc0, kc1, kc2, kc3⟩ := KC.out w' hSw.out; clear hSw; go_simp; try with_reducible rfl)
      simp only [ptk]
      refine tak 10 ?vutrips10 rfl ?hyutrips10 ?restutrips10
      case hyutrips10 => (intro w' hSw; obtain ⟨kc0, kc1, kc2, kc3⟩ := KC.out w' hSw.out; clear hSw; go_simp; try with_reducible rfl)
      simp only [ptk]
      refine tak 11 ?vutrips11 rfl ?hyutrips11 ?restutrips11
      case hyutrips11 => (intro w' hSw; obtain ⟨kc0, kc1, kc2, kc3⟩ := KC.out w' hSw.out; clear hSw; go_simp; try with_reducible rfl)
      simp only [ptk]
      refine tak 12 ?vutrips12 rfl ?hyutrips12 ?restutrips12
      case hyutrips12 => (intro w' hSw; obtain ⟨kc0, kc1, kc2, kc3⟩ := KC.out w' hSw.out; clear hSw; go_simp; try with_reducible rfl)
      simp only [ptk]
      refine tak 13 ?vutrips13 rfl ?hyutrips13 ?restutrips13
      case hyutrips13 => (intro w' hSw; obtain ⟨kc0, kc1, kc2, kc3⟩ := KC.out w' hSw.out; clear hSw; go_simp; try with_reducible rfl)
      simp only [ptk]
      refine tak 14 ?vutrips14 rfl ?hyutrips14 ?restutrips14
      case hyutrips14 => (intro w' hSw; obtain ⟨kc0, kc1, kc2, kc3⟩ := KC.out w' hSw.out; clear hSw; go_simp; try with_reducible rfl)
      simp only [ptk]
      have D0 := hHeld
      clear hHeld
      have HMV : Hid (Below W.heap.size W (World.drew W)) := HH (below_drew (Below.refl _ _))
      generalize World.drew W = v0 at *
      refine rdy [5, 15] ?_
      refine AllReadyH.cons rfl (fun K hK => ?_) ?_
      · have q4 : v0.cell? ⟨M, 19, none⟩ = some (.slice Bk n dk) := (cell_keep (p := ⟨M, 19, none⟩) HMV.out (by have := HMW.out.lt; exact this)).trans K1R.out
        go_simp
        clear q4
        refine hK.out _ _ D0 (fun hHeld => ?_)
        clear hK K
        refine rdy [15] ?_
        refine AllReadyH.cons rfl (fun K hK => ?_) ?_
        · go_simp
          have Dtrips15 : Hid (Ch (fun k => k = M ∨ some k = (Value.slice Bk n dk).ownBlock) W (v0.alloc (.cells #[.int .i64 J, .int .i64 qf, .int .i64 qe, .int .i64 qu] 56))) := HH (D0.out.alloc _)
          have BWtrips15 : Hid (Below W.heap.size W (v0.alloc (.cells #[.int .i64 J, .int .i64 qf, .int .i64 qe, .int .i64 qu] 56))) := HH (HMV.out.alloc HMV.out.size _)
          have HLI : Hid (Rd (v0.alloc (.cells #[.int .i64 J, .int .i64 qf, .int .i64 qe, .int .i64 qu] 56)) (· < (v0.alloc (.cells #[.int .i64 J, .int .i64 qf, .int .i64 qe, .int .i64 qu] 56)).heap.size) (some ⟨v0.heap.size, 0, none⟩) [.int .i64 J, .int .i64 qf, .int .i64 qe, .int .i64 qu]) := HH (Sh.lit_rd _ _ _ _ rfl)
          generalize v0.alloc (.cells #[.int .i64 J, .int .i64 qf, .int .i64 qe, .int .i64 qu] 56) = vtrips15 at *
          refine hK.out _ _ Dtrips15 (fun hHeld => ?_)
          clear hK K
          refine rdy [16] ?_
          refine AllReadyH.cons rfl (fun K hK => ?_) ?_
          · refine step_append_g (by rfl) (.tmp 32) (.tmp 42) 34 (by rfl) B 56 _ 4 32 Tryz.underlying34 info_TripO rfl (by omega) (by omega) (.slice Bk n dk) n (cs toC wd.trips) (by rfl) (HH (own_after OV.out BWtrips15.out)) _ _ 1 1 _ (by rfl) (HH rfl) HLI (by simp [Value.oneCell']) (by omega) (Nat.le_trans hBW BWtrips15.out.size) ?_
            intro v' w6 hown hgrow hob
            obtain ⟨A', c', rfl, -, -⟩ := own_form hown.out
            have hg2 := hgrow.out
            have hg3 := hown.out
            have hg4 := hob.out
            rw [HN.out] at hg2 hg3 hg4
            have HS6 := HH (HMW.out.six BWtrips15.out (v := .slice Bk wd.trips.length dk) (by simp) hg2)
            have HF := HH (HMW.out.add5 (q := ⟨J, qf, qe, qu⟩) BWtrips15.out hg3 hg2 hg4)
            rw [← HN.out] at HF
            have D6 : Hid (Ch (fun k => k = M ∨ some k = (Value.slice Bk n dk).ownBlock) W w6) := HH (Dtrips15.out.trans' (Ch.of_grown (X := fun k => k = M ∨ some k = (Value.slice Bk n dk).ownBlock) hgrow.out fun k e => .inr e) (fun _ _ h => h))
            have k6 : w6.cell? ⟨M, 19, none⟩ = some (.slice Bk n dk) := by rw [HN.out]; exact row_of5 HS6.out.1 HMW.out.hnv
            have f6 : w6.frozen? ⟨M, 19, none⟩ = false := HS6.out.1.frozen 19
            clear hg2 hg3 hg4
            refine hK.out _ _ D6 (fun hHeld => ?_)
            clear hK K
            refine tak 17 ?vutrips16 rfl ?hyutrips16 ?restutrips16
            case hyutrips16 => (intro w' hSw; clear hSw; go_simp; try with_reducible rfl)
            simp only [ptk]
            refine tak 18 ?vutrips17 rfl ?hyutrips17 ?restutrips17
            case hyutrips17 => (intro w' hSw; clear hSw; go_simp; try with_reducible rfl)
            simp only [ptk]
            refine tak 19 ?vutrips18 rfl ?hyutrips18 ?restutrips18
            case hyutrips18 => (intro w' hSw; clear hSw; go_simp; try with_reducible rfl)
            simp only [ptk]
            refine rdy [20] ?_
            refine AllReadyH.cons rfl (fun K hK => ?_) AllReadyH.nil
            go_simp
            have D7 : Hid (Ch (fun k => k = M ∨ some k = (Value.slice Bk n dk).ownBlock) W (w6.setCell ⟨M, 19, none⟩ (.slice A' (n + 1) c'))) := HH (D6.out.setCell (p := ⟨M, 19, none⟩) (.inl (.inl rfl)) _)
            refine hK.out _ _ D7 (fun hHeld => ?_)
            refine wpAnyH_done (by kernel_rfl) ?_ _
            go_wp2
            go_ret
            exact ⟨rfl, HH ⟨_, _, _, _, _, HF.out.1⟩, HH ⟨(Ch.of_below HWB.out).trans' HF.out.2 (fun _ _ h => h), fun h => absurd rfl h⟩⟩
          exact AllReadyH.nil
        exact AllReadyH.nil
      refine AllReadyH.cons rfl (fun K hK => ?_) ?_
      · go_simp
        have Dtrips19 : Hid (Ch (fun k => k = M ∨ some k = (Value.slice Bk n dk).ownBlock) W (v0.alloc (.cells #[.int .i64 J, .int .i64 qf, .int .i64 qe, .int .i64 qu] 56))) := HH (D0.out.alloc _)
        have BWtrips19 : Hid (Below W.heap.size W (v0.alloc (.cells #[.int .i64 J, .int .i64 qf, .int .i64 qe, .int .i64 qu] 56))) := HH (HMV.out.alloc HMV.out.size _)
        have HLI : Hid (Rd (v0.alloc (.cells #[.int .i64 J, .int .i64 qf, .int .i64 qe, .int .i64 qu] 56)) (· < (v0.alloc (.cells #[.int .i64 J, .int .i64 qf, .int .i64 qe, .int .i64 qu] 56)).heap.size) (some ⟨v0.heap.size, 0, none⟩) [.int .i64 J, .int .i64 qf, .int .i64 qe, .int .i64 qu]) := HH (Sh.lit_rd _ _ _ _ rfl)
        generalize v0.alloc (.cells #[.int .i64 J, .int .i64 qf, .int .i64 qe, .int .i64 qu] 56) = vtrips19 at *
        refine hK.out _ _ Dtrips19 (fun hHeld => ?_)
        clear hK K
        refine rdy [5] ?_
        refine AllReadyH.cons rfl (fun K hK => ?_) ?_
        · have q4 : vtrips19.cell? ⟨M, 19, none⟩ = some (.slice Bk n dk) := (cell_keep (p := ⟨M, 19, none⟩) BWtrips19.out (by have := HMW.out.lt; exact this)).trans K1R.out
          go_simp
          clear q4
          refine hK.out _ _ Dtrips19 (fun hHeld => ?_)
          clear hK K
          refine rdy [16] ?_
          refine AllReadyH.cons rfl (fun K hK => ?_) ?_
          · refine step_append_g (by rfl) (.tmp 32) (.tmp 42) 34 (by rfl) B 56 _ 4 32 Tryz.underlying34 info_TripO rfl (by omega) (by omega) (.slice Bk n dk) n (cs toC wd.trips) (by rfl) (HH (own_after OV.out BWtrips19.out)) _ _ 1 1 _ (by rfl) (HH rfl) HLI (by simp [Value.oneCell']) (by omega) (Nat.le_trans hBW BWtrips19.out.size) ?_
            intro v' w6 hown hgrow hob
            obtain ⟨A', c', rfl, -, -⟩ := own_form hown.out
            have hg2 := hgrow.out
            have hg3 := hown.out
            have hg4 := hob.out
            rw [HN.out] at hg2 hg3 hg4
            have HS6 := HH (HMW.out.six BWtrips19.out (v := .slice Bk wd.trips.length dk) (by simp) hg2)
            have HF := HH (HMW.out.add5 (q := ⟨J, qf, qe, qu⟩) BWtrips19.out hg3 hg2 hg4)
            rw [← HN.out] at HF
            have D6 : Hid (Ch (fun k => k = M ∨ some k = (Value.slice Bk n dk).ownBlock) W w6) := HH (Dtrips19.out.trans' (Ch.of_grown (X := fun k => k = M ∨ some k = (Value.slice Bk n dk).ownBlock) hgrow.out fun k e => .inr e) (fun _ _ h => h))
            have k6 : w6.cell? ⟨M, 19, none⟩ = some (.slice Bk n dk) := by rw [HN.out]; exact row_of5 HS6.out.1 HMW.out.hnv
            have f6 : w6.frozen? ⟨M, 19, none⟩ = false := HS6.out.1.frozen 19
            clear hg2 hg3 hg4
            refine hK.out _ _ D6 (fun hHeld => ?_)
            clear hK K
            refine tak 17 ?vutrips20 rfl ?hyutrips20 ?restutrips20
            case hyutrips20 => (intro w' hSw; clear hSw; go_simp; try with_reducible rfl)
            simp only [ptk]
            refine tak 18 ?vutrips21 rfl ?hyutrips21 ?restutrips21
            case hyutrips21 => (intro w' hSw; clear hSw; go_simp; try with_reducible rfl)
            simp only [ptk]
            refine tak 19 ?vutrips22 rfl ?hyutrips22 ?restutrips22
            case hyutrips22 => (intro w' hSw; clear hSw; go_simp; try with_reducible rfl)
            simp only [ptk]
            refine rdy [20] ?_
            refine AllReadyH.cons rfl (fun K hK => ?_) AllReadyH.nil
            go_simp
            have D7 : Hid (Ch (fun k => k = M ∨ some k = (Value.slice Bk n dk).ownBlock) W (w6.setCell ⟨M, 19, none⟩ (.slice A' (n + 1) c'))) := HH (D6.out.setCell (p := ⟨M, 19, none⟩) (.inl (.inl rfl)) _)
            refine hK.out _ _ D7 (fun hHeld => ?_)
            refine wpAnyH_done (by kernel_rfl) ?_ _
            go_wp2
            go_ret
            exact ⟨rfl, HH ⟨_, _, _, _, _, HF.out.1⟩, HH ⟨(Ch.of_below HWB.out).trans' HF.out.2 (fun _ _ h => h), fun h => absurd rfl h⟩⟩
          exact AllReadyH.nil
        exact AllReadyH.nil
      exact AllReadyH.nil
  · have hk4 : ¬ (((tt.1 : Nat) : Int) = 4) := by intro h; exact hin (HTR.out.1.1 (by omega))
    have hk5 : (((tt.1 : Nat) : Int) == 4) = false := by simpa using hk4
    rw [if_pos (pl_neg.2 hin)]
    simp only [show ((5 : Int) = 0) = False by simp, if_false]
    generalize ((tt.1 : Nat) : Int) = K at *
    generalize ((tt.2 : Nat) : Int) = J at *
    go_enter Tryz.func157, Tryz.ntmps157
    go_wp2_with (go_at_call 187; refine (HNM.out _ (one_box _ _)).mono ?_; rintro e w2 ⟨rfl, hb⟩; have HB2 := HH (keep_trans (one_box _ _) hb); have HBX := HH ((Blk.new w 123 [.string ⟨qn.toArray⟩, .string ⟨qr.toArray⟩, .int .i64 qf, .int .i64 qe, .int .i64 qu]).after hb); have b2 : w2.cell? ⟨w.heap.size, 2, none⟩ = some (.int .i64 qf) := HBX.out.cell 2; have b4 : w2.cell? ⟨w.heap.size, 4, none⟩ = some (.int .i64 qu) := HBX.out.cell 4; have hlt2 : w.heap.size < w2.heap.size := HBX.out.lt; have hne2 : w.heap.size ≠ w2.heap.size := (by omega); clear hb)
    go_ret
    have hbf := (HB2.out.alloc HB2.out.size (.cells #[.int .i64 K, .int .i64 J] 212))
    exact ⟨rfl, HH ⟨v2, v3, v4, v5, v6, H.out.after hbf⟩, HH ⟨Ch.of_below hbf, fun _ => hbf⟩⟩
end Go.Proofs.YtfefnfifeaihhaaGreat.Wo
