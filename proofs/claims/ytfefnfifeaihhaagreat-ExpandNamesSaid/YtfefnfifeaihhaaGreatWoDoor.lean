/- Package world's door; proved by walking its text. Conditions: the maker lies as Ms says. -/
import Derived.Test.YtfefnfifeaihhaaGreatWoPath
set_option linter.unusedVariables false
set_option linter.unusedSimpArgs false
set_option maxHeartbeats 4000000
set_option maxRecDepth 100000
namespace Go.Proofs.YtfefnfifeaihhaaGreat.Wo
open Go.ChangeShapes Go.WideShapes Go.ChangeAt Go.RowKit Go.Maps
open Lx Sh It
theorem row_of3 {w6 : World} {M : Nat} {T : Nat} {x : SheetM} {p : ShA} {tA : Option Addr} {tn tc : Nat} {nv : List Value} {v2 v3 v4 v5 v6 : Value} (h : Blk w6 M 177 (mkL T tA tn tc x p ++ (nv ++ [v2, v3, v4, v5, v6]))) (hn : nv.length = 7) : w6.cell? ⟨M, 17, none⟩ = some v3 := by
  rw [h.cell, List.getElem?_append_right (by simp [mkL]), List.getElem?_append_right (by simp [mkL]; omega)]
  simp [mkL, hn]
theorem row_of4 {w6 : World} {M : Nat} {T : Nat} {x : SheetM} {p : ShA} {tA : Option Addr} {tn tc : Nat} {nv : List Value} {v2 v3 v4 v5 v6 : Value} (h : Blk w6 M 177 (mkL T tA tn tc x p ++ (nv ++ [v2, v3, v4, v5, v6]))) (hn : nv.length = 7) : w6.cell? ⟨M, 18, none⟩ = some v4 := by
  rw [h.cell, List.getElem?_append_right (by simp [mkL]), List.getElem?_append_right (by simp [mkL]; omega)]
  simp [mkL, hn]
theorem row_of5 {w6 : World} {M : Nat} {T : Nat} {x : SheetM} {p : ShA} {tA : Option Addr} {tn tc : Nat} {nv : List Value} {v2 v3 v4 v5 v6 : Value} (h : Blk w6 M 177 (mkL T tA tn tc x p ++ (nv ++ [v2, v3, v4, v5, v6]))) (hn : nv.length = 7) : w6.cell? ⟨M, 19, none⟩ = some v5 := by
  rw [h.cell, List.getElem?_append_right (by simp [mkL]), List.getElem?_append_right (by simp [mkL]; omega)]
  simp [mkL, hn]
theorem row_of6 {w6 : World} {M : Nat} {T : Nat} {x : SheetM} {p : ShA} {tA : Option Addr} {tn tc : Nat} {nv : List Value} {v2 v3 v4 v5 v6 : Value} (h : Blk w6 M 177 (mkL T tA tn tc x p ++ (nv ++ [v2, v3, v4, v5, v6]))) (hn : nv.length = 7) : w6.cell? ⟨M, 20, none⟩ = some v6 := by
  rw [h.cell, List.getElem?_append_right (by simp [mkL]), List.getElem?_append_right (by simp [mkL]; omega)]
  simp [mkL, hn]
theorem info_DoorO : (Tryz.prog.info? 97).map (fun i => (i.zero, i.size, i.bytes)) = some (some (.agg #[.int .i64 0, .int .i64 0, .int .i64 0, .int .i64 0, .int .i64 0, .int .i64 0]), 6, 48) := by kernel_rfl
theorem info_TripO : (Tryz.prog.info? 56).map (fun i => (i.zero, i.size, i.bytes)) = some (some (.agg #[.int .i64 0, .int .i64 0, .int .i64 0, .int .i64 0]), 4, 32) := by kernel_rfl
theorem info_HazO : (Tryz.prog.info? 101).map (fun i => (i.zero, i.size, i.bytes)) = some (some (.agg #[.bool false, .int .i64 0, .int .i64 0, .int .i64 0, .int .i64 0]), 5, 40) := by kernel_rfl
theorem info_RouteO : (Tryz.prog.info? 59).map (fun i => (i.zero, i.size, i.bytes)) = some (some (.agg #[.slice none 0 0, .slice none 0 0, .slice none 0 0]), 3, 72) := by kernel_rfl
theorem door_any {w : World} {B M T : Nat} {X : Nat → Prop} {x : SheetM} {p : ShA} {tA : Option Addr} {tn tc : Nat} {nv : List Value} {wd : WorldM} (h : MsE w B M T X x p tA tn tc nv wd) (hw : wd.doors.length ≤ 400) (hx : x.doors.length ≤ 400) (i : Nat) (q : DoorM) (hq : x.doors[i]? = some q) (la : q.a.length ≤ maxLen) (lb : q.b.length ≤ maxLen) :
    Calls Tryz.prog 155 #[.pointer (some ⟨M, 0, none⟩), .int .i64 (i : Int)] w (MetPost w B M T X x p tA tn tc nv (doorE x.horizon (nDoor x.stops q)) (if doorE x.horizon (nDoor x.stops q) = 0 then { wd with doors := wd.doors ++ [nDoor x.stops q] } else wd)) := by
  obtain ⟨v2, v3, v4, v5, v6, h⟩ := h
  have H := HH h
  have hi : i < x.doors.length := (List.getElem?_eq_some_iff.1 hq).1
  obtain ⟨ad, e2, ⟨hS1, hS2⟩, h0, hj⟩ := rd_at 7 (fun _ => rfl) (by omega) h.sh.r3 hq
  have c4 : w.cell? ⟨M, 5, none⟩ = some (.slice (some ad) x.doors.length p.c3) := by rw [← e2]; exact h.cell 5 (by omega)
  have hM : M < w.heap.size := h.lt
  have hne : M ≠ w.heap.size := by omega
  have hi2 : (i : Int) < (x.doors.length : Int) := by omega
  have hbk : (ad.add (i * 7)).block < w.heap.size := by rw [block_of_add]; have := h.hB; omega
  have hbk2 : (ad.add (i * 7)).block ≠ w.heap.size := by omega
  obtain ⟨np, hnp⟩ : ∃ n, n = x.doors.length := ⟨_, rfl⟩
  rw [← hnp] at c4 hi2
  have hi3 : ¬ ((i : Int) < 0) := by omega
  have HWY := HH (fun w1 (hb : Below w.heap.size w w1) => way_any (h.after hb).mk_ q.a q.b q.len la lb)
  unfold WyPost wayO at HWY
  have HT := HH (fun w1 (hb : Below w.heap.size w w1) => Wo.times_any (h.after hb).mk_ q.times)
  have hnP : nDoor x.stops q = ⟨pl x.stops q.a, pl x.stops q.b, q.len, q.times⟩ := rfl
  have hpE : doorE x.horizon (nDoor x.stops q) = if wayE (pl x.stops q.a) (pl x.stops q.b) q.len ≠ 0 then wayE (pl x.stops q.a) (pl x.stops q.b) q.len else timeE x.horizon q.times := rfl
  rw [hpE, hnP]
  generalize pl x.stops q.a = na at *
  generalize pl x.stops q.b = nb at *
  generalize timeE x.horizon q.times = tE at *
  clear hnP hpE la lb
  clear e2 hS1 hS2 hnp hi hx h hq
  obtain ⟨qn, qa, qb, ql, ⟨tf, te, tl⟩⟩ := q
  dsimp only at *
  have a0 : w.cell? (ad.add (i * 7)) = some (.string ⟨qn.toArray⟩) := h0
  have a1 : w.cell? ⟨(ad.add (i * 7)).block, (ad.add (i * 7)).off + 1, none⟩ = some (.string ⟨qa.toArray⟩) := (hj 1 (by omega)).resolve_right (by omega)
  have a2 : w.cell? ⟨(ad.add (i * 7)).block, (ad.add (i * 7)).off + 2, none⟩ = some (.string ⟨qb.toArray⟩) := (hj 2 (by omega)).resolve_right (by omega)
  have a3 : w.cell? ⟨(ad.add (i * 7)).block, (ad.add (i * 7)).off + 3, none⟩ = some (.int .i64 ql) := (hj 3 (by omega)).resolve_right (by omega)
  have a4 : w.cell? ⟨(ad.add (i * 7)).block, (ad.add (i * 7)).off + 4, none⟩ = some (.int .i64 tf) := (hj 4 (by omega)).resolve_right (by omega)
  have a5 : w.cell? ⟨(ad.add (i * 7)).block, (ad.add (i * 7)).off + 5, none⟩ = some (.int .i64 te) := (hj 5 (by omega)).resolve_right (by omega)
  have a6 : w.cell? ⟨(ad.add (i * 7)).block, (ad.add (i * 7)).off + 6, none⟩ = some (.int .i64 tl) := (hj 6 (by omega)).resolve_right (by omega)
  clear h0 hj
  by_cases her : wayE na nb ql = 0
  · simp only [her, if_true] at HWY ⊢
    simp only [ne_eq, not_true, if_false]
    generalize wayE na nb ql = er at *
    subst her
    by_cases het : tE = 0
    · simp only [het, if_true] at HT ⊢
      clear het
      go_enter Tryz.func155, Tryz.ntmps155
      go_wp2_with (first
        | (go_at_call 181; refine (HWY.out _ (one_box _ _)).mono ?_; rintro e w2 ⟨rfl, hb⟩; have HB2 := HH (keep_trans (one_box _ _) hb); have HBX := HH ((Blk.new w 119 [.string ⟨qn.toArray⟩, .string ⟨qa.toArray⟩, .string ⟨qb.toArray⟩, .int .i64 ql, .int .i64 tf, .int .i64 te, .int .i64 tl]).after hb); have b4 : w2.cell? ⟨w.heap.size, 4, none⟩ = some (.int .i64 tf) := HBX.out.cell 4; have b5 : w2.cell? ⟨w.heap.size, 5, none⟩ = some (.int .i64 te) := HBX.out.cell 5; have b6 : w2.cell? ⟨w.heap.size, 6, none⟩ = some (.int .i64 tl) := HBX.out.cell 6; have hlt2 : w.heap.size < w2.heap.size := HBX.out.lt; have hne2 : w.heap.size ≠ w2.heap.size := (by omega); clear hb)
        | (go_at_call 182; refine (HT.out _ (HB2.out.alloc HB2.out.size _)).mono ?_; rintro e w3 ⟨rfl, hb⟩; have HWB : Hid (Below w.heap.size w w3) := HH (keep_trans (HB2.out.alloc HB2.out.size _) hb); have KX : Hid (Blk w3 w2.heap.size 92 [.int .i64 na, .int .i64 nb, .int .i64 ql]) := HH ((Blk.new w2 _ _).after hb); have KD := HH ((HBX.out.alloc (.cells #[.int .i64 na, .int .i64 nb, .int .i64 ql] 92)).after hb); clear hb))
      have HBM : Hid (w2.heap.size ≠ M) := HH (by have := HB2.out.size; omega)
      have HWM : Hid (w.heap.size ≠ M) := HH (by omega)
      generalize w2.heap.size = b at KX HBM ⊢
      generalize hW : w3 = W at *
      have HMW := HH (H.out.after HWB.out)
      clear c4 hM hne a0 a1 a2 a3 a4 a5 a6 hi2 hbk hbk2 hi3 HWY HT b4 b5 b6 hlt2 hne2 HBX HB2
      have HNB : Hid (¬ (b = M ∨ some b = v3.ownBlock)) := HH (fun h => h.elim HBM.out (fun e => own_ne_blk HMW.out.r3 KX.out (by decide) b e.symm rfl))
      have HNW : Hid (¬ (w.heap.size = M ∨ some w.heap.size = v3.ownBlock)) := HH (fun h => h.elim HWM.out (fun e => own_ne_blk HMW.out.r3 KD.out (by decide) _ e.symm rfl))
      obtain ⟨Bk, dk, hvk, hndk, hrdk⟩ := own_form HMW.out.r3
      subst hvk
      obtain ⟨n, hn⟩ : ∃ n, n = wd.doors.length := ⟨_, rfl⟩
      have HN := HH hn
      rw [← hn] at HNB HNW
      have OV : Hid (W.ownsRow B 97 6 (.slice Bk n dk) n (cs dooC wd.doors)) := HH (by rw [hn]; exact HMW.out.r3)
      have k1 : W.cell? ⟨M, 17, none⟩ = some (.slice Bk n dk) := by rw [hn]; exact HMW.out.row 1 (by omega)
      have K1R := HH k1
      have hn4 : n ≤ 400 := by omega
      have hBW := HMW.out.hB
      have HOB : Hid (∀ k, (Value.slice Bk n dk).ownBlock = some k → B ≤ k) := HH fun k hk => (OV.out.lt k hk).1
      have HMB : Hid (M < B) := HH HMW.out.hM
      clear hn hw hndk hrdk k1
      have KC : Hid (∀ w', Ch (fun k => k = M ∨ some k = (Value.slice Bk n dk).ownBlock) W w' → w'.cell? ⟨b, 0, none⟩ = some (.int .i64 na) ∧ w'.cell? ⟨b, 1, none⟩ = some (.int .i64 nb) ∧ w'.cell? ⟨b, 2, none⟩ = some (.int .i64 ql) ∧ w'.cell? ⟨w.heap.size, 4, none⟩ = some (.int .i64 tf) ∧ w'.cell? ⟨w.heap.size, 5, none⟩ = some (.int .i64 te) ∧ w'.cell? ⟨w.heap.size, 6, none⟩ = some (.int .i64 tl)) := HH (fun w' hc => by
        have aKX := hc.blk KX.out (HNB.out)
        have aKD := hc.blk KD.out (HNW.out)
        exact ⟨aKX.cell 0, aKX.cell 1, aKX.cell 2, aKD.cell 4, aKD.cell 5, aKD.cell 6⟩)
      refine wp_region_held_drew (S := fun w' => Hid (Ch (fun k => k = M ∨ some k = (Value.slice Bk n dk).ownBlock) W w')) (by kernel_rfl) ?_ (fun hHeld => ?_)
      · exact HH ((Ch.refl _ W).drew)
      refine tak 0 ?vudoors1 rfl ?hyudoors1 ?restudoors1
      case hyudoors1 => (intro w' hSw; obtain ⟨kc0, kc1, kc2, kc3, kc4, kc5⟩ := KC.out w' hSw.out; clear hSw; go_simp; try with_reducible rfl)
      simp only [ptk]
      refine tak 1 ?vudoors2 rfl ?hyudoors2 ?restudoors2
      case hyudoors2 => (intro w' hSw; obtain ⟨kc0, kc1, kc2, kc3, kc4, kc5⟩ := KC.out w' hSw.out; clear hSw; go_simp; try with_reducible rfl)
      simp only [ptk]
      refine tak 2 ?vudoors3 rfl ?hyudoors3 ?restudoors3
      case hyudoors3 => (intro w' hSw; obtain ⟨kc0, kc1, kc2, kc3, kc4, kc5⟩ := KC.out w' hSw.out; clear hSw; go_simp; try with_reducible rfl)
      simp only [ptk]
      refine tak 3 ?vudoors4 rfl ?hyudoors4 ?restudoors4
      case hyudoors4 => (intro w' hSw; obtain ⟨kc0, kc1, kc2, kc3, kc4, kc5⟩ := KC.out w' hSw.out; clear hSw; go_simp; try with_reducible rfl)
      simp only [ptk]
      refine tak 4 ?vudoors5 rfl ?hyudoors5 ?restudoors5
      case hyudoors5 => (intro w' hSw; obtain ⟨kc0, kc1, kc2, kc3, kc4, kc5⟩ := KC.out w' hSw.out; clear hSw; go_simp; try with_reducible rfl)
      simp only [ptk]
      refine tak 6 ?vudoors6 rfl ?hyudoors6 ?restudoors6
      case hyudoors6 => (intro w' hSw; obtain ⟨kc0, kc1, kc2, kc3, kc4, kc5⟩ := KC.out w' hSw.out; clear hSw; go_simp; try with_reducible rfl)
      simp only [ptk]
      refine tak 7 ?vudoors7 rfl ?hyudoors7 ?restudoors7
      case hyudoors7 => (intro w' hSw; obtain ⟨kc0, kc1, kc2, kc3, kc4, kc5⟩ := KC.out w' hSw.out; clear hSw; go_simp; try with_reducible rfl)
      simp only [ptk]
      refine tak 8 ?vudoors8 rfl ?hyudoors8 ?restudoors8
      case hyudoors8 => (intro w' hSw; obtain ⟨kc0, kc1, kc2, kc3, kc4, kc5⟩ := KC.out w' hSw.out; clear hSw; go_simp; try with_reducible rfl)
      simp only [ptk]
      refine tak 9 ?vudoors9 rfl ?hyudoors9 ?restudoors9
      case hyudoors9 => (intro w' hSw; obtain ⟨kc0, kc1, kc2, kc3, kc4, kc5⟩ := KC.out w' hSw.out; clear hSw; go_simp; try with_reducible rfl)
      simp only [ptk]
      refine tak 10 ?vudoors10 rfl ?hyudoors10 ?restudoors10
      case hyudoors10 => (intro w' hSw; obtain ⟨kc0, kc1, kc2, kc3, kc4, kc5⟩ := KC.out w' hSw.out; clear hSw; go_simp; try with_reducible rfl)
      simp only [ptk]
      refine tak 11 ?vudoors11 rfl ?hyudoors11 ?restudoors11
      case hyudoors11 => (intro w' hSw; obtain ⟨kc0, kc1, kc2, kc3, kc4, kc5⟩ := KC.out w' hSw.out; clear hSw; go_simp; try with_reducible rfl)
      simp only [ptk]
      refine tak 12 ?vudoors12 rfl ?hyudoors12 ?restudoors12
      case hyudoors12 => (intro w' hSw; obtain ⟨kc0, kc1, kc2, kc3, kc4, kc5⟩ := KC.out w' hSw.out; clear hSw; go_simp; try with_reducible rfl)
      simp only [ptk]
      refine tak 13 ?vudoors13 rfl ?hyudoors13 ?restudoors13
      case hyudoors13 => (intro w' hSw; obtain ⟨kc0, kc1, kc2, kc3, kc4, kc5⟩ := KC.out w' hSw.out; clear hSw; go_simp; try with_reducible rfl)
      simp only [ptk]
      refine tak 14 ?vudoors14 rfl ?hyudoors14 ?restudoors14
      case hyudoors14 => (intro w' hSw; obtain ⟨kc0, kc1, kc2, kc3, kc4, kc5⟩ := KC.out w' hSw.out; clear hSw; go_simp; try with_reducible rfl)
      simp only [ptk]
      have D0 := hHeld
      clear hHeld
      have HMV : Hid (Below W.heap.size W (World.drew W)) := HH (below_drew (Below.refl _ _))
      generalize World.drew W = v0 at *
      refine rdy [5, 15] ?_
      refine AllReadyH.cons rfl (fun K hK => ?_) ?_
      · have q4 : v0.cell? ⟨M, 17, none⟩ = some (.slice Bk n dk) := (cell_keep (p := ⟨M, 17, none⟩) HMV.out (by have := HMW.out.lt; exact this)).trans K1R.out
        go_simp
        clear q4
        refine hK.out _ _ D0 (fun hHeld => ?_)
        clear hK K
        refine rdy [15] ?_
        refine AllReadyH.cons rfl (fun K hK => ?_) ?_
        · go_simp
          have Ddoors15 : Hid (Ch (fun k => k = M ∨ some k = (Value.slice Bk n dk).ownBlock) W (v0.alloc (.cells #[.int .i64 na, .int .i64 nb, .int .i64 ql, .int .i64 tf, .int .i64 te, .int .i64 tl] 97))) := HH (D0.out.alloc _)
          have BWdoors15 : Hid (Below W.heap.size W (v0.alloc (.cells #[.int .i64 na, .int .i64 nb, .int .i64 ql, .int .i64 tf, .int .i64 te, .int .i64 tl] 97))) := HH (HMV.out.alloc HMV.out.size _)
          have HLI : Hid (Rd (v0.alloc (.cells #[.int .i64 na, .int .i64 nb, .int .i64 ql, .int .i64 tf, .int .i64 te, .int .i64 tl] 97)) (· < (v0.alloc (.cells #[.int .i64 na, .int .i64 nb, .int .i64 ql, .int .i64 tf, .int .i64 te, .int .i64 tl] 97)).heap.size) (some ⟨v0.heap.size, 0, none⟩) [.int .i64 na, .int .i64 nb, .int .i64 ql, .int .i64 tf, .int .i64 te, .int .i64 tl]) := HH (Sh.lit_rd _ _ _ _ rfl)
          generalize v0.alloc (.cells #[.int .i64 na, .int .i64 nb, .int .i64 ql, .int .i64 tf, .int .i64 te, .int .i64 tl] 97) = vdoors15 at *
          refine hK.out _ _ Ddoors15 (fun hHeld => ?_)
          clear hK K
          refine rdy [16] ?_
          refine AllReadyH.cons rfl (fun K hK => ?_) ?_
          · refine step_append_g (by rfl) (.tmp 43) (.tmp 53) 32 (by rfl) B 97 _ 6 48 Tryz.underlying32 info_DoorO rfl (by omega) (by omega) (.slice Bk n dk) n (cs dooC wd.doors) (by rfl) (HH (own_after OV.out BWdoors15.out)) _ _ 1 1 _ (by rfl) (HH rfl) HLI (by simp [Value.oneCell']) (by omega) (Nat.le_trans hBW BWdoors15.out.size) ?_
            intro v' w6 hown hgrow hob
            obtain ⟨A', c', rfl, -, -⟩ := own_form hown.out
            have hg2 := hgrow.out
            have hg3 := hown.out
            have hg4 := hob.out
            rw [HN.out] at hg2 hg3 hg4
            have HS6 := HH (HMW.out.six BWdoors15.out (v := .slice Bk wd.doors.length dk) (by simp) hg2)
            have HF := HH (HMW.out.add3 (q := ⟨na, nb, ql, ⟨tf, te, tl⟩⟩) BWdoors15.out hg3 hg2 hg4)
            rw [← HN.out] at HF
            have D6 : Hid (Ch (fun k => k = M ∨ some k = (Value.slice Bk n dk).ownBlock) W w6) := HH (Ddoors15.out.trans' (Ch.of_grown (X := fun k => k = M ∨ some k = (Value.slice Bk n dk).ownBlock) hgrow.out fun k e => .inr e) (fun _ _ h => h))
            have k6 : w6.cell? ⟨M, 17, none⟩ = some (.slice Bk n dk) := by rw [HN.out]; exact row_of3 HS6.out.1 HMW.out.hnv
            have f6 : w6.frozen? ⟨M, 17, none⟩ = false := HS6.out.1.frozen 17
            clear hg2 hg3 hg4
            refine hK.out _ _ D6 (fun hHeld => ?_)
            clear hK K
            refine tak 17 ?vudoors16 rfl ?hyudoors16 ?restudoors16
            case hyudoors16 => (intro w' hSw; clear hSw; go_simp; try with_reducible rfl)
            simp only [ptk]
            refine tak 18 ?vudoors17 rfl ?hyudoors17 ?restudoors17
            case hyudoors17 => (intro w' hSw; clear hSw; go_simp; try with_reducible rfl)
            simp only [ptk]
            refine tak 19 ?vudoors18 rfl ?hyudoors18 ?restudoors18
            case hyudoors18 => (intro w' hSw; clear hSw; go_simp; try with_reducible rfl)
            simp only [ptk]
            refine rdy [20] ?_
            refine AllReadyH.cons rfl (fun K hK => ?_) AllReadyH.nil
            go_simp
            have D7 : Hid (Ch (fun k => k = M ∨ some k = (Value.slice Bk n dk).ownBlock) W (w6.setCell ⟨M, 17, none⟩ (.slice A' (n + 1) c'))) := HH (D6.out.setCell (p := ⟨M, 17, none⟩) (.inl (.inl rfl)) _)
            refine hK.out _ _ D7 (fun hHeld => ?_)
            refine wpAnyH_done (by kernel_rfl) ?_ _
            go_wp2
            go_ret
            exact ⟨rfl, HH ⟨_, _, _, _, _, HF.out.1⟩, HH ⟨(Ch.of_below HWB.out).trans' HF.out.2 (fun _ _ h => h), fun h => absurd rfl h⟩⟩
          exact AllReadyH.nil
        exact AllReadyH.nil
      refine AllReadyH.cons rfl (fun K hK => ?_) ?_
      · go_simp
        have Ddoors19 : Hid (Ch (fun k => k = M ∨ some k = (Value.slice Bk n dk).ownBlock) W (v0.alloc (.cells #[.int .i64 na, .int .i64 nb, .int .i64 ql, .int .i64 tf, .int .i64 te, .int .i64 tl] 97))) := HH (D0.out.alloc _)
        have BWdoors19 : Hid (Below W.heap.size W (v0.alloc (.cells #[.int .i64 na, .int .i64 nb, .int .i64 ql, .int .i64 tf, .int .i64 te, .int .i64 tl] 97))) := HH (HMV.out.alloc HMV.out.size _)
        have HLI : Hid (Rd (v0.alloc (.cells #[.int .i64 na, .int .i64 nb, .int .i64 ql, .int .i64 tf, .int .i64 te, .int .i64 tl] 97)) (· < (v0.alloc (.cells #[.int .i64 na, .int .i64 nb, .int .i64 ql, .int .i64 tf, .int .i64 te, .int .i64 tl] 97)).heap.size) (some ⟨v0.heap.size, 0, none⟩) [.int .i64 na, .int .i64 nb, .int .i64 ql, .int .i64 tf, .int .i64 te, .int .i64 tl]) := HH (Sh.lit_rd _ _ _ _ rfl)
        generalize v0.alloc (.cells #[.int .i64 na, .int .i64 nb, .int .i64 ql, .int .i64 tf, .int .i64 te, .int .i64 tl] 97) = vdoors19 at *
        refine hK.out _ _ Ddoors19 (fun hHeld => ?_)
        clear hK K
        refine rdy [5] ?_
        refine AllReadyH.cons rfl (fun K hK => ?_) ?_
        · have q4 : vdoors19.cell? ⟨M, 17, none⟩ = some (.slice Bk n dk) := (cell_keep (p := ⟨M, 17, none⟩) BWdoors19.out (by have := HMW.out.lt; exact this)).trans K1R.out
          go_simp
          clear q4
          refine hK.out _ _ Ddoors19 (fun hHeld => ?_)
          clear hK K
          refine rdy [16] ?_
          refine AllReadyH.cons rfl (fun K hK => ?_) ?_
          · refine step_append_g (by rfl) (.tmp 43) (.tmp 53) 32 (by rfl) B 97 _ 6 48 Tryz.underlying32 info_DoorO rfl (by omega) (by omega) (.slice Bk n dk) n (cs dooC wd.doors) (by rfl) (HH (own_after OV.out BWdoors19.out)) _ _ 1 1 _ (by rfl) (HH rfl) HLI (by simp [Value.oneCell']) (by omega) (Nat.le_trans hBW BWdoors19.out.size) ?_
            intro v' w6 hown hgrow hob
            obtain ⟨A', c', rfl, -, -⟩ := own_form hown.out
            have hg2 := hgrow.out
            have hg3 := hown.out
            have hg4 := hob.out
            rw [HN.out] at hg2 hg3 hg4
            have HS6 := HH (HMW.out.six BWdoors19.out (v := .slice Bk wd.doors.length dk) (by simp) hg2)
            have HF := HH (HMW.out.add3 (q := ⟨na, nb, ql, ⟨tf, te, tl⟩⟩) BWdoors19.out hg3 hg2 hg4)
            rw [← HN.out] at HF
            have D6 : Hid (Ch (fun k => k = M ∨ some k = (Value.slice Bk n dk).ownBlock) W w6) := HH (Ddoors19.out.trans' (Ch.of_grown (X := fun k => k = M ∨ some k = (Value.slice Bk n dk).ownBlock) hgrow.out fun k e => .inr e) (fun _ _ h => h))
            have k6 : w6.cell? ⟨M, 17, none⟩ = some (.slice Bk n dk) := by rw [HN.out]; exact row_of3 HS6.out.1 HMW.out.hnv
            have f6 : w6.frozen? ⟨M, 17, none⟩ = false := HS6.out.1.frozen 17
            clear hg2 hg3 hg4
            refine hK.out _ _ D6 (fun hHeld => ?_)
            clear hK K
            refine tak 17 ?vudoors20 rfl ?hyudoors20 ?restudoors20
            case hyudoors20 => (intro w' hSw; clear hSw; go_simp; try with_reducible rfl)
            simp only [ptk]
            refine tak 18 ?vudoors21 rfl ?hyudoors21 ?restudoors21
            case hyudoors21 => (intro w' hSw; clear hSw; go_simp; try with_reducible rfl)
            simp only [ptk]
            refine tak 19 ?vudoors22 rfl ?hyudoors22 ?restudoors22
            case hyudoors22 => (intro w' hSw; clear hSw; go_simp; try with_reducible rfl)
            simp only [ptk]
            refine rdy [20] ?_
            refine AllReadyH.cons rfl (fun K hK => ?_) AllReadyH.nil
            go_simp
            have D7 : Hid (Ch (fun k => k = M ∨ some k = (Value.slice Bk n dk).ownBlock) W (w6.setCell ⟨M, 17, none⟩ (.slice A' (n + 1) c'))) := HH (D6.out.setCell (p := ⟨M, 17, none⟩) (.inl (.inl rfl)) _)
            refine hK.out _ _ D7 (fun hHeld => ?_)
            refine wpAnyH_done (by kernel_rfl) ?_ _
            go_wp2
            go_ret
            exact ⟨rfl, HH ⟨_, _, _, _, _, HF.out.1⟩, HH ⟨(Ch.of_below HWB.out).trans' HF.out.2 (fun _ _ h => h), fun h => absurd rfl h⟩⟩
          exact AllReadyH.nil
        exact AllReadyH.nil
      exact AllReadyH.nil
    · simp only [het, if_false] at HT ⊢
      have het2 : (tE == 0) = false := by simpa using het
      go_enter Tryz.func155, Tryz.ntmps155
      go_wp2_with (first
        | (go_at_call 181; refine (HWY.out _ (one_box _ _)).mono ?_; rintro e w2 ⟨rfl, hb⟩; have HB2 := HH (keep_trans (one_box _ _) hb); have HBX := HH ((Blk.new w 119 [.string ⟨qn.toArray⟩, .string ⟨qa.toArray⟩, .string ⟨qb.toArray⟩, .int .i64 ql, .int .i64 tf, .int .i64 te, .int .i64 tl]).after hb); have b4 : w2.cell? ⟨w.heap.size, 4, none⟩ = some (.int .i64 tf) := HBX.out.cell 4; have b5 : w2.cell? ⟨w.heap.size, 5, none⟩ = some (.int .i64 te) := HBX.out.cell 5; have b6 : w2.cell? ⟨w.heap.size, 6, none⟩ = some (.int .i64 tl) := HBX.out.cell 6; have hlt2 : w.heap.size < w2.heap.size := HBX.out.lt; have hne2 : w.heap.size ≠ w2.heap.size := (by omega); clear hb)
        | (go_at_call 182; refine (HT.out _ (HB2.out.alloc HB2.out.size _)).mono ?_; rintro e w3 ⟨rfl, hb⟩; have HWB : Hid (Below w.heap.size w w3) := HH (keep_trans (HB2.out.alloc HB2.out.size _) hb); clear hb))
      go_ret
      exact ⟨rfl, HH ⟨v2, v3, v4, v5, v6, H.out.after HWB.out⟩, HH ⟨Ch.of_below HWB.out, fun _ => HWB.out⟩⟩
  · simp only [her, if_false] at HWY ⊢
    simp only [ne_eq, her, not_false_eq_true, if_true]
    have her2 : (wayE na nb ql == 0) = false := by simpa using her
    generalize wayE na nb ql = er at *
    go_enter Tryz.func155, Tryz.ntmps155
    go_wp2_with (go_at_call 181; refine (HWY.out _ (one_box _ _)).mono ?_; rintro e w2 ⟨rfl, hb⟩; have HB2 := HH (keep_trans (one_box _ _) hb); have HBX := HH ((Blk.new w 119 [.string ⟨qn.toArray⟩, .string ⟨qa.toArray⟩, .string ⟨qb.toArray⟩, .int .i64 ql, .int .i64 tf, .int .i64 te, .int .i64 tl]).after hb); clear hb)
    go_ret
    have hbf := (HB2.out.alloc HB2.out.size (.cells #[.int .i64 0, .int .i64 0, .int .i64 0] 92))
    exact ⟨rfl, HH ⟨v2, v3, v4, v5, v6, H.out.after hbf⟩, HH ⟨Ch.of_below hbf, fun _ => hbf⟩⟩
end Go.Proofs.YtfefnfifeaihhaaGreat.Wo
