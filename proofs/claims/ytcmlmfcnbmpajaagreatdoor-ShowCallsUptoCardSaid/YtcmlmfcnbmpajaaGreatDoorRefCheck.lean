/- The document's own Check of a sheet, proved by walking its text. Conditions: at most 60 things of a kind. -/
import Derived.Test.YtcmlmfcnbmpajaaGreatDoorRefNums
import Derived.Test.YtcmlmfcnbmpajaaGreatDoorRefName
import Derived.Test.YtcmlmfcnbmpajaaGreatDoorKitLight
namespace Go.Proofs.YtcmlmfcnbmpajaaGreatDoor.Sh
open Go.ChangeShapes Go.WideShapes Go.ChangeAt Go.RowKit
open Lx
set_option linter.unusedVariables false
set_option linter.unusedSimpArgs false

theorem lt_of {x : SheetM} (h : lightM x = true) : Lt x := by
  simp only [lightM, Bool.and_eq_true, decide_eq_true_eq] at h
  obtain ⟨⟨⟨⟨⟨⟨h1, h2⟩, h3⟩, h4⟩, h5⟩, h6⟩, h7⟩ := h
  refine ⟨h1, h2, h3, h4, h5, h6, fun r hr => ?_⟩
  have := List.all_eq_true.1 h7 r hr
  simp only [lightR, Bool.and_eq_true, decide_eq_true_eq] at this
  exact this
theorem Lt.few {x : SheetM} (h : Lt x) : ShFew x := ⟨by have := h.l1; omega, by have := h.l2; omega, by have := h.l3; omega, by have := h.l4; omega, by have := h.l5; omega, by have := h.l6; omega, fun r hr => by obtain ⟨h1, h2, h3⟩ := h.lr r hr; exact ⟨by omega, by omega, by omega⟩⟩
theorem named_eq (x : SheetM) : namedM x = (namesL x).all nameB := by
  have e2 : (fun p : PathM => [p.name, p.a, p.b].all nameB) = path_name := rfl
  have e3 : (fun p : DoorM => [p.name, p.a, p.b].all nameB) = door_name := rfl
  have e4 : (fun r : RouteM => (r.name :: r.stops).all nameB) = route_name := rfl
  have e5 : (fun p : TripM => [p.name, p.route].all nameB) = trip_name := rfl
  have e6 : (fun p : HazM => [p.name, p.at_].all nameB) = haz_name := rfl
  unfold namedM namesL
  simp only [List.all_append, List.all_flatMap]
  rw [e2, e3, e4, e5, e6]
  simp only [Bool.and_assoc]
theorem ranged_eq (x : SheetM) : rangedM x = (numsL x).all tickB := by
  have e2 : (fun p : PathM => [p.len].all tickB) = path_tick := rfl
  have e3 : (fun p : DoorM => [p.len, p.times.frm, p.times.every, p.times.len].all tickB) = door_tick := rfl
  have e4 : (fun r : RouteM => r.rides.all tickB && r.stays.all tickB) = route_tick := rfl
  have e5 : (fun p : TripM => [p.frm, p.every, p.til].all tickB) = trip_tick := rfl
  have e6 : (fun p : HazM => [p.times.frm, p.times.every, p.times.len].all tickB) = haz_tick := rfl
  unfold rangedM numsL
  simp only [List.all_append, List.all_flatMap]
  rw [e2, e3, e4, e5, e6]
  simp only [Bool.and_assoc]
theorem check_light {x : SheetM} (h : Lt x) : checkM x = if (namesL x).all nameB then if (numsL x).all tickB then if x.routes.all route_count then 0 else 2 else 9 else 7 := by
  have h1 : crowdedM x = false := by
    have := h.l1; have := h.l2; have := h.l3; have := h.l4; have := h.l5; have := h.l6
    simp [crowdedM]; omega
  rw [checkM, h1, named_eq, ranged_eq]
  rfl
set_option maxRecDepth 100000 in
set_option maxHeartbeats 4000000 in
theorem refcheck_any (x : SheetM) (p : ShA) (w : World) (h : Sh w (· < w.heap.size) x p) (hx : Lt x) : Calls Tryz.prog 25 #[shV x p] w (fun e w' => e = .returned (.int .i64 (checkM x)) ∧ Below w.heap.size w w') := by
  rw [check_light hx]
  have HNA := Lib.hid (fun w' (hb : Below w.heap.size w w') => refnames_any x p w' (h.later hb) hx)
  have HNU := Lib.hid (fun w' (hb : Below w.heap.size w w') => refnumbers_any x p w' (h.later hb) hx)
  obtain ⟨cr, r4, r4'⟩ := h.r4
  have b1 := hx.l1
  have b2 := hx.l2
  have b3 := hx.l3
  have b4 := hx.l4
  have b5 := hx.l5
  have b6 := hx.l6
  clear h hx
  generalize hL1 : namesL x = NL at HNA ⊢
  generalize hL2 : numsL x = UL at HNU ⊢
  clear hL1 hL2
  obtain ⟨hz, st, pa, dos, ro, tr, ha⟩ := x
  obtain ⟨a1, a2, a3, a4, a5, a6, c1, c2, c3, c4, c5, c6⟩ := p
  dsimp only [shV] at HNA HNU b1 b2 b3 b4 b5 b6 r4 r4' ⊢
  have H4 := Lib.hid r4
  have H4' := Lib.hid r4'
  clear r4 r4'
  obtain ⟨n4, hn4⟩ : ∃ n, n = ro.length := ⟨_, rfl⟩
  rw [← hn4] at HNA HNU b4 ⊢
  have HN4 := Lib.hid hn4
  clear hn4
  generalize st.length = n1 at *
  generalize pa.length = n2 at *
  generalize dos.length = n3 at *
  generalize tr.length = n5 at *
  generalize ha.length = n6 at *
  have g1 : ¬ (256 : Int) < (n1 : Int) := by omega
  have g2 : ¬ (1024 : Int) < (n2 : Int) := by omega
  have g3 : ¬ (256 : Int) < (n3 : Int) := by omega
  have g4 : ¬ (256 : Int) < (n4 : Int) := by omega
  have g5 : ¬ (1024 : Int) < (n5 : Int) := by omega
  have g6 : ¬ (256 : Int) < (n6 : Int) := by omega
  obtain ⟨R, hR⟩ : ∃ R : Int, R = (if NL.all nameB then if UL.all tickB then if ro.all route_count then 0 else 2 else 9 else 7) := ⟨_, rfl⟩
  rw [← hR]
  have HRR := Lib.hid hR
  clear hR
  go_enter Tryz.func25, Tryz.ntmps25
  go_wp2_with (first
    | (go_at_call 53; (with_reducible refine (HNA.out _ (one_box _ _)).mono ?_); rintro e w1 ⟨A, c, n, rfl, hn, hnl, hrd, hb⟩; have HB1 := Lib.hid (keep_trans (one_box w _) hb); have HK1 := Lib.hid ((Blk.new w 29 [.int .i64 hz, .slice a1 n1 c1, .slice a2 n2 c2, .slice a3 n3 c3, .slice a4 n4 c4, .slice a5 n5 c5, .slice a6 n6 c6]).after hb); have k0 : w1.cell? ⟨w.heap.size, 0, none⟩ = some (.int .i64 hz) := HK1.out.cell 0; clear hb)
    | fail)
  go_loopw [4] (fun v wr => ∃ i : Nat, v = .int .i64 i ∧ i ≤ n ∧ Hid ((NL.take i).all nameB = true) ∧ Hid (Below w1.heap.size w1 wr)) (fun v _ => n - (intOf v).toNat)
  case atStart => exact ⟨0, rfl, by omega, Lib.hid (by simp), Lib.hid (Below.refl _ _)⟩
  case round =>
    obtain ⟨i, rfl, hi, HT, HB⟩ := hrel
    by_cases hlt : i < n
    · have hi1 : (i : Int) < (n : Int) := by omega
      obtain ⟨a, ha'⟩ := at_in (k := i) NL hnl hlt
      obtain ⟨ad, rfl, hS, x0, -⟩ := rd_at 1 (fun _ => rfl) (by omega) (rd_later hrd.out HB.out) ha'
      have x1 : wr.cell? (ad.add (i * 1)) = some (.string ⟨a.toArray⟩) := x0
      rw [Nat.mul_one] at x1
      have LR : Hid (∀ w', Calls Tryz.prog 54 #[.string ⟨a.toArray⟩] w' (BPost w' (nameB a))) := Lib.hid (fun w' => by have := refname_any ⟨a.toArray⟩ w'; simpa using this)
      cases hq : nameB a with
      | true =>
        rw [hq] at LR
        have HT2 := Lib.hid (all_take ha' HT.out hq)
        clear ha' hq x0
        go_wp2_with (first | (go_at_call 54; (with_reducible refine (LR.out _).mono ?_); rintro e w4 ⟨rfl, hb⟩; have Q := Lib.hid hb; clear hb) | fail)
        go_roundw
        case rel => exact ⟨i + 1, by go_num, by omega, HT2, Lib.hid (keep_trans HB.out Q.out)⟩
        case measure => simp [intOf]; omega
      | false =>
        rw [hq] at LR
        have HNO := Lib.hid (all_no ha' hq)
        clear ha' hq x0
        go_wp2_with (first | (go_at_call 54; (with_reducible refine (LR.out _).mono ?_); rintro e w4 ⟨rfl, hb⟩; have Q := Lib.hid hb; clear hb) | fail)
        go_ret
        exact ⟨by rw [HRR.out, HNO.out]; rfl, keep_trans HB1.out (keep_trans HB.out Q.out)⟩
    · have hi1 : ¬ (i : Int) < (n : Int) := by omega
      have HA := Lib.hid (all_full HT.out (by rw [← hnl.out]; omega))
      have HB2 := Lib.hid (keep_trans HB1.out HB.out)
      have HK2 := Lib.hid (HK1.out.after HB.out)
      have j0 : wr.cell? ⟨w.heap.size, 0, none⟩ = some (.int .i64 hz) := HK2.out.cell 0
      have j1 : wr.cell? ⟨w.heap.size, 1, none⟩ = some (.slice a1 n1 c1) := HK2.out.cell 1
      have j2 : wr.cell? ⟨w.heap.size, 2, none⟩ = some (.slice a2 n2 c2) := HK2.out.cell 2
      have j3 : wr.cell? ⟨w.heap.size, 3, none⟩ = some (.slice a3 n3 c3) := HK2.out.cell 3
      have j4 : wr.cell? ⟨w.heap.size, 4, none⟩ = some (.slice a4 n4 c4) := HK2.out.cell 4
      have j5 : wr.cell? ⟨w.heap.size, 5, none⟩ = some (.slice a5 n5 c5) := HK2.out.cell 5
      have j6 : wr.cell? ⟨w.heap.size, 6, none⟩ = some (.slice a6 n6 c6) := HK2.out.cell 6
      clear HT HB HB1 HK1 hrd hlt hi
      go_wp2_with (first
        | (go_at_call 55; (with_reducible refine (HNU.out _ HB2.out).mono ?_); rintro e w5 ⟨A5, c5', m, rfl, hm, hml, hrd5, hb⟩; have HB5 := Lib.hid (keep_trans HB2.out hb); have HK5 := Lib.hid (HK2.out.after hb); clear hb)
        | fail)
      go_loopw [6] (fun v wr => ∃ i : Nat, v = .int .i64 i ∧ i ≤ m ∧ Hid ((UL.take i).all tickB = true) ∧ Hid (Below w5.heap.size w5 wr)) (fun v _ => m - (intOf v).toNat)
      case atStart => exact ⟨0, rfl, by omega, Lib.hid (by simp), Lib.hid (Below.refl _ _)⟩
      case round =>
        obtain ⟨i, rfl, hi, HT, HB⟩ := hrel
        by_cases hlt : i < m
        · have hi1 : (i : Int) < (m : Int) := by omega
          obtain ⟨a, ha'⟩ := at_in (k := i) UL hml hlt
          obtain ⟨ad, rfl, hS, x0, -⟩ := rd_at 1 (fun _ => rfl) (by omega) (rd_later hrd5.out HB.out) ha'
          have x1 : wr.cell? (ad.add (i * 1)) = some (.int .i64 a) := x0
          rw [Nat.mul_one] at x1
          have LR := Lib.hid (fun w' => refcheck_tick a w')
          cases hq : tickB a with
          | true =>
            rw [hq, if_pos rfl] at LR
            have HT2 := Lib.hid (all_take ha' HT.out hq)
            clear ha' hq x0
            go_wp2_with (first | (go_at_call 56; (with_reducible refine (LR.out _).mono ?_); rintro e w4 ⟨rfl, rfl⟩) | fail)
            go_roundw
            case rel => exact ⟨i + 1, by go_num, by omega, HT2, HB⟩
            case measure => simp [intOf]; omega
          | false =>
            rw [hq, if_neg (by decide)] at LR
            have HNO := Lib.hid (all_no ha' hq)
            clear ha' hq x0
            go_wp2_with (first | (go_at_call 56; (with_reducible refine (LR.out _).mono ?_); rintro e w4 ⟨rfl, rfl⟩) | fail)
            go_ret
            exact ⟨by rw [HRR.out, HA.out, HNO.out]; rfl, keep_trans HB5.out HB.out⟩
        · have hi1 : ¬ (i : Int) < (m : Int) := by omega
          have HA2 := Lib.hid (all_full HT.out (by rw [← hml.out]; omega))
          have HB6 := Lib.hid (keep_trans HB5.out HB.out)
          have HK6 := Lib.hid (HK5.out.after HB.out)
          clear HT HB HB5 HK5 hrd5 hlt hi j0 j1 j2 j3 j4 j5 j6
          go_wp2
          have HZ0 := Lib.hid (Below.refl w.heap.size wr)
          go_loopw [7] (fun v wr => ∃ i : Nat, v = .int .i64 i ∧ i ≤ n4 ∧ Hid ((ro.take i).all route_count = true) ∧ Hid (Below w.heap.size w wr) ∧ Hid (Blk wr w.heap.size 29 [.int .i64 hz, .slice a1 n1 c1, .slice a2 n2 c2, .slice a3 n3 c3, .slice a4 n4 c4, .slice a5 n5 c5, .slice a6 n6 c6])) (fun v _ => n4 - (intOf v).toNat)
          case atStart => exact ⟨0, rfl, by omega, Lib.hid (by simp), HB6, HK6⟩
          case round =>
            obtain ⟨i, rfl, hi, HT, HB, HK⟩ := hrel
            by_cases hlt : i < n4
            · have hi1 : (i : Int) < (n4 : Int) := by omega
              obtain ⟨a, ha'⟩ := at_in (k := i) ro HN4 hlt
              obtain ⟨ad, rfl, hS, sa, sc, ra, rc, ya, yc, x0, x1, x2, x3, hg⟩ := rts_at (rd_later H4.out HB.out) (H4'.out.later HB.out) ha'
              have kk : wr.cell? ⟨w.heap.size, 4, none⟩ = some (.slice (some ad) n4 c4) := HK.out.cell 4
              have hcount : route_count a = (decide (2 ≤ a.stops.length) && (decide (a.stops.length ≤ 32) && (decide (a.rides.length + 1 = a.stops.length) && decide (a.stays.length + 2 = a.stops.length)))) := rfl
              have HT2 : Hid (route_count a = true → (ro.take (i + 1)).all route_count = true) := Lib.hid (fun hq => all_take ha' HT.out hq)
              have HNO : Hid (route_count a = false → ro.all route_count = false) := Lib.hid (fun hq => all_no ha' hq)
              have HCO := Lib.hid hcount
              clear ha' hg hcount
              generalize a.stops.length = m1 at *
              generalize a.rides.length = m2 at *
              generalize a.stays.length = m3 at *
              by_cases hq : 2 ≤ m1 ∧ m1 ≤ 32 ∧ m2 + 1 = m1 ∧ m3 + 2 = m1
              · have HT3 := HT2.out (by rw [HCO.out]; simp; omega)
                have e1 : ¬ (m1 : Int) < 2 := by omega
                have e2 : ¬ (32 : Int) < (m1 : Int) := by omega
                have e3 : (m2 : Int) = (m1 : Int) - 1 := by omega
                have e4 : (m3 : Int) = (m1 : Int) - 2 := by omega
                have HT4 := Lib.hid HT3
                clear HT2 HNO HCO hq HT3
                go_wp2
                go_roundw
                case rel => exact ⟨i + 1, by go_num, by omega, HT4, Lib.hid (HB.out.alloc HB.out.size _), Lib.hid (HK.out.alloc _)⟩
                case measure => simp [intOf]; omega
              · have hcf : route_count a = false := by
                  rw [HCO.out]
                  simp only [Bool.and_eq_false_iff, decide_eq_false_iff_not]
                  omega
                have HNO2 := Lib.hid (HNO.out hcf)
                clear HT2 HNO HCO hcf
                by_cases q1 : m1 < 2
                · have e1 : (m1 : Int) < 2 := by omega
                  go_wp2
                  go_ret
                  exact ⟨by rw [HRR.out, HA.out, HA2.out, HNO2.out]; rfl, HB.out.alloc HB.out.size _⟩
                · have e1 : ¬ (m1 : Int) < 2 := by omega
                  by_cases q2 : 32 < m1
                  · have e2 : (32 : Int) < (m1 : Int) := by omega
                    go_wp2
                    go_ret
                    exact ⟨by rw [HRR.out, HA.out, HA2.out, HNO2.out]; rfl, HB.out.alloc HB.out.size _⟩
                  · have e2 : ¬ (32 : Int) < (m1 : Int) := by omega
                    by_cases q3 : m2 + 1 = m1
                    · have e3 : (m2 : Int) = (m1 : Int) - 1 := by omega
                      have e4 : ¬ (m3 : Int) = (m1 : Int) - 2 := by omega
                      go_wp2
                      go_ret
                      exact ⟨by rw [HRR.out, HA.out, HA2.out, HNO2.out]; rfl, HB.out.alloc HB.out.size _⟩
                    · have e3 : ¬ (m2 : Int) = (m1 : Int) - 1 := by omega
                      go_wp2
                      go_ret
                      exact ⟨by rw [HRR.out, HA.out, HA2.out, HNO2.out]; rfl, HB.out.alloc HB.out.size _⟩
            · have hi1 : ¬ (i : Int) < (n4 : Int) := by omega
              have kk : wr.cell? ⟨w.heap.size, 4, none⟩ = some (.slice a4 n4 c4) := HK.out.cell 4
              have HA3 := Lib.hid (all_full HT.out (by rw [← HN4.out]; omega))
              go_wp2
              go_ret
              exact ⟨by rw [HRR.out, HA.out, HA2.out, HA3.out]; rfl, HB.out⟩
end Go.Proofs.YtcmlmfcnbmpajaaGreatDoor.Sh

