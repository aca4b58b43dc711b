/- The document's line of a route, proved by walking its text. -/
import Derived.Test.YtcmlmfcnbmpajaaGreatDoorRefLine
import Derived.Test.YtcmlmfcnbmpajaaGreatDoorShowRoute
namespace Go.Proofs.YtcmlmfcnbmpajaaGreatDoor.Sw
open Go.ChangeShapes Go.WideShapes Go.ChangeAt Go.RowKit
open Lx Sh Tk
set_option linter.unusedVariables false
set_option linter.unusedSimpArgs false
set_option maxRecDepth 100000

theorem preW_more (r : RouteM) (k : Nat) : preW r (k + 1) = preW r k ++ (legW r k).flatMap (fun s => 32 :: s) := by
  rw [preW_succ, joinW_some (preW_ne r k)]
theorem leg_len {r : RouteM} (h : RtS r) (k : Nat) : ((legW r k).flatMap (fun s => 32 :: s)).length ≤ 1048700 := by
  have hs : (r.stops.getD k []).length ≤ 1048576 := by
    by_cases hk : k < r.stops.length
    · rw [List.getD_eq_getElem?_getD, List.getElem?_eq_getElem hk]
      exact h.2.1 _ (List.getElem_mem hk)
    · rw [List.getD_eq_getElem?_getD, List.getElem?_eq_none (by omega)]
      simp
  have h1 : ((rideW r k).flatMap (fun s => 32 :: s)).length ≤ 22 := by
    rcases k with _ | j
    · simp [rideW]
    · simp only [rideW]
      cases hd : r.rides[j]? with
      | none => simp
      | some d =>
        have := ritoa_le (h.2.2.1 d (List.mem_of_getElem? hd))
        simp
        omega
  have h2 : ((stayW r k).flatMap (fun s => 32 :: s)).length ≤ 30 := by
    rcases k with _ | j
    · simp [stayW]
    · simp only [stayW]
      cases hd : r.stays[j]? with
      | none => simp
      | some d =>
        have := ritoa_le (h.2.2.2 d (List.mem_of_getElem? hd))
        by_cases hp : 0 < d
        · simp [hp, kStay]
          omega
        · simp [hp]
  simp only [legW, List.flatMap_append, List.flatMap_cons, List.length_append, List.length_cons]
  omega
theorem pre_len {r : RouteM} (h : RtS r) (k : Nat) : (preW r k).length ≤ 1048600 + 1048700 * k := by
  induction k with
  | zero =>
    have h0 : r.name.length ≤ 1048576 := h.1
    rw [preW_zero, joinW_first _ (by decide)]
    simp [kRoute]
    omega
  | succ k ih =>
    have := leg_len h k
    rw [preW_more, List.length_append]
    omega
set_option maxHeartbeats 32000000 in
theorem rroute_any (r : RouteM) (sa ra ya : Option Addr) (sc rc yc : Nat) (w : World) (h : RtAt w (· < w.heap.size) r sa ra ya) (hf : Few r) (hS : RtS r) :
    Calls Tryz.prog 20 #[rtV r sa ra ya sc rc yc] w (TextPost w (routeX r)) := by
  have HA := Lib.hid h
  have HRI := Lib.hid hS.2.2.1
  have HYI := Lib.hid hS.2.2.2
  have HSL := Lib.hid hS.2.1
  have HNL : r.name.length ≤ 1048576 := hS.1
  obtain ⟨f1, f2, f3⟩ := hf
  obtain ⟨ns, hns⟩ : ∃ n, n = r.stops.length := ⟨_, rfl⟩
  obtain ⟨nr, hnr⟩ : ∃ n, n = r.rides.length := ⟨_, rfl⟩
  obtain ⟨ny, hny⟩ : ∃ n, n = r.stays.length := ⟨_, rfl⟩
  have HNS := Lib.hid hns
  have HNR := Lib.hid hnr
  have HNY := Lib.hid hny
  have HX : Hid (routeX r = preW r ns) := Lib.hid (by rw [hns]; rfl)
  have HLE : Hid (∀ k, (preW r k).length ≤ 1048600 + 1048700 * k) := Lib.hid (pre_len hS)
  have HP0 : Hid (preW r 0 = [114, 111, 117, 116, 101, 32] ++ r.name) := Lib.hid (by rw [preW_zero, joinW_first _ (by decide)]; simp [kRoute])
  have HPS : Hid (∀ k, preW r (k + 1) = preW r k ++ (rideW r k ++ r.stops.getD k [] :: stayW r k).flatMap (fun s => 32 :: s)) := Lib.hid (preW_more r)
  show Calls _ _ #[.agg #[.string ⟨r.name.toArray⟩, .slice sa r.stops.length sc, .slice ra r.rides.length rc, .slice ya r.stays.length yc]] _ _
  rw [← hns, ← hnr, ← hny]
  rw [← hns] at f1
  rw [← hnr] at f2
  rw [← hny] at f3
  obtain ⟨nm, hnm⟩ : ∃ nm, nm = r.name := ⟨_, rfl⟩
  rw [← hnm] at HP0 HNL ⊢
  have g0 : ¬ 9223372036854775807 < 6 + nm.length := by omega
  clear h hS hns hnr hny hnm
  go_enter Tryz.func20, Tryz.ntmps20
  go_upto_region 1 with (fail)
  obtain ⟨W, hW⟩ : ∃ W, W = w.alloc (.cells #[.string ⟨nm.toArray⟩, .slice sa ns sc, .slice ra nr rc, .slice ya ny yc] 38) := ⟨_, rfl⟩
  have HW0 : Hid (Below w.heap.size w W) := Lib.hid (by rw [hW]; exact one_box _ _)
  have K0 : Hid (Blk W w.heap.size 38 [.string ⟨nm.toArray⟩, .slice sa ns sc, .slice ra nr rc, .slice ya ny yc]) := Lib.hid (by rw [hW]; exact Blk.new w _ _)
  rw [← hW]
  clear hW
  have x0 : W.cell? ⟨w.heap.size, 0, none⟩ = some (.string ⟨nm.toArray⟩) := K0.out.cell 0
  have HBR : Hid (∀ w', Below W.heap.size W w' → Below w.heap.size w w') := Lib.hid (fun w' hc => keep_trans HW0.out hc)
  have KB : Hid (∀ w', Below W.heap.size W w' → w'.cell? ⟨w.heap.size, 1, none⟩ = some (.slice sa ns sc) ∧ w'.cell? ⟨w.heap.size, 2, none⟩ = some (.slice ra nr rc) ∧ w'.cell? ⟨w.heap.size, 3, none⟩ = some (.slice ya ny yc)) :=
    Lib.hid (fun w' hc => by have a := K0.out.after hc; exact ⟨a.cell 1, a.cell 2, a.cell 3⟩)
  have HCW : Hid (Below W.heap.size W W) := Lib.hid (Below.refl _ _)
  clear K0 HW0
  go_wp2
  go_loopw [3, 4] (fun v3 v4 wr => ∃ k : Nat, v3 = .string ⟨(preW r k).toArray⟩ ∧ v4 = .int .i64 (k : Int) ∧ k ≤ ns ∧ Hid (Below W.heap.size W wr)) (fun _ v _ => ns - (intOf v).toNat)
  case atStart => exact ⟨0, congrArg Value.string (bytes_eq (by rw [HP0.out]; simp)), rfl, by omega, HCW⟩
  case round =>
    obtain ⟨k, rfl, rfl, hk, HC0⟩ := hrel
    by_cases hlt : k < ns
    · obtain ⟨s, hs⟩ := at_in (k := k) r.stops HNS hlt
      have hsl : s.length ≤ 1048576 := HSL.out s (List.mem_of_getElem? hs)
      obtain ⟨sd, hsd, hsS, y0, -⟩ := rd_at 1 (fun _ => rfl) (by omega) (rd_later HA.out.hs (HBR.out _ HC0.out)) hs
      subst hsd
      have KS : Hid (∀ w', Below W.heap.size W w' → w'.cell? (sd.add k) = some (.string ⟨s.toArray⟩)) := Lib.hid (fun w' hc => by
        obtain ⟨ad, e, -, h0, -⟩ := rd_at 1 (fun _ => rfl) (by omega) (rd_later HA.out.hs (HBR.out _ hc)) hs
        cases e
        rw [Nat.mul_one] at h0
        exact h0)
      have y1 := KS.out _ HC0.out
      have hpk := HPS.out k
      rw [getD_of' hs] at hpk
      have hln := HLE.out k
      have hlb : (preW r k).length ≤ 1100000000000 := by omega
      obtain ⟨b1, b2, b3⟩ := KB.out _ HC0.out
      clear y0 hs hln
      have hi : (k : Int) < (ns : Int) := by omega
      rcases k with _ | j
      · rw [show ((0 : Nat) : Int) = 0 from rfl] at hi ⊢
        have ea : sd.add 0 = sd := by unfold Addr.add; rw [if_pos rfl]
        rw [ea] at y1
        clear ea
        have HF : Hid (preW r (0 + 1) = preW r 0 ++ 32 :: s) := Lib.hid (by rw [hpk]; simp [rideW, stayW])
        clear hpk
        generalize preW r 0 = T at *
        have g1 : ¬ 9223372036854775807 < T.length + 1 := by omega
        have g2 : ¬ 9223372036854775807 < T.length + 1 + s.length := by omega
        go_wp2
        go_roundw
        case rel => exact ⟨0 + 1, congrArg Value.string (bytes_eq (by rw [HF.out]; simp)), by go_num, by omega, HC0⟩
        case measure => simp [intOf]; omega
      · have ej : ((j + 1 : Nat) : Int) = (j : Int) + 1 := by omega
        have hlt2 : j + 1 < ns := hlt
        rw [ej] at hi ⊢
        clear ej
        have i0 : (0 : Int) < (j : Int) + 1 := by omega
        have ea : sd.add (j + 1) = ⟨sd.block, sd.off + (j + 1), none⟩ := by unfold Addr.add; rw [if_neg (by omega)]
        rw [ea] at y1 KS
        clear ea
        by_cases hjr : j < nr
        · obtain ⟨d, hd⟩ := at_in (k := j) r.rides HNR hjr
          have hd' := hd
          obtain ⟨rd, hrd, -, -, -⟩ := rd_at 1 (fun _ => rfl) (by omega) HA.out.hr hd
          subst hrd
          have hjr1 : (j : Int) < (nr : Int) := by omega
          by_cases hjy : j < ny
          · obtain ⟨y, hy⟩ := at_in (k := j) r.stays HNY hjy
            have hy' := hy
            obtain ⟨yd, hyd, -, -, -⟩ := rd_at 1 (fun _ => rfl) (by omega) HA.out.hy hy
            subst hyd
            have hjy1 : (j : Int) < (ny : Int) := by omega
            by_cases hpos : 0 < y
            · have hp1 : (0 : Int) < y := hpos
              have HF : Hid (preW r (j + 1 + 1) = preW r (j + 1) ++ ((32 :: Lib.itoa d) ++ (32 :: s) ++ (32 :: kStay) ++ (32 :: Lib.itoa y))) := Lib.hid (by
                rw [hpk]
                simp only [rideW, stayW, hd', hy']
                rw [if_pos hpos]; simp)
              have KC : Hid (∀ w', Below W.heap.size W w' → w'.cell? ⟨w.heap.size, 1, none⟩ = some (.slice (some sd) ns sc) ∧ w'.cell? ⟨w.heap.size, 2, none⟩ = some (.slice (some rd) nr rc) ∧ w'.cell? ⟨w.heap.size, 3, none⟩ = some (.slice (some yd) ny yc) ∧ w'.cell? ⟨sd.block, sd.off + (j + 1), none⟩ = some (.string ⟨s.toArray⟩) ∧ w'.cell? (rd.add j) = some (.int .i64 d) ∧ w'.cell? (yd.add j) = some (.int .i64 y)) := Lib.hid (fun w' hc => by have x := KB.out w' hc; exact ⟨x.1, x.2.1, x.2.2, KS.out w' hc, cell_row (rd_later HA.out.hr (HBR.out _ hc)) hd, cell_row (rd_later HA.out.hy (HBR.out _ hc)) hy⟩)
              clear b1 b2 b3 y1
              obtain ⟨b1, b2, b3, b4, b5, b6⟩ := KC.out _ HC0.out
              have CR := Lib.hid (fun w' => rnum_any d (HRI.out d (List.mem_of_getElem? hd)) w')
              have qd := ritoa_le (HRI.out d (List.mem_of_getElem? hd))
              have CY := Lib.hid (fun w' => rnum_any y (HYI.out y (List.mem_of_getElem? hy)) w')
              have qy := ritoa_le (HYI.out y (List.mem_of_getElem? hy))
              clear hpk
              clear hd hd'
              clear hy hy'
              generalize preW r (j + 1) = T at *
              generalize Lib.itoa d = D at *
              generalize Lib.itoa y = Y at *
              have g1 : ¬ 9223372036854775807 < T.length + 1 := by omega
              have g2 : ¬ 9223372036854775807 < T.length + 1 + D.length := by omega
              have g3 : ¬ 9223372036854775807 < T.length + 1 + D.length + 1 := by omega
              have g4 : ¬ 9223372036854775807 < T.length + 1 + D.length + 1 + s.length := by omega
              have g5 : ¬ 9223372036854775807 < T.length + 1 + D.length + 1 + s.length + 6 := by omega
              have g6 : ¬ 9223372036854775807 < T.length + 1 + D.length + 1 + s.length + 6 + Y.length := by omega
              go_wp2_with (first
                | (go_at_call 47; (with_reducible refine (CY.out _).mono ?_); rintro e' w2 ⟨rfl, hb⟩; have Q2 : Hid (Below W.heap.size W w2) := Lib.hid (keep_trans Q1.out hb); clear hb; obtain ⟨b1, b2, b3, b4, b5, b6⟩ := KC.out _ Q2.out)
                | (go_at_call 47; (with_reducible refine (CR.out _).mono ?_); rintro e' w1 ⟨rfl, hb⟩; have Q1 : Hid (Below W.heap.size W w1) := Lib.hid (keep_trans HC0.out hb); clear hb; obtain ⟨b1, b2, b3, b4, b5, b6⟩ := KC.out _ Q1.out)
                | fail)
              go_roundw
              case rel => exact ⟨j + 1 + 1, congrArg Value.string (bytes_eq (by rw [HF.out]; simp [kStay])), by go_num, by omega, Q2⟩
              case measure => simp [intOf]; omega
            · have hp1 : ¬ (0 : Int) < y := hpos
              have HF : Hid (preW r (j + 1 + 1) = preW r (j + 1) ++ ((32 :: Lib.itoa d) ++ (32 :: s))) := Lib.hid (by
                rw [hpk]
                simp only [rideW, stayW, hd', hy']
                rw [if_neg hpos]; simp)
              have KC : Hid (∀ w', Below W.heap.size W w' → w'.cell? ⟨w.heap.size, 1, none⟩ = some (.slice (some sd) ns sc) ∧ w'.cell? ⟨w.heap.size, 2, none⟩ = some (.slice (some rd) nr rc) ∧ w'.cell? ⟨w.heap.size, 3, none⟩ = some (.slice (some yd) ny yc) ∧ w'.cell? ⟨sd.block, sd.off + (j + 1), none⟩ = some (.string ⟨s.toArray⟩) ∧ w'.cell? (rd.add j) = some (.int .i64 d) ∧ w'.cell? (yd.add j) = some (.int .i64 y)) := Lib.hid (fun w' hc => by have x := KB.out w' hc; exact ⟨x.1, x.2.1, x.2.2, KS.out w' hc, cell_row (rd_later HA.out.hr (HBR.out _ hc)) hd, cell_row (rd_later HA.out.hy (HBR.out _ hc)) hy⟩)
              clear b1 b2 b3 y1
              obtain ⟨b1, b2, b3, b4, b5, b6⟩ := KC.out _ HC0.out
              have CR := Lib.hid (fun w' => rnum_any d (HRI.out d (List.mem_of_getElem? hd)) w')
              have qd := ritoa_le (HRI.out d (List.mem_of_getElem? hd))
              clear hpk
              clear hd hd'
              clear hy hy'
              generalize preW r (j + 1) = T at *
              generalize Lib.itoa d = D at *
              have g1 : ¬ 9223372036854775807 < T.length + 1 := by omega
              have g2 : ¬ 9223372036854775807 < T.length + 1 + D.length := by omega
              have g3 : ¬ 9223372036854775807 < T.length + 1 + D.length + 1 := by omega
              have g4 : ¬ 9223372036854775807 < T.length + 1 + D.length + 1 + s.length := by omega
              go_wp2_with (first
                | (go_at_call 47; (with_reducible refine (CR.out _).mono ?_); rintro e' w1 ⟨rfl, hb⟩; have Q1 : Hid (Below W.heap.size W w1) := Lib.hid (keep_trans HC0.out hb); clear hb; obtain ⟨b1, b2, b3, b4, b5, b6⟩ := KC.out _ Q1.out)
                | fail)
              go_roundw
              case rel => exact ⟨j + 1 + 1, congrArg Value.string (bytes_eq (by rw [HF.out]; simp)), by go_num, by omega, Q1⟩
              case measure => simp [intOf]; omega
          · have hy0 : r.stays[j]? = none := List.getElem?_eq_none (by rw [← HNY.out]; omega)
            have hjy1 : ¬ (j : Int) < (ny : Int) := by omega
            have HF : Hid (preW r (j + 1 + 1) = preW r (j + 1) ++ ((32 :: Lib.itoa d) ++ (32 :: s))) := Lib.hid (by
              rw [hpk]
              simp only [rideW, stayW, hd', hy0]
              simp)
            have KC : Hid (∀ w', Below W.heap.size W w' → w'.cell? ⟨w.heap.size, 1, none⟩ = some (.slice (some sd) ns sc) ∧ w'.cell? ⟨w.heap.size, 2, none⟩ = some (.slice (some rd) nr rc) ∧ w'.cell? ⟨w.heap.size, 3, none⟩ = some (.slice ya ny yc) ∧ w'.cell? ⟨sd.block, sd.off + (j + 1), none⟩ = some (.string ⟨s.toArray⟩) ∧ w'.cell? (rd.add j) = some (.int .i64 d)) := Lib.hid (fun w' hc => by have x := KB.out w' hc; exact ⟨x.1, x.2.1, x.2.2, KS.out w' hc, cell_row (rd_later HA.out.hr (HBR.out _ hc)) hd⟩)
            clear b1 b2 b3 y1
            obtain ⟨b1, b2, b3, b4, b5⟩ := KC.out _ HC0.out
            have CR := Lib.hid (fun w' => rnum_any d (HRI.out d (List.mem_of_getElem? hd)) w')
            have qd := ritoa_le (HRI.out d (List.mem_of_getElem? hd))
            clear hpk
            clear hd hd'
            clear hy0
            generalize preW r (j + 1) = T at *
            generalize Lib.itoa d = D at *
            have g1 : ¬ 9223372036854775807 < T.length + 1 := by omega
            have g2 : ¬ 9223372036854775807 < T.length + 1 + D.length := by omega
            have g3 : ¬ 9223372036854775807 < T.length + 1 + D.length + 1 := by omega
            have g4 : ¬ 9223372036854775807 < T.length + 1 + D.length + 1 + s.length := by omega
            go_wp2_with (first
              | (go_at_call 47; (with_reducible refine (CR.out _).mono ?_); rintro e' w1 ⟨rfl, hb⟩; have Q1 : Hid (Below W.heap.size W w1) := Lib.hid (keep_trans HC0.out hb); clear hb; obtain ⟨b1, b2, b3, b4, b5⟩ := KC.out _ Q1.out)
              | fail)
            go_roundw
            case rel => exact ⟨j + 1 + 1, congrArg Value.string (bytes_eq (by rw [HF.out]; simp)), by go_num, by omega, Q1⟩
            case measure => simp [intOf]; omega
        · have hr0 : r.rides[j]? = none := List.getElem?_eq_none (by rw [← HNR.out]; omega)
          have hjr1 : ¬ (j : Int) < (nr : Int) := by omega
          by_cases hjy : j < ny
          · obtain ⟨y, hy⟩ := at_in (k := j) r.stays HNY hjy
            have hy' := hy
            obtain ⟨yd, hyd, -, -, -⟩ := rd_at 1 (fun _ => rfl) (by omega) HA.out.hy hy
            subst hyd
            have hjy1 : (j : Int) < (ny : Int) := by omega
            by_cases hpos : 0 < y
            · have hp1 : (0 : Int) < y := hpos
              have HF : Hid (preW r (j + 1 + 1) = preW r (j + 1) ++ ((32 :: s) ++ (32 :: kStay) ++ (32 :: Lib.itoa y))) := Lib.hid (by
                rw [hpk]
                simp only [rideW, stayW, hr0, hy']
                rw [if_pos hpos]; simp)
              have KC : Hid (∀ w', Below W.heap.size W w' → w'.cell? ⟨w.heap.size, 1, none⟩ = some (.slice (some sd) ns sc) ∧ w'.cell? ⟨w.heap.size, 2, none⟩ = some (.slice ra nr rc) ∧ w'.cell? ⟨w.heap.size, 3, none⟩ = some (.slice (some yd) ny yc) ∧ w'.cell? ⟨sd.block, sd.off + (j + 1), none⟩ = some (.string ⟨s.toArray⟩) ∧ w'.cell? (yd.add j) = some (.int .i64 y)) := Lib.hid (fun w' hc => by have x := KB.out w' hc; exact ⟨x.1, x.2.1, x.2.2, KS.out w' hc, cell_row (rd_later HA.out.hy (HBR.out _ hc)) hy⟩)
              clear b1 b2 b3 y1
              obtain ⟨b1, b2, b3, b4, b6⟩ := KC.out _ HC0.out
              have CY := Lib.hid (fun w' => rnum_any y (HYI.out y (List.mem_of_getElem? hy)) w')
              have qy := ritoa_le (HYI.out y (List.mem_of_getElem? hy))
              clear hpk
              clear hr0
              clear hy hy'
              generalize preW r (j + 1) = T at *
              generalize Lib.itoa y = Y at *
              have g1 : ¬ 9223372036854775807 < T.length + 1 := by omega
              have g2 : ¬ 9223372036854775807 < T.length + 1 + s.length := by omega
              have g3 : ¬ 9223372036854775807 < T.length + 1 + s.length + 6 := by omega
              have g4 : ¬ 9223372036854775807 < T.length + 1 + s.length + 6 + Y.length := by omega
              go_wp2_with (first
                | (go_at_call 47; (with_reducible refine (CY.out _).mono ?_); rintro e' w2 ⟨rfl, hb⟩; have Q2 : Hid (Below W.heap.size W w2) := Lib.hid (keep_trans HC0.out hb); clear hb; obtain ⟨b1, b2, b3, b4, b6⟩ := KC.out _ Q2.out)
                | fail)
              go_roundw
              case rel => exact ⟨j + 1 + 1, congrArg Value.string (bytes_eq (by rw [HF.out]; simp [kStay])), by go_num, by omega, Q2⟩
              case measure => simp [intOf]; omega
            · have hp1 : ¬ (0 : Int) < y := hpos
              have HF : Hid (preW r (j + 1 + 1) = preW r (j + 1) ++ ((32 :: s))) := Lib.hid (by
                rw [hpk]
                simp only [rideW, stayW, hr0, hy']
                rw [if_neg hpos]; simp)
              have KC : Hid (∀ w', Below W.heap.size W w' → w'.cell? ⟨w.heap.size, 1, none⟩ = some (.slice (some sd) ns sc) ∧ w'.cell? ⟨w.heap.size, 2, none⟩ = some (.slice ra nr rc) ∧ w'.cell? ⟨w.heap.size, 3, none⟩ = some (.slice (some yd) ny yc) ∧ w'.cell? ⟨sd.block, sd.off + (j + 1), none⟩ = some (.string ⟨s.toArray⟩) ∧ w'.cell? (yd.add j) = some (.int .i64 y)) := Lib.hid (fun w' hc => by have x := KB.out w' hc; exact ⟨x.1, x.2.1, x.2.2, KS.out w' hc, cell_row (rd_later HA.out.hy (HBR.out _ hc)) hy⟩)
              clear b1 b2 b3 y1
              obtain ⟨b1, b2, b3, b4, b6⟩ := KC.out _ HC0.out
              clear hpk
              clear hr0
              clear hy hy'
              generalize preW r (j + 1) = T at *
              have g1 : ¬ 9223372036854775807 < T.length + 1 := by omega
              have g2 : ¬ 9223372036854775807 < T.length + 1 + s.length := by omega
              go_wp2
              go_roundw
              case rel => exact ⟨j + 1 + 1, congrArg Value.string (bytes_eq (by rw [HF.out]; simp)), by go_num, by omega, HC0⟩
              case measure => simp [intOf]; omega
          · have hy0 : r.stays[j]? = none := List.getElem?_eq_none (by rw [← HNY.out]; omega)
            have hjy1 : ¬ (j : Int) < (ny : Int) := by omega
            have HF : Hid (preW r (j + 1 + 1) = preW r (j + 1) ++ ((32 :: s))) := Lib.hid (by
              rw [hpk]
              simp only [rideW, stayW, hr0, hy0]
              simp)
            have KC : Hid (∀ w', Below W.heap.size W w' → w'.cell? ⟨w.heap.size, 1, none⟩ = some (.slice (some sd) ns sc) ∧ w'.cell? ⟨w.heap.size, 2, none⟩ = some (.slice ra nr rc) ∧ w'.cell? ⟨w.heap.size, 3, none⟩ = some (.slice ya ny yc) ∧ w'.cell? ⟨sd.block, sd.off + (j + 1), none⟩ = some (.string ⟨s.toArray⟩)) := Lib.hid (fun w' hc => by have x := KB.out w' hc; exact ⟨x.1, x.2.1, x.2.2, KS.out w' hc⟩)
            clear b1 b2 b3 y1
            obtain ⟨b1, b2, b3, b4⟩ := KC.out _ HC0.out
            clear hpk
            clear hr0
            clear hy0
            generalize preW r (j + 1) = T at *
            have g1 : ¬ 9223372036854775807 < T.length + 1 := by omega
            have g2 : ¬ 9223372036854775807 < T.length + 1 + s.length := by omega
            go_wp2
            go_roundw
            case rel => exact ⟨j + 1 + 1, congrArg Value.string (bytes_eq (by rw [HF.out]; simp)), by go_num, by omega, HC0⟩
            case measure => simp [intOf]; omega
    · have hi : ¬ (k : Int) < (ns : Int) := by omega
      obtain rfl : k = ns := by omega
      obtain ⟨b1, b2, b3⟩ := KB.out _ HC0.out
      go_wp2
      go_ret
      exact ⟨ret_str HX.out, HBR.out _ HC0.out⟩
end Go.Proofs.YtcmlmfcnbmpajaaGreatDoor.Sw
