/- The document's lines of a sheet, and its text, proved by walking their text. -/
import Derived.Test.YtcmlmfcnbmpajaaGreatDoorRefRoute
import Derived.Test.YtcmlmfcnbmpajaaGreatDoorShowLines
import Derived.Test.YtcmlmfcnbmpajaaGreatDoorRefCheck
namespace Go.Proofs.YtcmlmfcnbmpajaaGreatDoor.Sw
open Go.ChangeShapes Go.WideShapes Go.ChangeAt Go.RowKit
open Lx Sh Tk
set_option linter.unusedVariables false
set_option linter.unusedSimpArgs false
set_option maxRecDepth 100000

set_option maxHeartbeats 2000000 in
theorem rlines_no (x : SheetM) (p : ShA) (w : World) (h : Sh w (· < w.heap.size) x p) (hl : Lt x) (hc : checkM x ≠ 0) :
    Calls Tryz.prog 13 #[shV x p] w fun e w' => e = .returned (.tuple #[.slice none 0 0, .int .i64 (checkM x)]) ∧ Below w.heap.size w w' := by
  have HC := Lib.hid (fun w' (hb : Below w.heap.size w w') => refcheck_any x p w' (h.later hb) hl)
  have hc2 : ((checkM x : Int) == 0) = false := by simpa using hc
  have hc3 : ((checkM x : Int) != 0) = true := by simpa using hc
  have hc4 : ¬ checkM x = 0 := hc
  clear h hl hc
  generalize checkM x = C at *
  go_enter Tryz.func13, Tryz.ntmps13
  go_wp2_with (go_at_call 25; refine (HC.out _ (one_box _ _)).mono ?_; rintro e w1 ⟨rfl, hb⟩)
  go_ret2
  exact ⟨rfl, keep_trans (one_box _ _) hb⟩
/-- the row of lines so far, where calls have come between -/
theorem rl_alive {w wr w3 w4 : World} {t : TypeId} {l : List Value} {o : Obj} (h1 : Below w.heap.size w wr) (h2 : Blk wr w.heap.size t l) (h4 : Below wr.heap.size wr w3) (h3 : Below (w.heap.size + 1) (w3.alloc o) w4) : Below w.heap.size w w4 ∧ Blk w4 w.heap.size t l :=
  ⟨(keep_trans h1 (keep_trans h4 (one_box _ _))).trans (h3.mono (by omega)), ((h2.after h4).alloc _).below h3 (by omega)⟩
set_option maxHeartbeats 40000000 in
theorem rlines_ok (x : SheetM) (p : ShA) (w : World) (h : Sh w (· < w.heap.size) x p) (hl : Lt x) (hS : ShS x) (hx : checkM x = 0) : Calls Tryz.prog 13 #[shV x p] w (LinesPost w (preX x 7)) := by
  have HC := Lib.hid (fun w' (hb : Below w.heap.size w w') => hx ▸ refcheck_any x p w' (h.later hb) hl)
  obtain ⟨cr, r4, r4'⟩ := h.r4
  have b1 := hl.l1
  have b2 := hl.l2
  have b3 := hl.l3
  have b4 := hl.l4
  have b5 := hl.l5
  have b6 := hl.l6
  have HFW := Lib.hid hl.few
  have HPX : Hid (preX x 7 = [horX x.horizon] ++ x.stops.map stopX ++ x.paths.map pathX ++ x.doors.map doorX ++ x.routes.map routeX ++ x.trips.map tripX ++ x.hazards.map hazX) := Lib.hid (by
    simp [preX, List.range, List.range.loop, gX])
  obtain ⟨hz, st, pa, dos, ro, tr, ha⟩ := x
  obtain ⟨a1, a2, a3, a4, a5, a6, c1, c2, c3, c4, c5, c6⟩ := p
  have HX := Lib.hid hS
  have H1 := Lib.hid h.r1
  have H2 := Lib.hid h.r2
  have H3 := Lib.hid h.r3
  have H4 := Lib.hid r4
  have H4' := Lib.hid r4'
  have H5 := Lib.hid h.r5
  have H6 := Lib.hid h.r6
  have C0 := Lib.hid (fun w' => rnum_any hz hS.h w')
  have l0 := ritoa_le hS.h
  have HL0 : Hid ((⟨#[104, 111, 114, 105, 122, 111, 110, 32]⟩ : ByteArray) ++ ⟨(Lib.itoa hz).toArray⟩ = ⟨(horX hz).toArray⟩) := Lib.hid (bytes_eq (by rw [horX, joinW_first _ (by decide)]; simp [kHorizon]))
  dsimp only at l0 b1 b2 b3 b4 b5 b6 HX H1 H2 H3 H4 H4' H5 H6 HPX HFW HC
  clear h r4 r4' hx hS hl
  change Calls _ _ #[.agg #[.int .i64 hz, .slice a1 st.length c1, .slice a2 pa.length c2, .slice a3 dos.length c3, .slice a4 ro.length c4, .slice a5 tr.length c5, .slice a6 ha.length c6]] _ _
  change Hid (∀ w', Below w.heap.size w w' → Calls _ _ #[.agg #[.int .i64 hz, .slice a1 st.length c1, .slice a2 pa.length c2, .slice a3 dos.length c3, .slice a4 ro.length c4, .slice a5 tr.length c5, .slice a6 ha.length c6]] _ _) at HC
  obtain ⟨n1, hn1⟩ : ∃ n, n = st.length := ⟨_, rfl⟩
  rw [← hn1] at b1 HC ⊢
  have HN1 := Lib.hid hn1
  clear hn1
  obtain ⟨n2, hn2⟩ : ∃ n, n = pa.length := ⟨_, rfl⟩
  rw [← hn2] at b2 HC ⊢
  have HN2 := Lib.hid hn2
  clear hn2
  obtain ⟨n3, hn3⟩ : ∃ n, n = dos.length := ⟨_, rfl⟩
  rw [← hn3] at b3 HC ⊢
  have HN3 := Lib.hid hn3
  clear hn3
  obtain ⟨n4, hn4⟩ : ∃ n, n = ro.length := ⟨_, rfl⟩
  rw [← hn4] at b4 HC ⊢
  have HN4 := Lib.hid hn4
  clear hn4
  obtain ⟨n5, hn5⟩ : ∃ n, n = tr.length := ⟨_, rfl⟩
  rw [← hn5] at b5 HC ⊢
  have HN5 := Lib.hid hn5
  clear hn5
  obtain ⟨n6, hn6⟩ : ∃ n, n = ha.length := ⟨_, rfl⟩
  rw [← hn6] at b6 HC ⊢
  have HN6 := Lib.hid hn6
  clear hn6
  have f0 : ¬ 9223372036854775807 < 8 + (Lib.itoa hz).length := by omega
  have HLEN : Hid ((([horX hz] ++ st.map stopX ++ pa.map pathX ++ dos.map doorX ++ ro.map routeX ++ tr.map tripX ++ ha.map hazX)).length = 1 + n1 + n2 + n3 + n4 + n5 + n6) := Lib.hid (by simp [HN1.out, HN2.out, HN3.out, HN4.out, HN5.out, HN6.out]; omega)
  go_enter Tryz.func13, Tryz.ntmps13
  go_wp2_with (first
    | (go_at_call 25; (with_reducible refine (HC.out _ (one_box _ _)).mono ?_); rintro e' w1 ⟨rfl, hb⟩; have Q1 := Lib.hid (keep_trans (one_box _ _) hb); have K1 : Hid (Blk w1 w.heap.size 29 [.int .i64 hz, .slice a1 n1 c1, .slice a2 n2 c2, .slice a3 n3 c3, .slice a4 n4 c4, .slice a5 n5 c5, .slice a6 n6 c6]) := Lib.hid ((Blk.new w 29 [.int .i64 hz, .slice a1 n1 c1, .slice a2 n2 c2, .slice a3 n3 c3, .slice a4 n4 c4, .slice a5 n5 c5, .slice a6 n6 c6]).after hb); clear hb; have kh : w1.cell? ⟨w.heap.size, 0, none⟩ = some (.int .i64 hz) := K1.out.cell 0)
    | (go_at_call 47; (with_reducible refine (C0.out _).mono ?_); rintro e' w2 ⟨rfl, hb⟩; have Q2 := Lib.hid (keep_trans Q1.out hb); have K2 := Lib.hid (K1.out.after hb); clear hb)
    | fail)
  obtain ⟨L1, hL1⟩ : ∃ L, L = [horX hz] := ⟨_, rfl⟩
  obtain ⟨N1, hN1⟩ : ∃ N : Nat, N = 1 := ⟨_, rfl⟩
  have HST : Hid (LnRel w [.int .i64 hz, .slice a1 n1 c1, .slice a2 n2 c2, .slice a3 n3 c3, .slice a4 n4 c4, .slice a5 n5 c5, .slice a6 n6 c6] L1 N1 stopX st n1 (.slice (some ⟨w2.heap.size, 0, none⟩) 1 1) (.int .i64 0) (w2.alloc (.cells #[.string ((⟨#[104, 111, 114, 105, 122, 111, 110, 32]⟩ : ByteArray) ++ ⟨(Lib.itoa hz).toArray⟩)] 9))) := by
    subst hL1
    subst hN1
    rw [HL0.out]
    have hw : w.heap.size + 1 ≤ w2.heap.size := K2.out.lt
    exact ln_start _ _ _ (Nat.le_refl _) (own_lit1 w2 (w.heap.size + 1) 9 (.string ⟨(horX hz).toArray⟩) rfl hw) (keep_trans Q2.out (one_box _ _)) (K2.out.alloc _)
  have HLN1 := Lib.hid hL1
  have HNN1 := Lib.hid hN1
  have hNb1 : N1 ≤ 1 := by omega
  clear C0 HL0 l0 f0 hL1 hN1 HC Q1 Q2 K1 K2 kh
  go_loopw [5, 6] (fun v3 vi wr => LnRel w [.int .i64 hz, .slice a1 n1 c1, .slice a2 n2 c2, .slice a3 n3 c3, .slice a4 n4 c4, .slice a5 n5 c5, .slice a6 n6 c6] L1 N1 stopX st n1 v3 vi wr) (fun _ v _ => n1 - (intOf v).toNat)
  case atStart => exact HST.out
  case round =>
    obtain ⟨i, c, A, rfl, rfl, hi, hcap, HO, HB, HK⟩ := hrel
    by_cases hlt : i < n1
    · obtain ⟨a, ha'⟩ := at_in (k := i) st HN1 hlt
      have hi1 : (i : Int) < (n1 : Int) := by omega
      have hs1 : w.heap.size + 1 ≤ wr.heap.size := HK.out.lt
      have hNi : N1 + i ≤ 4000 := by omega
      have HM := List.mem_of_getElem? ha'
      have HAA := Lib.hid ha'
      obtain ⟨ad, rfl, hS, x0, -⟩ := rd_at 1 (fun _ => rfl) (by omega) (rd_later H1.out HB.out) ha'
      have x1 : wr.cell? (ad.add (i * 1)) = some (.string ⟨a.toArray⟩) := x0
      rw [Nat.mul_one] at x1
      have kk : wr.cell? ⟨w.heap.size, 1, none⟩ = some (.slice (some ad) n1 c1) := HK.out.cell 1
      have la : a.length ≤ 1048576 := HX.out.s a HM
      have f1 : ¬ 9223372036854775807 < 5 + a.length := by omega
      have HEQ : Hid ((⟨#[115, 116, 111, 112, 32]⟩ : ByteArray) ++ ⟨a.toArray⟩ = ⟨(stopX a).toArray⟩) := Lib.hid (bytes_eq (by rw [stopX, joinW_first _ (by decide)]; simp [kStop]))
      clear x0 ha' HM
      go_wp2_with (at_builtin; refine wpList_append_rd rfl (.tmp 29) (.tmp 36) 22 rfl (w.heap.size + 1) 9 _ 1 16 Tryz.underlying22 info_Str rfl (by omega) (by omega) (.slice A (N1 + i) c) (N1 + i) (cs strC (L1 ++ (st.take i).map stopX)) rfl (own_after HO.out (one_box _ _)) _ _ 1 1 [.string ((⟨#[115, 116, 111, 112, 32]⟩ : ByteArray) ++ ⟨a.toArray⟩)] rfl rfl (lit_at _ _ _ _ _ (by simp) rfl) (by simp [Value.oneCell']) (by omega) (by simp; omega) ?_; intro v' w4 hown hbel; obtain ⟨A', c', rfl, hcap', -⟩ := own_form hown.out)
      go_roundw
      case rel => exact ln_more HAA.out (by omega) hcap' HEQ.out hown.out (HB.out.trans ((Below.alloc (Below.refl _ _) (by omega) _).trans (hbel.out.mono (by omega)))) ((HK.out.alloc _).below hbel.out (by omega))
      case measure => simp [intOf]; omega
    · obtain rfl : n1 = i := by omega
      have hi1 : ¬ (n1 : Int) < (n1 : Int) := by omega
      have kk : wr.cell? ⟨w.heap.size, 1, none⟩ = some (.slice a1 n1 c1) := HK.out.cell 1
      have HST := Lib.hid (ln_start (bx := [.int .i64 hz, .slice a1 n1 c1, .slice a2 n2 c2, .slice a3 n3 c3, .slice a4 n4 c4, .slice a5 n5 c5, .slice a6 n6 c6]) pathX pa n2 hcap (ln_over HN1.out HO.out) HB.out HK.out)
      go_wp2
      obtain ⟨L2, hL2⟩ : ∃ L, L = L1 ++ st.map stopX := ⟨_, rfl⟩
      obtain ⟨N2, hN2⟩ : ∃ N : Nat, N = N1 + n1 := ⟨_, rfl⟩
      have hNb2 : N2 ≤ 61 := by omega
      rw [← hL2, ← hN2] at HST
      rw [← hN2]
      have HLN2 := Lib.hid hL2
      have HNN2 := Lib.hid hN2
      clear hL2 hN2 HO HB HK kk hi1 hcap hlt hi
      go_loopw [5, 7] (fun v3 vi wr => LnRel w [.int .i64 hz, .slice a1 n1 c1, .slice a2 n2 c2, .slice a3 n3 c3, .slice a4 n4 c4, .slice a5 n5 c5, .slice a6 n6 c6] L2 N2 pathX pa n2 v3 vi wr) (fun _ v _ => n2 - (intOf v).toNat)
      case atStart => exact HST.out
      case round =>
        obtain ⟨i, c, A, rfl, rfl, hi, hcap, HO, HB, HK⟩ := hrel
        by_cases hlt : i < n2
        · obtain ⟨a, ha'⟩ := at_in (k := i) pa HN2 hlt
          have hi1 : (i : Int) < (n2 : Int) := by omega
          have hs1 : w.heap.size + 1 ≤ wr.heap.size := HK.out.lt
          have hNi : N2 + i ≤ 4000 := by omega
          have HM := List.mem_of_getElem? ha'
          have HAA := Lib.hid ha'
          obtain ⟨ad, rfl, hS, y0, ys⟩ := rd_at 4 (fun _ => rfl) (by omega) (rd_later H2.out HB.out) ha'
          have CL := Lib.hid (rpath_any _ wr (HX.out.p a HM))
          obtain ⟨s, hs⟩ : ∃ s, s = pathX a := ⟨_, rfl⟩
          rw [← hs] at CL
          have HS := Lib.hid hs
          clear hs
          obtain ⟨x0, x1, x2, x3⟩ := a
          change Hid (Calls _ _ #[.agg #[.string ⟨x0.toArray⟩, .string ⟨x1.toArray⟩, .string ⟨x2.toArray⟩, .int .i64 x3]] _ _) at CL
          have u0 : wr.cell? (ad.add (i * 4)) = some (.string ⟨x0.toArray⟩) := y0
          have u1 : wr.cell? ⟨(ad.add (i * 4)).block, (ad.add (i * 4)).off + 1, none⟩ = some (.string ⟨x1.toArray⟩) := (ys 1 (by omega)).resolve_right (by decide)
          have u2 : wr.cell? ⟨(ad.add (i * 4)).block, (ad.add (i * 4)).off + 2, none⟩ = some (.string ⟨x2.toArray⟩) := (ys 2 (by omega)).resolve_right (by decide)
          have u3 : wr.cell? ⟨(ad.add (i * 4)).block, (ad.add (i * 4)).off + 3, none⟩ = some (.int .i64 x3) := (ys 3 (by omega)).resolve_right (by decide)
          clear y0 ys
          have kk : wr.cell? ⟨w.heap.size, 2, none⟩ = some (.slice (some ad) n2 c2) := HK.out.cell 2
          clear ha' HM
          go_wp2_with (first
            | (at_builtin; refine wpList_append_rd rfl (.tmp 45) (.tmp 52) 22 rfl (w.heap.size + 1) 9 _ 1 16 Tryz.underlying22 info_Str rfl (by omega) (by omega) (.slice A (N2 + i) c) (N2 + i) (cs strC (L2 ++ (pa.take i).map pathX)) rfl (own_after HO.out (keep_trans Q3.out (one_box _ _))) _ _ 1 1 [.string ⟨s.toArray⟩] rfl rfl (lit_at _ _ _ _ _ (by simp) rfl) (by simp [Value.oneCell']) (by omega) (by simp; omega) ?_; intro v' w4 hown hbel; obtain ⟨A', c', rfl, hcap', -⟩ := own_form hown.out)
            | (go_at_call 16; (with_reducible refine CL.out.mono ?_); rintro e' w3 ⟨rfl, hb⟩; have Q3 := Lib.hid hb; have hs3 := hb.size; clear hb)
            | fail)
          have OW := rl_alive HB.out HK.out Q3.out hbel.out
          go_roundw
          case rel => exact ln_more HAA.out (by omega) hcap' (by rw [HS.out]) hown.out OW.1 OW.2
          case measure => simp [intOf]; omega
        · obtain rfl : n2 = i := by omega
          have hi1 : ¬ (n2 : Int) < (n2 : Int) := by omega
          have kk : wr.cell? ⟨w.heap.size, 2, none⟩ = some (.slice a2 n2 c2) := HK.out.cell 2
          have HST := Lib.hid (ln_start (bx := [.int .i64 hz, .slice a1 n1 c1, .slice a2 n2 c2, .slice a3 n3 c3, .slice a4 n4 c4, .slice a5 n5 c5, .slice a6 n6 c6]) doorX dos n3 hcap (ln_over HN2.out HO.out) HB.out HK.out)
          go_wp2
          obtain ⟨L3, hL3⟩ : ∃ L, L = L2 ++ pa.map pathX := ⟨_, rfl⟩
          obtain ⟨N3, hN3⟩ : ∃ N : Nat, N = N2 + n2 := ⟨_, rfl⟩
          have hNb3 : N3 ≤ 121 := by omega
          rw [← hL3, ← hN3] at HST
          rw [← hN3]
          have HLN3 := Lib.hid hL3
          have HNN3 := Lib.hid hN3
          clear hL3 hN3 HO HB HK kk hi1 hcap hlt hi
          go_loopw [5, 8] (fun v3 vi wr => LnRel w [.int .i64 hz, .slice a1 n1 c1, .slice a2 n2 c2, .slice a3 n3 c3, .slice a4 n4 c4, .slice a5 n5 c5, .slice a6 n6 c6] L3 N3 doorX dos n3 v3 vi wr) (fun _ v _ => n3 - (intOf v).toNat)
          case atStart => exact HST.out
          case round =>
            obtain ⟨i, c, A, rfl, rfl, hi, hcap, HO, HB, HK⟩ := hrel
            by_cases hlt : i < n3
            · obtain ⟨a, ha'⟩ := at_in (k := i) dos HN3 hlt
              have hi1 : (i : Int) < (n3 : Int) := by omega
              have hs1 : w.heap.size + 1 ≤ wr.heap.size := HK.out.lt
              have hNi : N3 + i ≤ 4000 := by omega
              have HM := List.mem_of_getElem? ha'
              have HAA := Lib.hid ha'
              obtain ⟨ad, rfl, hS, y0, ys⟩ := rd_at 7 (fun _ => rfl) (by omega) (rd_later H3.out HB.out) ha'
              have CL := Lib.hid (rdoor_any _ wr (HX.out.d a HM))
              obtain ⟨s, hs⟩ : ∃ s, s = doorX a := ⟨_, rfl⟩
              rw [← hs] at CL
              have HS := Lib.hid hs
              clear hs
              obtain ⟨x0, x1, x2, x3, ⟨x4, x5, x6⟩⟩ := a
              change Hid (Calls _ _ #[.agg #[.string ⟨x0.toArray⟩, .string ⟨x1.toArray⟩, .string ⟨x2.toArray⟩, .int .i64 x3, .int .i64 x4, .int .i64 x5, .int .i64 x6]] _ _) at CL
              have u0 : wr.cell? (ad.add (i * 7)) = some (.string ⟨x0.toArray⟩) := y0
              have u1 : wr.cell? ⟨(ad.add (i * 7)).block, (ad.add (i * 7)).off + 1, none⟩ = some (.string ⟨x1.toArray⟩) := (ys 1 (by omega)).resolve_right (by decide)
              have u2 : wr.cell? ⟨(ad.add (i * 7)).block, (ad.add (i * 7)).off + 2, none⟩ = some (.string ⟨x2.toArray⟩) := (ys 2 (by omega)).resolve_right (by decide)
              have u3 : wr.cell? ⟨(ad.add (i * 7)).block, (ad.add (i * 7)).off + 3, none⟩ = some (.int .i64 x3) := (ys 3 (by omega)).resolve_right (by decide)
              have u4 : wr.cell? ⟨(ad.add (i * 7)).block, (ad.add (i * 7)).off + 4, none⟩ = some (.int .i64 x4) := (ys 4 (by omega)).resolve_right (by decide)
              have u5 : wr.cell? ⟨(ad.add (i * 7)).block, (ad.add (i * 7)).off + 5, none⟩ = some (.int .i64 x5) := (ys 5 (by omega)).resolve_right (by decide)
              have u6 : wr.cell? ⟨(ad.add (i * 7)).block, (ad.add (i * 7)).off + 6, none⟩ = some (.int .i64 x6) := (ys 6 (by omega)).resolve_right (by decide)
              clear y0 ys
              have kk : wr.cell? ⟨w.heap.size, 3, none⟩ = some (.slice (some ad) n3 c3) := HK.out.cell 3
              clear ha' HM
              go_wp2_with (first
                | (at_builtin; refine wpList_append_rd rfl (.tmp 61) (.tmp 68) 22 rfl (w.heap.size + 1) 9 _ 1 16 Tryz.underlying22 info_Str rfl (by omega) (by omega) (.slice A (N3 + i) c) (N3 + i) (cs strC (L3 ++ (dos.take i).map doorX)) rfl (own_after HO.out (keep_trans Q3.out (one_box _ _))) _ _ 1 1 [.string ⟨s.toArray⟩] rfl rfl (lit_at _ _ _ _ _ (by simp) rfl) (by simp [Value.oneCell']) (by omega) (by simp; omega) ?_; intro v' w4 hown hbel; obtain ⟨A', c', rfl, hcap', -⟩ := own_form hown.out)
                | (go_at_call 18; (with_reducible refine CL.out.mono ?_); rintro e' w3 ⟨rfl, hb⟩; have Q3 := Lib.hid hb; have hs3 := hb.size; clear hb)
                | fail)
              have OW := rl_alive HB.out HK.out Q3.out hbel.out
              go_roundw
              case rel => exact ln_more HAA.out (by omega) hcap' (by rw [HS.out]) hown.out OW.1 OW.2
              case measure => simp [intOf]; omega
            · obtain rfl : n3 = i := by omega
              have hi1 : ¬ (n3 : Int) < (n3 : Int) := by omega
              have kk : wr.cell? ⟨w.heap.size, 3, none⟩ = some (.slice a3 n3 c3) := HK.out.cell 3
              have HST := Lib.hid (ln_start (bx := [.int .i64 hz, .slice a1 n1 c1, .slice a2 n2 c2, .slice a3 n3 c3, .slice a4 n4 c4, .slice a5 n5 c5, .slice a6 n6 c6]) routeX ro n4 hcap (ln_over HN3.out HO.out) HB.out HK.out)
              go_wp2
              obtain ⟨L4, hL4⟩ : ∃ L, L = L3 ++ dos.map doorX := ⟨_, rfl⟩
              obtain ⟨N4, hN4⟩ : ∃ N : Nat, N = N3 + n3 := ⟨_, rfl⟩
              have hNb4 : N4 ≤ 181 := by omega
              rw [← hL4, ← hN4] at HST
              rw [← hN4]
              have HLN4 := Lib.hid hL4
              have HNN4 := Lib.hid hN4
              clear hL4 hN4 HO HB HK kk hi1 hcap hlt hi
              go_loopw [5, 9] (fun v3 vi wr => LnRel w [.int .i64 hz, .slice a1 n1 c1, .slice a2 n2 c2, .slice a3 n3 c3, .slice a4 n4 c4, .slice a5 n5 c5, .slice a6 n6 c6] L4 N4 routeX ro n4 v3 vi wr) (fun _ v _ => n4 - (intOf v).toNat)
              case atStart => exact HST.out
              case round =>
                obtain ⟨i, c, A, rfl, rfl, hi, hcap, HO, HB, HK⟩ := hrel
                by_cases hlt : i < n4
                · obtain ⟨a, ha'⟩ := at_in (k := i) ro HN4 hlt
                  have hi1 : (i : Int) < (n4 : Int) := by omega
                  have hs1 : w.heap.size + 1 ≤ wr.heap.size := HK.out.lt
                  have hNi : N4 + i ≤ 4000 := by omega
                  have HM := List.mem_of_getElem? ha'
                  have HAA := Lib.hid ha'
                  obtain ⟨ad, rfl, hS, sa, sc, ra, rc, ya, yc, x0, x1, x2, x3, hg0⟩ := rts_at (rd_later H4.out HB.out) (H4'.out.later HB.out) ha'
                  have CL : Hid (Calls Tryz.prog 20 #[rtV a sa ra ya sc rc yc] wr (TextPost wr (routeX a))) := Lib.hid (rroute_any a sa ra ya sc rc yc wr hg0 (HFW.out.lr a HM) (HX.out.r a HM))
                  clear hg0
                  obtain ⟨s, hs⟩ : ∃ s, s = routeX a := ⟨_, rfl⟩
                  rw [← hs] at CL
                  have HS := Lib.hid hs
                  clear hs
                  obtain ⟨nm, rs, ri, sy⟩ := a
                  change Hid (Calls _ _ #[.agg #[.string ⟨nm.toArray⟩, .slice sa rs.length sc, .slice ra ri.length rc, .slice ya sy.length yc]] _ _) at CL
                  dsimp only at x0 x1 x2 x3
                  generalize rs.length = m1 at *
                  generalize ri.length = m2 at *
                  generalize sy.length = m3 at *
                  have kk : wr.cell? ⟨w.heap.size, 4, none⟩ = some (.slice (some ad) n4 c4) := HK.out.cell 4
                  clear ha' HM
                  go_wp2_with (first
                    | (at_builtin; refine wpList_append_rd rfl (.tmp 77) (.tmp 84) 22 rfl (w.heap.size + 1) 9 _ 1 16 Tryz.underlying22 info_Str rfl (by omega) (by omega) (.slice A (N4 + i) c) (N4 + i) (cs strC (L4 ++ (ro.take i).map routeX)) rfl (own_after HO.out (keep_trans Q3.out (one_box _ _))) _ _ 1 1 [.string ⟨s.toArray⟩] rfl rfl (lit_at _ _ _ _ _ (by simp) rfl) (by simp [Value.oneCell']) (by omega) (by simp; omega) ?_; intro v' w4 hown hbel; obtain ⟨A', c', rfl, hcap', -⟩ := own_form hown.out)
                    | (go_at_call 20; (with_reducible refine CL.out.mono ?_); rintro e' w3 ⟨rfl, hb⟩; have Q3 := Lib.hid hb; have hs3 := hb.size; clear hb)
                    | fail)
                  have OW := rl_alive HB.out HK.out Q3.out hbel.out
                  go_roundw
                  case rel => exact ln_more HAA.out (by omega) hcap' (by rw [HS.out]) hown.out OW.1 OW.2
                  case measure => simp [intOf]; omega
                · obtain rfl : n4 = i := by omega
                  have hi1 : ¬ (n4 : Int) < (n4 : Int) := by omega
                  have kk : wr.cell? ⟨w.heap.size, 4, none⟩ = some (.slice a4 n4 c4) := HK.out.cell 4
                  have HST := Lib.hid (ln_start (bx := [.int .i64 hz, .slice a1 n1 c1, .slice a2 n2 c2, .slice a3 n3 c3, .slice a4 n4 c4, .slice a5 n5 c5, .slice a6 n6 c6]) tripX tr n5 hcap (ln_over HN4.out HO.out) HB.out HK.out)
                  go_wp2
                  obtain ⟨L5, hL5⟩ : ∃ L, L = L4 ++ ro.map routeX := ⟨_, rfl⟩
                  obtain ⟨N5, hN5⟩ : ∃ N : Nat, N = N4 + n4 := ⟨_, rfl⟩
                  have hNb5 : N5 ≤ 241 := by omega
                  rw [← hL5, ← hN5] at HST
                  rw [← hN5]
                  have HLN5 := Lib.hid hL5
                  have HNN5 := Lib.hid hN5
                  clear hL5 hN5 HO HB HK kk hi1 hcap hlt hi
                  go_loopw [5, 10] (fun v3 vi wr => LnRel w [.int .i64 hz, .slice a1 n1 c1, .slice a2 n2 c2, .slice a3 n3 c3, .slice a4 n4 c4, .slice a5 n5 c5, .slice a6 n6 c6] L5 N5 tripX tr n5 v3 vi wr) (fun _ v _ => n5 - (intOf v).toNat)
                  case atStart => exact HST.out
                  case round =>
                    obtain ⟨i, c, A, rfl, rfl, hi, hcap, HO, HB, HK⟩ := hrel
                    by_cases hlt : i < n5
                    · obtain ⟨a, ha'⟩ := at_in (k := i) tr HN5 hlt
                      have hi1 : (i : Int) < (n5 : Int) := by omega
                      have hs1 : w.heap.size + 1 ≤ wr.heap.size := HK.out.lt
                      have hNi : N5 + i ≤ 4000 := by omega
                      have HM := List.mem_of_getElem? ha'
                      have HAA := Lib.hid ha'
                      obtain ⟨ad, rfl, hS, y0, ys⟩ := rd_at 5 (fun _ => rfl) (by omega) (rd_later H5.out HB.out) ha'
                      have CL := Lib.hid (rtrip_any _ wr (HX.out.t a HM))
                      obtain ⟨s, hs⟩ : ∃ s, s = tripX a := ⟨_, rfl⟩
                      rw [← hs] at CL
                      have HS := Lib.hid hs
                      clear hs
                      obtain ⟨x0, x1, x2, x3, x4⟩ := a
                      change Hid (Calls _ _ #[.agg #[.string ⟨x0.toArray⟩, .string ⟨x1.toArray⟩, .int .i64 x2, .int .i64 x3, .int .i64 x4]] _ _) at CL
                      have u0 : wr.cell? (ad.add (i * 5)) = some (.string ⟨x0.toArray⟩) := y0
                      have u1 : wr.cell? ⟨(ad.add (i * 5)).block, (ad.add (i * 5)).off + 1, none⟩ = some (.string ⟨x1.toArray⟩) := (ys 1 (by omega)).resolve_right (by decide)
                      have u2 : wr.cell? ⟨(ad.add (i * 5)).block, (ad.add (i * 5)).off + 2, none⟩ = some (.int .i64 x2) := (ys 2 (by omega)).resolve_right (by decide)
                      have u3 : wr.cell? ⟨(ad.add (i * 5)).block, (ad.add (i * 5)).off + 3, none⟩ = some (.int .i64 x3) := (ys 3 (by omega)).resolve_right (by decide)
                      have u4 : wr.cell? ⟨(ad.add (i * 5)).block, (ad.add (i * 5)).off + 4, none⟩ = some (.int .i64 x4) := (ys 4 (by omega)).resolve_right (by decide)
                      clear y0 ys
                      have kk : wr.cell? ⟨w.heap.size, 5, none⟩ = some (.slice (some ad) n5 c5) := HK.out.cell 5
                      clear ha' HM
                      go_wp2_with (first
                        | (at_builtin; refine wpList_append_rd rfl (.tmp 93) (.tmp 100) 22 rfl (w.heap.size + 1) 9 _ 1 16 Tryz.underlying22 info_Str rfl (by omega) (by omega) (.slice A (N5 + i) c) (N5 + i) (cs strC (L5 ++ (tr.take i).map tripX)) rfl (own_after HO.out (keep_trans Q3.out (one_box _ _))) _ _ 1 1 [.string ⟨s.toArray⟩] rfl rfl (lit_at _ _ _ _ _ (by simp) rfl) (by simp [Value.oneCell']) (by omega) (by simp; omega) ?_; intro v' w4 hown hbel; obtain ⟨A', c', rfl, hcap', -⟩ := own_form hown.out)
                        | (go_at_call 22; (with_reducible refine CL.out.mono ?_); rintro e' w3 ⟨rfl, hb⟩; have Q3 := Lib.hid hb; have hs3 := hb.size; clear hb)
                        | fail)
                      have OW := rl_alive HB.out HK.out Q3.out hbel.out
                      go_roundw
                      case rel => exact ln_more HAA.out (by omega) hcap' (by rw [HS.out]) hown.out OW.1 OW.2
                      case measure => simp [intOf]; omega
                    · obtain rfl : n5 = i := by omega
                      have hi1 : ¬ (n5 : Int) < (n5 : Int) := by omega
                      have kk : wr.cell? ⟨w.heap.size, 5, none⟩ = some (.slice a5 n5 c5) := HK.out.cell 5
                      have HST := Lib.hid (ln_start (bx := [.int .i64 hz, .slice a1 n1 c1, .slice a2 n2 c2, .slice a3 n3 c3, .slice a4 n4 c4, .slice a5 n5 c5, .slice a6 n6 c6]) hazX ha n6 hcap (ln_over HN5.out HO.out) HB.out HK.out)
                      go_wp2
                      obtain ⟨L6, hL6⟩ : ∃ L, L = L5 ++ tr.map tripX := ⟨_, rfl⟩
                      obtain ⟨N6, hN6⟩ : ∃ N : Nat, N = N5 + n5 := ⟨_, rfl⟩
                      have hNb6 : N6 ≤ 301 := by omega
                      rw [← hL6, ← hN6] at HST
                      rw [← hN6]
                      have HLN6 := Lib.hid hL6
                      have HNN6 := Lib.hid hN6
                      clear hL6 hN6 HO HB HK kk hi1 hcap hlt hi
                      go_loopw [5, 11] (fun v3 vi wr => LnRel w [.int .i64 hz, .slice a1 n1 c1, .slice a2 n2 c2, .slice a3 n3 c3, .slice a4 n4 c4, .slice a5 n5 c5, .slice a6 n6 c6] L6 N6 hazX ha n6 v3 vi wr) (fun _ v _ => n6 - (intOf v).toNat)
                      case atStart => exact HST.out
                      case round =>
                        obtain ⟨i, c, A, rfl, rfl, hi, hcap, HO, HB, HK⟩ := hrel
                        by_cases hlt : i < n6
                        · obtain ⟨a, ha'⟩ := at_in (k := i) ha HN6 hlt
                          have hi1 : (i : Int) < (n6 : Int) := by omega
                          have hs1 : w.heap.size + 1 ≤ wr.heap.size := HK.out.lt
                          have hNi : N6 + i ≤ 4000 := by omega
                          have HM := List.mem_of_getElem? ha'
                          have HAA := Lib.hid ha'
                          obtain ⟨ad, rfl, hS, y0, ys⟩ := rd_at 5 (fun _ => rfl) (by omega) (rd_later H6.out HB.out) ha'
                          have CL := Lib.hid (rhaz_any _ wr (HX.out.z a HM))
                          obtain ⟨s, hs⟩ : ∃ s, s = hazX a := ⟨_, rfl⟩
                          rw [← hs] at CL
                          have HS := Lib.hid hs
                          clear hs
                          obtain ⟨x0, x1, ⟨x2, x3, x4⟩⟩ := a
                          change Hid (Calls _ _ #[.agg #[.string ⟨x0.toArray⟩, .string ⟨x1.toArray⟩, .int .i64 x2, .int .i64 x3, .int .i64 x4]] _ _) at CL
                          have u0 : wr.cell? (ad.add (i * 5)) = some (.string ⟨x0.toArray⟩) := y0
                          have u1 : wr.cell? ⟨(ad.add (i * 5)).block, (ad.add (i * 5)).off + 1, none⟩ = some (.string ⟨x1.toArray⟩) := (ys 1 (by omega)).resolve_right (by decide)
                          have u2 : wr.cell? ⟨(ad.add (i * 5)).block, (ad.add (i * 5)).off + 2, none⟩ = some (.int .i64 x2) := (ys 2 (by omega)).resolve_right (by decide)
                          have u3 : wr.cell? ⟨(ad.add (i * 5)).block, (ad.add (i * 5)).off + 3, none⟩ = some (.int .i64 x3) := (ys 3 (by omega)).resolve_right (by decide)
                          have u4 : wr.cell? ⟨(ad.add (i * 5)).block, (ad.add (i * 5)).off + 4, none⟩ = some (.int .i64 x4) := (ys 4 (by omega)).resolve_right (by decide)
                          clear y0 ys
                          have kk : wr.cell? ⟨w.heap.size, 6, none⟩ = some (.slice (some ad) n6 c6) := HK.out.cell 6
                          clear ha' HM
                          go_wp2_with (first
                            | (at_builtin; refine wpList_append_rd rfl (.tmp 109) (.tmp 116) 22 rfl (w.heap.size + 1) 9 _ 1 16 Tryz.underlying22 info_Str rfl (by omega) (by omega) (.slice A (N6 + i) c) (N6 + i) (cs strC (L6 ++ (ha.take i).map hazX)) rfl (own_after HO.out (keep_trans Q3.out (one_box _ _))) _ _ 1 1 [.string ⟨s.toArray⟩] rfl rfl (lit_at _ _ _ _ _ (by simp) rfl) (by simp [Value.oneCell']) (by omega) (by simp; omega) ?_; intro v' w4 hown hbel; obtain ⟨A', c', rfl, hcap', -⟩ := own_form hown.out)
                            | (go_at_call 24; (with_reducible refine CL.out.mono ?_); rintro e' w3 ⟨rfl, hb⟩; have Q3 := Lib.hid hb; have hs3 := hb.size; clear hb)
                            | fail)
                          have OW := rl_alive HB.out HK.out Q3.out hbel.out
                          go_roundw
                          case rel => exact ln_more HAA.out (by omega) hcap' (by rw [HS.out]) hown.out OW.1 OW.2
                          case measure => simp [intOf]; omega
                        · obtain rfl : n6 = i := by omega
                          have hi1 : ¬ (n6 : Int) < (n6 : Int) := by omega
                          have kk : wr.cell? ⟨w.heap.size, 6, none⟩ = some (.slice a6 n6 c6) := HK.out.cell 6
                          have HFI := Lib.hid (ln_over HN6.out HO.out)
                          go_wp2
                          go_ret2
                          obtain ⟨A', c', e', -, hrd⟩ := own_form HFI.out
                          injection e' with e1 e2 e3
                          subst e1
                          subst e3
                          refine ⟨_, _, _, ?_, rfl, hcap, ?_, HB.out⟩
                          · rw [HPX.out, HLEN.out, HNN6.out, HNN5.out, HNN4.out, HNN3.out, HNN2.out, HNN1.out]
                          · rw [HPX.out, ← HLN1.out, ← HLN2.out, ← HLN3.out, ← HLN4.out, ← HLN5.out, ← HLN6.out]
                            exact hrd.more fun b hb => ⟨by have := hb.1; omega, hb.2⟩

theorem rlines_any (x : SheetM) (p : ShA) (w : World) (h : Sh w (· < w.heap.size) x p) (hl : Lt x) (hS : ShS x) (hx : checkM x = 0) : Calls Tryz.prog 13 #[shV x p] w (LinesPost w (linesT x)) := preX_lines (may_of hx) ▸ rlines_ok x p w h hl hS hx
end Go.Proofs.YtcmlmfcnbmpajaaGreatDoor.Sw
