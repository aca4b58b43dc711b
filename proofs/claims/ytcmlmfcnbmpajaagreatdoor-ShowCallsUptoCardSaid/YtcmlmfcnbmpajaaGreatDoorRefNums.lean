/- The document's own list of a sheet's numbers, proved by walking its text. Conditions: at most 60 things of a kind. -/
import Derived.Test.YtcmlmfcnbmpajaaGreatDoorRefNames
namespace Go.Proofs.YtcmlmfcnbmpajaaGreatDoor.Sh
open Go.ChangeShapes Go.WideShapes Go.ChangeAt Go.RowKit
open Lx
set_option linter.unusedVariables false
set_option linter.unusedSimpArgs false

theorem own_one1 (w : World) (n : Nat) (e : TypeId) (u : Value) (hu : u.oneCell' = true) (hn : n ≤ w.heap.size) : (w.alloc (.cells #[u] e)).ownsRow n e 1 (.slice (some ⟨w.heap.size, 0, none⟩) 1 1) 1 [u] :=
  ⟨by simp, .inr ⟨w.heap.size, 1, #[u], rfl, hn, heap_alloc_new w _, by omega, by simp [maxLen], by simp, by simp⟩⟩
set_option maxRecDepth 100000 in
set_option maxHeartbeats 20000000 in
theorem refnumbers_any (x : SheetM) (p : ShA) (w : World) (h : Sh w (· < w.heap.size) x p) (hx : Lt x) : Calls Tryz.prog 55 #[shV x p] w (RwPost w intC (numsL x)) := by
  obtain ⟨cr, r4, r4'⟩ := h.r4
  have b1 := hx.l1
  have b2 := hx.l2
  have b3 := hx.l3
  have b4 := hx.l4
  have b5 := hx.l5
  have b6 := hx.l6
  unfold numsL
  obtain ⟨hz, st, pa, dos, ro, tr, ha⟩ := x
  obtain ⟨a1, a2, a3, a4, a5, a6, c1, c2, c3, c4, c5, c6⟩ := p
  have HX := Lib.hid hx.lr
  have H1 := Lib.hid h.r1
  have H2 := Lib.hid h.r2
  have H3 := Lib.hid h.r3
  have H4 := Lib.hid r4
  have H4' := Lib.hid r4'
  have H5 := Lib.hid h.r5
  have H6 := Lib.hid h.r6
  dsimp only at b1 b2 b3 b4 b5 b6 HX H1 H2 H3 H4 H4' H5 H6 ⊢
  clear h r4 r4' hx
  show Calls _ _ #[.agg #[.int .i64 hz, .slice a1 st.length c1, .slice a2 pa.length c2, .slice a3 dos.length c3, .slice a4 ro.length c4, .slice a5 tr.length c5, .slice a6 ha.length c6]] _ _
  obtain ⟨n1, hn1⟩ : ∃ n, n = st.length := ⟨_, rfl⟩
  rw [← hn1] at b1 ⊢
  have HN1 := Lib.hid hn1
  clear hn1
  obtain ⟨n2, hn2⟩ : ∃ n, n = pa.length := ⟨_, rfl⟩
  rw [← hn2] at b2 ⊢
  have HN2 := Lib.hid hn2
  clear hn2
  obtain ⟨n3, hn3⟩ : ∃ n, n = dos.length := ⟨_, rfl⟩
  rw [← hn3] at b3 ⊢
  have HN3 := Lib.hid hn3
  clear hn3
  obtain ⟨n4, hn4⟩ : ∃ n, n = ro.length := ⟨_, rfl⟩
  rw [← hn4] at b4 ⊢
  have HN4 := Lib.hid hn4
  clear hn4
  obtain ⟨n5, hn5⟩ : ∃ n, n = tr.length := ⟨_, rfl⟩
  rw [← hn5] at b5 ⊢
  have HN5 := Lib.hid hn5
  clear hn5
  obtain ⟨n6, hn6⟩ : ∃ n, n = ha.length := ⟨_, rfl⟩
  rw [← hn6] at b6 ⊢
  have HN6 := Lib.hid hn6
  clear hn6
  go_enter Tryz.func55, Tryz.ntmps55
  go_wp2
  obtain ⟨L2, hL2⟩ : ∃ L, L = [hz] := ⟨_, rfl⟩
  have HST : Hid (RwRel w [.int .i64 hz, .slice a1 n1 c1, .slice a2 n2 c2, .slice a3 n3 c3, .slice a4 n4 c4, .slice a5 n5 c5, .slice a6 n6 c6] 2 intC L2 60 (fun p : PathM => [p.len]) pa n2 (.slice (some ⟨w.heap.size + 1, 0, none⟩) 1 1) (.int .i64 0) ((w.alloc (.cells [.int .i64 hz, .slice a1 n1 c1, .slice a2 n2 c2, .slice a3 n3 c3, .slice a4 n4 c4, .slice a5 n5 c5, .slice a6 n6 c6].toArray 29)).alloc (.cells #[.int .i64 hz] 2))) := Lib.hid (by
    subst hL2
    have := own_one1 (w.alloc (.cells [.int .i64 hz, .slice a1 n1 c1, .slice a2 n2 c2, .slice a3 n3 c3, .slice a4 n4 c4, .slice a5 n5 c5, .slice a6 n6 c6].toArray 29)) (w.heap.size + 1) 2 (.int .i64 hz) rfl (by simp)
    rw [World.size_alloc] at this
    exact rw_start _ _ _ _ (by omega) this (two_box _ _ _) ((Blk.new w _ _).alloc _))
  have HLN2 := Lib.hid hL2
  obtain ⟨B2, hB2⟩ : ∃ B : Nat, B = 60 := ⟨_, rfl⟩
  rw [← hB2] at HST
  have hNb2 : B2 ≤ 60 := by omega
  clear hL2 hB2
  go_loopw [3, 4] (fun v3 vi wr => RwRel w [.int .i64 hz, .slice a1 n1 c1, .slice a2 n2 c2, .slice a3 n3 c3, .slice a4 n4 c4, .slice a5 n5 c5, .slice a6 n6 c6] 2 intC L2 B2 (fun p : PathM => [p.len]) pa n2 v3 vi wr) (fun _ v _ => n2 - (intOf v).toNat)
  case atStart => exact HST.out
  case round =>
    obtain ⟨i, N, c, A, rfl, rfl, hi, hN, HO, HB, HK⟩ := hrel
    by_cases hlt : i < n2
    · obtain ⟨a, ha'⟩ := at_in (k := i) pa HN2 hlt
      have hi1 : (i : Int) < (n2 : Int) := by omega
      have hs1 : w.heap.size + 1 ≤ wr.heap.size := HK.out.lt
      obtain ⟨ad, rfl, hS, x0, xs⟩ := rd_at 4 (fun _ => rfl) (by omega) (H2.out.below HB.out) ha'
      have HAA := Lib.hid ha'
      clear ha'
      obtain ⟨nm, pa_, pb, ln⟩ := a
      have hS2 : (ad.add (i * 4)).block < w.heap.size + 1 := by rw [block_of_add]; omega
      have x3 : wr.cell? ⟨(ad.add (i * 4)).block, (ad.add (i * 4)).off + 3, none⟩ = some (.int .i64 ln) := (xs 3 (by omega)).resolve_right (by decide)
      have kk : wr.cell? ⟨w.heap.size, 2, none⟩ = some (.slice (some ad) n2 c2) := HK.out.cell 2
      have hNi : N ≤ 100000 := by omega
      clear xs x0
      have KC : Hid (∀ w', Below (w.heap.size + 1) wr w' → w'.cell? ⟨(ad.add (i * 4)).block, (ad.add (i * 4)).off + 3, none⟩ = some (.int .i64 ln) ∧ w'.cell? ⟨w.heap.size, 2, none⟩ = some (.slice (some ad) n2 c2)) := Lib.hid (fun w' h => ⟨(cell_keep (p := ⟨(ad.add (i * 4)).block, (ad.add (i * 4)).off + 3, none⟩) h hS2).trans x3, (cell_keep (p := ⟨w.heap.size, 2, none⟩) h (Nat.lt_succ_self _)).trans kk⟩)
      go_wp2_with (at_builtin; refine wpList_append_rd rfl (.tmp 19) (.tmp 26) 36 rfl (w.heap.size + 1) 2 _ 1 8 Tryz.underlying36 info_I64 rfl (by omega) (by omega) (.slice A N c) N (cs intC (L2 ++ (pa.take i).flatMap (fun p : PathM => [p.len]))) rfl (own_after HO.out (one_box _ _)) _ _ 1 1 [.int .i64 ln] rfl rfl (lit_at _ _ _ _ _ (by simp) rfl) (by simp [Value.oneCell']) (by omega) (by simp; omega) ?_; intro v' w4 hown hbel; obtain ⟨A', c', rfl, -, -⟩ := own_form hown.out)
      have OW := below_alive2 HB.out HK.out hbel.out (one_box _ _)
      go_roundw
      case rel => exact rw_more HAA.out (by omega) (by omega) rfl hown.out OW.1 OW.2
      case measure => simp [intOf]; omega
    · obtain rfl : n2 = i := by omega
      have hi1 : ¬ (n2 : Int) < (n2 : Int) := by omega
      have kk : wr.cell? ⟨w.heap.size, 2, none⟩ = some (.slice a2 n2 c2) := HK.out.cell 2
      have HST := Lib.hid (rw_start (bx := [.int .i64 hz, .slice a1 n1 c1, .slice a2 n2 c2, .slice a3 n3 c3, .slice a4 n4 c4, .slice a5 n5 c5, .slice a6 n6 c6]) (B2 + 200 * n2) (fun p : DoorM => [p.len, p.times.frm, p.times.every, p.times.len]) dos n3 hN (rw_over HN2.out HO.out) HB.out HK.out)
      go_wp2
      obtain ⟨L3, hL3⟩ : ∃ L, L = L2 ++ pa.flatMap (fun p : PathM => [p.len]) := ⟨_, rfl⟩
      obtain ⟨B3, hB3⟩ : ∃ B : Nat, B = B2 + 200 * n2 := ⟨_, rfl⟩
      have hNb3 : B3 ≤ 12060 := by omega
      rw [← hL3, ← hB3] at HST
      have HLN3 := Lib.hid hL3
      clear hL3 hB3 HO HB HK kk hi1 hN hlt hi
      go_loopw [3, 5] (fun v3 vi wr => RwRel w [.int .i64 hz, .slice a1 n1 c1, .slice a2 n2 c2, .slice a3 n3 c3, .slice a4 n4 c4, .slice a5 n5 c5, .slice a6 n6 c6] 2 intC L3 B3 (fun p : DoorM => [p.len, p.times.frm, p.times.every, p.times.len]) dos n3 v3 vi wr) (fun _ v _ => n3 - (intOf v).toNat)
      case atStart => exact HST.out
      case round =>
        obtain ⟨i, N, c, A, rfl, rfl, hi, hN, HO, HB, HK⟩ := hrel
        by_cases hlt : i < n3
        · obtain ⟨a, ha'⟩ := at_in (k := i) dos HN3 hlt
          have hi1 : (i : Int) < (n3 : Int) := by omega
          have hs1 : w.heap.size + 1 ≤ wr.heap.size := HK.out.lt
          obtain ⟨ad, rfl, hS, x0, xs⟩ := rd_at 7 (fun _ => rfl) (by omega) (H3.out.below HB.out) ha'
          have HAA := Lib.hid ha'
          clear ha'
          obtain ⟨nm, pa_, pb, ln, ⟨tf, te, tl⟩⟩ := a
          have hS2 : (ad.add (i * 7)).block < w.heap.size + 1 := by rw [block_of_add]; omega
          have x3 : wr.cell? ⟨(ad.add (i * 7)).block, (ad.add (i * 7)).off + 3, none⟩ = some (.int .i64 ln) := (xs 3 (by omega)).resolve_right (by decide)
          have x4 : wr.cell? ⟨(ad.add (i * 7)).block, (ad.add (i * 7)).off + 4, none⟩ = some (.int .i64 tf) := (xs 4 (by omega)).resolve_right (by decide)
          have x5 : wr.cell? ⟨(ad.add (i * 7)).block, (ad.add (i * 7)).off + 4 + 1, none⟩ = some (.int .i64 te) := (xs 5 (by omega)).resolve_right (by decide)
          have x6 : wr.cell? ⟨(ad.add (i * 7)).block, (ad.add (i * 7)).off + 4 + 2, none⟩ = some (.int .i64 tl) := (xs 6 (by omega)).resolve_right (by decide)
          have kk : wr.cell? ⟨w.heap.size, 3, none⟩ = some (.slice (some ad) n3 c3) := HK.out.cell 3
          have hNi : N ≤ 100000 := by omega
          clear xs x0
          have KC : Hid (∀ w', Below (w.heap.size + 1) wr w' → w'.cell? ⟨(ad.add (i * 7)).block, (ad.add (i * 7)).off + 3, none⟩ = some (.int .i64 ln) ∧ w'.cell? ⟨(ad.add (i * 7)).block, (ad.add (i * 7)).off + 4, none⟩ = some (.int .i64 tf) ∧ w'.cell? ⟨(ad.add (i * 7)).block, (ad.add (i * 7)).off + 4 + 1, none⟩ = some (.int .i64 te) ∧ w'.cell? ⟨(ad.add (i * 7)).block, (ad.add (i * 7)).off + 4 + 2, none⟩ = some (.int .i64 tl) ∧ w'.cell? ⟨w.heap.size, 3, none⟩ = some (.slice (some ad) n3 c3)) := Lib.hid (fun w' h => ⟨(cell_keep (p := ⟨(ad.add (i * 7)).block, (ad.add (i * 7)).off + 3, none⟩) h hS2).trans x3, (cell_keep (p := ⟨(ad.add (i * 7)).block, (ad.add (i * 7)).off + 4, none⟩) h hS2).trans x4, (cell_keep (p := ⟨(ad.add (i * 7)).block, (ad.add (i * 7)).off + 4 + 1, none⟩) h hS2).trans x5, (cell_keep (p := ⟨(ad.add (i * 7)).block, (ad.add (i * 7)).off + 4 + 2, none⟩) h hS2).trans x6, (cell_keep (p := ⟨w.heap.size, 3, none⟩) h (Nat.lt_succ_self _)).trans kk⟩)
          go_wp2
          go_region_held_law (fun w' => w'.cell? ⟨(ad.add (i * 7)).block, (ad.add (i * 7)).off + 3, none⟩ = some (.int .i64 ln) ∧ w'.cell? ⟨(ad.add (i * 7)).block, (ad.add (i * 7)).off + 4, none⟩ = some (.int .i64 tf) ∧ w'.cell? ⟨(ad.add (i * 7)).block, (ad.add (i * 7)).off + 4 + 1, none⟩ = some (.int .i64 te) ∧ w'.cell? ⟨(ad.add (i * 7)).block, (ad.add (i * 7)).off + 4 + 2, none⟩ = some (.int .i64 tl) ∧ w'.cell? ⟨w.heap.size, 3, none⟩ = some (.slice (some ad) n3 c3)) (first | exact KC.out _ HQ.out | exact KC.out _ (by repeat (first | exact Below.refl _ _ | exact one_box _ _ | refine below_drewN ?_ _ | refine below_drew ?_ | refine Below.alloc ?_ (by first | omega | (simp; done) | (simp; omega)) _)) | go_keep) (first | (refine step_append_rd (by rfl) (.tmp 35) (.tmp 63) 36 (by rfl) (w.heap.size + 1) 2 _ 1 8 Tryz.underlying36 info_I64 rfl (by omega) (by omega) (.slice A N c) N (cs intC (L3 ++ (dos.take i).flatMap (fun p : DoorM => [p.len, p.times.frm, p.times.every, p.times.len]))) (by rfl) (Lib.hid (own_after HO.out (by repeat (first | exact Below.refl _ _ | exact one_box _ _ | refine below_drewN ?_ _ | refine below_drew ?_ | refine Below.alloc ?_ (by first | omega | (simp; done) | (simp; omega)) _)))) _ _ 4 4 [.int .i64 ln, .int .i64 tf, .int .i64 te, .int .i64 tl] (by rfl) (Lib.hid rfl) (by first | exact Lib.hid (litd_at2 _ _ _ _ _ (by simp) rfl) | exact Lib.hid (lit_at _ _ _ _ _ (by simp) rfl)) (by simp [Value.oneCell']) (by omega) (by first | omega | (simp; omega)) ?_; intro v' w4 hown hbel hg; obtain ⟨A', c', rfl, -, -⟩ := own_form hown.out; have HQ : Hid (Below (w.heap.size + 1) wr w4) := Lib.hid (below_two hbel.out (by repeat (first | exact Below.refl _ _ | exact one_box _ _ | refine below_drewN ?_ _ | refine below_drew ?_ | refine Below.alloc ?_ (by first | omega | (simp; done) | (simp; omega)) _)))) | fail)
          have OW := below_alive2 HB.out HK.out hbel.out (by repeat (first | exact Below.refl _ _ | exact one_box _ _ | refine below_drewN ?_ _ | refine below_drew ?_ | refine Below.alloc ?_ (by first | omega | (simp; done) | (simp; omega)) _))
          go_wp2
          go_roundw
          case rel => exact rw_more HAA.out (by omega) (by omega) rfl hown.out OW.1 OW.2
          case measure => simp [intOf]; omega
        · obtain rfl : n3 = i := by omega
          have hi1 : ¬ (n3 : Int) < (n3 : Int) := by omega
          have kk : wr.cell? ⟨w.heap.size, 3, none⟩ = some (.slice a3 n3 c3) := HK.out.cell 3
          have HST := Lib.hid (rw_start (bx := [.int .i64 hz, .slice a1 n1 c1, .slice a2 n2 c2, .slice a3 n3 c3, .slice a4 n4 c4, .slice a5 n5 c5, .slice a6 n6 c6]) (B3 + 200 * n3) (fun r : RouteM => r.rides ++ r.stays) ro n4 hN (rw_over HN3.out HO.out) HB.out HK.out)
          go_wp2
          obtain ⟨L4, hL4⟩ : ∃ L, L = L3 ++ dos.flatMap (fun p : DoorM => [p.len, p.times.frm, p.times.every, p.times.len]) := ⟨_, rfl⟩
          obtain ⟨B4, hB4⟩ : ∃ B : Nat, B = B3 + 200 * n3 := ⟨_, rfl⟩
          have hNb4 : B4 ≤ 24060 := by omega
          rw [← hL4, ← hB4] at HST
          have HLN4 := Lib.hid hL4
          clear hL4 hB4 HO HB HK kk hi1 hN hlt hi
          go_loopw [3, 6] (fun v3 vi wr => RwRel w [.int .i64 hz, .slice a1 n1 c1, .slice a2 n2 c2, .slice a3 n3 c3, .slice a4 n4 c4, .slice a5 n5 c5, .slice a6 n6 c6] 2 intC L4 B4 (fun r : RouteM => r.rides ++ r.stays) ro n4 v3 vi wr) (fun _ v _ => n4 - (intOf v).toNat)
          case atStart => exact HST.out
          case round =>
            obtain ⟨i, N, c, A, rfl, rfl, hi, hN, HO, HB, HK⟩ := hrel
            by_cases hlt : i < n4
            · obtain ⟨a, ha'⟩ := at_in (k := i) ro HN4 hlt
              have hi1 : (i : Int) < (n4 : Int) := by omega
              have hs1 : w.heap.size + 1 ≤ wr.heap.size := HK.out.lt
              obtain ⟨ad, rfl, hS, sa, sc, ra, rc, ya, yc, x0, x1, x2, x3, hg⟩ := rts_at (H4.out.below HB.out) (H4'.out.keep (fun b hb => HB.out.block b hb)) ha'
              have hrl := HX.out a (List.mem_of_getElem? ha')
              have HAA := Lib.hid ha'
              clear ha'
              have hS2 : (ad.add (i * 4)).block < w.heap.size + 1 := by rw [block_of_add]; omega
              have kk : wr.cell? ⟨w.heap.size, 4, none⟩ = some (.slice (some ad) n4 c4) := HK.out.cell 4
              have hNi : N ≤ 100000 := by omega
              obtain ⟨r1, r2, r3⟩ := hrl
              have HS1 : Hid (∀ w', Below (w.heap.size + 1) wr w' → Rd w' (· < w.heap.size) sa (cs strC a.stops)) := Lib.hid (fun w' h => hg.hs.keep (fun b hb => h.block b (by omega)))
              have HS2 : Hid (∀ w', Below (w.heap.size + 1) wr w' → Rd w' (· < w.heap.size) ra (cs intC a.rides)) := Lib.hid (fun w' h => hg.hr.keep (fun b hb => h.block b (by omega)))
              have HS3 : Hid (∀ w', Below (w.heap.size + 1) wr w' → Rd w' (· < w.heap.size) ya (cs intC a.stays)) := Lib.hid (fun w' h => hg.hy.keep (fun b hb => h.block b (by omega)))
              have HC1 := Lib.hid (cs_each str_one a.stops)
              have HC2 := Lib.hid (cs_each int_one a.rides)
              have HC3 := Lib.hid (cs_each int_one a.stays)
              have HM1 : Hid ((cs strC a.stops).length = a.stops.length * 1) := Lib.hid (cs_length strC 1 (fun _ => rfl) _)
              have HM2 : Hid ((cs intC a.rides).length = a.rides.length * 1) := Lib.hid (cs_length intC 1 (fun _ => rfl) _)
              have HM3 : Hid ((cs intC a.stays).length = a.stays.length * 1) := Lib.hid (cs_length intC 1 (fun _ => rfl) _)
              clear hg
              generalize a.stops.length = m1 at *
              generalize a.rides.length = m2 at *
              generalize a.stays.length = m3 at *
              have KC : Hid (∀ w', Below (w.heap.size + 1) wr w' → w'.cell? ⟨(ad.add (i * 4)).block, (ad.add (i * 4)).off + 2, none⟩ = some (.slice ra m2 rc) ∧ w'.cell? ⟨(ad.add (i * 4)).block, (ad.add (i * 4)).off + 3, none⟩ = some (.slice ya m3 yc) ∧ w'.cell? ⟨w.heap.size, 4, none⟩ = some (.slice (some ad) n4 c4)) := Lib.hid (fun w' h => ⟨(cell_keep (p := ⟨(ad.add (i * 4)).block, (ad.add (i * 4)).off + 2, none⟩) h hS2).trans x2, (cell_keep (p := ⟨(ad.add (i * 4)).block, (ad.add (i * 4)).off + 3, none⟩) h hS2).trans x3, (cell_keep (p := ⟨w.heap.size, 4, none⟩) h (Nat.lt_succ_self _)).trans kk⟩)
              go_wp2
              go_region_held_law (fun w' => w'.cell? ⟨(ad.add (i * 4)).block, (ad.add (i * 4)).off + 2, none⟩ = some (.slice ra m2 rc) ∧ w'.cell? ⟨(ad.add (i * 4)).block, (ad.add (i * 4)).off + 3, none⟩ = some (.slice ya m3 yc) ∧ w'.cell? ⟨w.heap.size, 4, none⟩ = some (.slice (some ad) n4 c4)) (first | exact KC.out _ HQ.out | exact KC.out _ HQ1.out | exact KC.out _ (by repeat (first | exact Below.refl _ _ | exact one_box _ _ | refine below_drewN ?_ _ | refine below_drew ?_ | refine Below.alloc ?_ (by first | omega | (simp; done) | (simp; omega)) _)) | go_keep) (first | (refine step_append_rd (by rfl) (.tmp 79) (.tmp 85) 36 (by rfl) (w.heap.size + 1) 2 _ 1 8 Tryz.underlying36 info_I64 rfl (by omega) (by omega) (.slice A1 (N + m2) d1) (N + m2) (cs intC (L4 ++ (ro.take i).flatMap (fun r : RouteM => r.rides ++ r.stays)) ++ cs intC a.rides) (by rfl) hown1 _ ya m3 yc (cs intC a.stays) (by rfl) HM3 (Lib.hid (HS3.out _ HQ1.out)) HC3.out (by omega) (by have := HOW1.out.2.lt; omega) ?_; intro v' w5 hown hbel hg; obtain ⟨A', c', rfl, -, -⟩ := own_form hown.out; have HQ : Hid (Below (w.heap.size + 1) wr w5) := Lib.hid (below_two hbel.out HQ1.out)) | (refine step_append_rd (by rfl) (.tmp 72) (.tmp 78) 36 (by rfl) (w.heap.size + 1) 2 _ 1 8 Tryz.underlying36 info_I64 rfl (by omega) (by omega) (.slice A N c) N (cs intC (L4 ++ (ro.take i).flatMap (fun r : RouteM => r.rides ++ r.stays))) (by rfl) (Lib.hid (own_after HO.out (by repeat (first | exact Below.refl _ _ | exact one_box _ _ | refine below_drewN ?_ _ | refine below_drew ?_ | refine Below.alloc ?_ (by first | omega | (simp; done) | (simp; omega)) _)))) _ ra m2 rc (cs intC a.rides) (by rfl) HM2 (Lib.hid (HS2.out _ (by repeat (first | exact Below.refl _ _ | exact one_box _ _ | refine below_drewN ?_ _ | refine below_drew ?_ | refine Below.alloc ?_ (by first | omega | (simp; done) | (simp; omega)) _)))) HC2.out (by omega) (by first | omega | (simp; omega)) ?_; intro v' w4 hown1 hbel1 hg1; obtain ⟨A1, d1, rfl, -, -⟩ := own_form hown1.out; have HQ1 : Hid (Below (w.heap.size + 1) wr w4) := Lib.hid (below_two hbel1.out (by repeat (first | exact Below.refl _ _ | exact one_box _ _ | refine below_drewN ?_ _ | refine below_drew ?_ | refine Below.alloc ?_ (by first | omega | (simp; done) | (simp; omega)) _))); have HOW1 := Lib.hid (below_alive2 HB.out HK.out hbel1.out (by repeat (first | exact Below.refl _ _ | exact one_box _ _ | refine below_drewN ?_ _ | refine below_drew ?_ | refine Below.alloc ?_ (by first | omega | (simp; done) | (simp; omega)) _)))) | fail)
              have OW : Below w.heap.size w w5 ∧ Blk w5 w.heap.size 29 [.int .i64 hz, .slice a1 n1 c1, .slice a2 n2 c2, .slice a3 n3 c3, .slice (some ad) n4 c4, .slice a5 n5 c5, .slice a6 n6 c6] := ⟨HOW1.out.1.trans (hbel.out.mono (by omega)), HOW1.out.2.below hbel.out (by omega)⟩
              have hownF := hown.out
              rw [List.append_assoc, Nat.add_assoc] at hownF
              go_wp2
              rw [Nat.add_assoc]
              go_roundw
              case rel => exact rw_more HAA.out (by omega) (by omega) (by rw [cs_append]) hownF OW.1 OW.2
              case measure => simp [intOf]; omega
            · obtain rfl : n4 = i := by omega
              have hi1 : ¬ (n4 : Int) < (n4 : Int) := by omega
              have kk : wr.cell? ⟨w.heap.size, 4, none⟩ = some (.slice a4 n4 c4) := HK.out.cell 4
              have HST := Lib.hid (rw_start (bx := [.int .i64 hz, .slice a1 n1 c1, .slice a2 n2 c2, .slice a3 n3 c3, .slice a4 n4 c4, .slice a5 n5 c5, .slice a6 n6 c6]) (B4 + 200 * n4) (fun p : TripM => [p.frm, p.every, p.til]) tr n5 hN (rw_over HN4.out HO.out) HB.out HK.out)
              go_wp2
              obtain ⟨L5, hL5⟩ : ∃ L, L = L4 ++ ro.flatMap (fun r : RouteM => r.rides ++ r.stays) := ⟨_, rfl⟩
              obtain ⟨B5, hB5⟩ : ∃ B : Nat, B = B4 + 200 * n4 := ⟨_, rfl⟩
              have hNb5 : B5 ≤ 36060 := by omega
              rw [← hL5, ← hB5] at HST
              have HLN5 := Lib.hid hL5
              clear hL5 hB5 HO HB HK kk hi1 hN hlt hi
              go_loopw [3, 7] (fun v3 vi wr => RwRel w [.int .i64 hz, .slice a1 n1 c1, .slice a2 n2 c2, .slice a3 n3 c3, .slice a4 n4 c4, .slice a5 n5 c5, .slice a6 n6 c6] 2 intC L5 B5 (fun p : TripM => [p.frm, p.every, p.til]) tr n5 v3 vi wr) (fun _ v _ => n5 - (intOf v).toNat)
              case atStart => exact HST.out
              case round =>
                obtain ⟨i, N, c, A, rfl, rfl, hi, hN, HO, HB, HK⟩ := hrel
                by_cases hlt : i < n5
                · obtain ⟨a, ha'⟩ := at_in (k := i) tr HN5 hlt
                  have hi1 : (i : Int) < (n5 : Int) := by omega
                  have hs1 : w.heap.size + 1 ≤ wr.heap.size := HK.out.lt
                  obtain ⟨ad, rfl, hS, x0, xs⟩ := rd_at 5 (fun _ => rfl) (by omega) (H5.out.below HB.out) ha'
                  have HAA := Lib.hid ha'
                  clear ha'
                  obtain ⟨nm, rt, tf, te, tu⟩ := a
                  have hS2 : (ad.add (i * 5)).block < w.heap.size + 1 := by rw [block_of_add]; omega
                  have x2 : wr.cell? ⟨(ad.add (i * 5)).block, (ad.add (i * 5)).off + 2, none⟩ = some (.int .i64 tf) := (xs 2 (by omega)).resolve_right (by decide)
                  have x3 : wr.cell? ⟨(ad.add (i * 5)).block, (ad.add (i * 5)).off + 3, none⟩ = some (.int .i64 te) := (xs 3 (by omega)).resolve_right (by decide)
                  have x4 : wr.cell? ⟨(ad.add (i * 5)).block, (ad.add (i * 5)).off + 4, none⟩ = some (.int .i64 tu) := (xs 4 (by omega)).resolve_right (by decide)
                  have kk : wr.cell? ⟨w.heap.size, 5, none⟩ = some (.slice (some ad) n5 c5) := HK.out.cell 5
                  have hNi : N ≤ 100000 := by omega
                  clear xs x0
                  have KC : Hid (∀ w', Below (w.heap.size + 1) wr w' → w'.cell? ⟨(ad.add (i * 5)).block, (ad.add (i * 5)).off + 2, none⟩ = some (.int .i64 tf) ∧ w'.cell? ⟨(ad.add (i * 5)).block, (ad.add (i * 5)).off + 3, none⟩ = some (.int .i64 te) ∧ w'.cell? ⟨(ad.add (i * 5)).block, (ad.add (i * 5)).off + 4, none⟩ = some (.int .i64 tu) ∧ w'.cell? ⟨w.heap.size, 5, none⟩ = some (.slice (some ad) n5 c5)) := Lib.hid (fun w' h => ⟨(cell_keep (p := ⟨(ad.add (i * 5)).block, (ad.add (i * 5)).off + 2, none⟩) h hS2).trans x2, (cell_keep (p := ⟨(ad.add (i * 5)).block, (ad.add (i * 5)).off + 3, none⟩) h hS2).trans x3, (cell_keep (p := ⟨(ad.add (i * 5)).block, (ad.add (i * 5)).off + 4, none⟩) h hS2).trans x4, (cell_keep (p := ⟨w.heap.size, 5, none⟩) h (Nat.lt_succ_self _)).trans kk⟩)
                  go_wp2
                  go_region_held_law (fun w' => w'.cell? ⟨(ad.add (i * 5)).block, (ad.add (i * 5)).off + 2, none⟩ = some (.int .i64 tf) ∧ w'.cell? ⟨(ad.add (i * 5)).block, (ad.add (i * 5)).off + 3, none⟩ = some (.int .i64 te) ∧ w'.cell? ⟨(ad.add (i * 5)).block, (ad.add (i * 5)).off + 4, none⟩ = some (.int .i64 tu) ∧ w'.cell? ⟨w.heap.size, 5, none⟩ = some (.slice (some ad) n5 c5)) (first | exact KC.out _ HQ.out | exact KC.out _ (by repeat (first | exact Below.refl _ _ | exact one_box _ _ | refine below_drewN ?_ _ | refine below_drew ?_ | refine Below.alloc ?_ (by first | omega | (simp; done) | (simp; omega)) _)) | go_keep) (first | (refine step_append_rd (by rfl) (.tmp 94) (.tmp 113) 36 (by rfl) (w.heap.size + 1) 2 _ 1 8 Tryz.underlying36 info_I64 rfl (by omega) (by omega) (.slice A N c) N (cs intC (L5 ++ (tr.take i).flatMap (fun p : TripM => [p.frm, p.every, p.til]))) (by rfl) (Lib.hid (own_after HO.out (by repeat (first | exact Below.refl _ _ | exact one_box _ _ | refine below_drewN ?_ _ | refine below_drew ?_ | refine Below.alloc ?_ (by first | omega | (simp; done) | (simp; omega)) _)))) _ _ 3 3 [.int .i64 tf, .int .i64 te, .int .i64 tu] (by rfl) (Lib.hid rfl) (by first | exact Lib.hid (litd_at2 _ _ _ _ _ (by simp) rfl) | exact Lib.hid (lit_at _ _ _ _ _ (by simp) rfl)) (by simp [Value.oneCell']) (by omega) (by first | omega | (simp; omega)) ?_; intro v' w4 hown hbel hg; obtain ⟨A', c', rfl, -, -⟩ := own_form hown.out; have HQ : Hid (Below (w.heap.size + 1) wr w4) := Lib.hid (below_two hbel.out (by repeat (first | exact Below.refl _ _ | exact one_box _ _ | refine below_drewN ?_ _ | refine below_drew ?_ | refine Below.alloc ?_ (by first | omega | (simp; done) | (simp; omega)) _)))) | fail)
                  have OW := below_alive2 HB.out HK.out hbel.out (by repeat (first | exact Below.refl _ _ | exact one_box _ _ | refine below_drewN ?_ _ | refine below_drew ?_ | refine Below.alloc ?_ (by first | omega | (simp; done) | (simp; omega)) _))
                  go_wp2
                  go_roundw
                  case rel => exact rw_more HAA.out (by omega) (by omega) rfl hown.out OW.1 OW.2
                  case measure => simp [intOf]; omega
                · obtain rfl : n5 = i := by omega
                  have hi1 : ¬ (n5 : Int) < (n5 : Int) := by omega
                  have kk : wr.cell? ⟨w.heap.size, 5, none⟩ = some (.slice a5 n5 c5) := HK.out.cell 5
                  have HST := Lib.hid (rw_start (bx := [.int .i64 hz, .slice a1 n1 c1, .slice a2 n2 c2, .slice a3 n3 c3, .slice a4 n4 c4, .slice a5 n5 c5, .slice a6 n6 c6]) (B5 + 200 * n5) (fun p : HazM => [p.times.frm, p.times.every, p.times.len]) ha n6 hN (rw_over HN5.out HO.out) HB.out HK.out)
                  go_wp2
                  obtain ⟨L6, hL6⟩ : ∃ L, L = L5 ++ tr.flatMap (fun p : TripM => [p.frm, p.every, p.til]) := ⟨_, rfl⟩
                  obtain ⟨B6, hB6⟩ : ∃ B : Nat, B = B5 + 200 * n5 := ⟨_, rfl⟩
                  have hNb6 : B6 ≤ 48060 := by omega
                  rw [← hL6, ← hB6] at HST
                  have HLN6 := Lib.hid hL6
                  clear hL6 hB6 HO HB HK kk hi1 hN hlt hi
                  go_loopw [3, 8] (fun v3 vi wr => RwRel w [.int .i64 hz, .slice a1 n1 c1, .slice a2 n2 c2, .slice a3 n3 c3, .slice a4 n4 c4, .slice a5 n5 c5, .slice a6 n6 c6] 2 intC L6 B6 (fun p : HazM => [p.times.frm, p.times.every, p.times.len]) ha n6 v3 vi wr) (fun _ v _ => n6 - (intOf v).toNat)
                  case atStart => exact HST.out
                  case round =>
                    obtain ⟨i, N, c, A, rfl, rfl, hi, hN, HO, HB, HK⟩ := hrel
                    by_cases hlt : i < n6
                    · obtain ⟨a, ha'⟩ := at_in (k := i) ha HN6 hlt
                      have hi1 : (i : Int) < (n6 : Int) := by omega
                      have hs1 : w.heap.size + 1 ≤ wr.heap.size := HK.out.lt
                      obtain ⟨ad, rfl, hS, x0, xs⟩ := rd_at 5 (fun _ => rfl) (by omega) (H6.out.below HB.out) ha'
                      have HAA := Lib.hid ha'
                      clear ha'
                      obtain ⟨nm, on_, ⟨tf, te, tl⟩⟩ := a
                      have hS2 : (ad.add (i * 5)).block < w.heap.size + 1 := by rw [block_of_add]; omega
                      have x2 : wr.cell? ⟨(ad.add (i * 5)).block, (ad.add (i * 5)).off + 2, none⟩ = some (.int .i64 tf) := (xs 2 (by omega)).resolve_right (by decide)
                      have x3 : wr.cell? ⟨(ad.add (i * 5)).block, (ad.add (i * 5)).off + 2 + 1, none⟩ = some (.int .i64 te) := (xs 3 (by omega)).resolve_right (by decide)
                      have x4 : wr.cell? ⟨(ad.add (i * 5)).block, (ad.add (i * 5)).off + 2 + 2, none⟩ = some (.int .i64 tl) := (xs 4 (by omega)).resolve_right (by decide)
                      have kk : wr.cell? ⟨w.heap.size, 6, none⟩ = some (.slice (some ad) n6 c6) := HK.out.cell 6
                      have hNi : N ≤ 100000 := by omega
                      clear xs x0
                      have KC : Hid (∀ w', Below (w.heap.size + 1) wr w' → w'.cell? ⟨(ad.add (i * 5)).block, (ad.add (i * 5)).off + 2, none⟩ = some (.int .i64 tf) ∧ w'.cell? ⟨(ad.add (i * 5)).block, (ad.add (i * 5)).off + 2 + 1, none⟩ = some (.int .i64 te) ∧ w'.cell? ⟨(ad.add (i * 5)).block, (ad.add (i * 5)).off + 2 + 2, none⟩ = some (.int .i64 tl) ∧ w'.cell? ⟨w.heap.size, 6, none⟩ = some (.slice (some ad) n6 c6)) := Lib.hid (fun w' h => ⟨(cell_keep (p := ⟨(ad.add (i * 5)).block, (ad.add (i * 5)).off + 2, none⟩) h hS2).trans x2, (cell_keep (p := ⟨(ad.add (i * 5)).block, (ad.add (i * 5)).off + 2 + 1, none⟩) h hS2).trans x3, (cell_keep (p := ⟨(ad.add (i * 5)).block, (ad.add (i * 5)).off + 2 + 2, none⟩) h hS2).trans x4, (cell_keep (p := ⟨w.heap.size, 6, none⟩) h (Nat.lt_succ_self _)).trans kk⟩)
                      go_wp2
                      go_region_held_law (fun w' => w'.cell? ⟨(ad.add (i * 5)).block, (ad.add (i * 5)).off + 2, none⟩ = some (.int .i64 tf) ∧ w'.cell? ⟨(ad.add (i * 5)).block, (ad.add (i * 5)).off + 2 + 1, none⟩ = some (.int .i64 te) ∧ w'.cell? ⟨(ad.add (i * 5)).block, (ad.add (i * 5)).off + 2 + 2, none⟩ = some (.int .i64 tl) ∧ w'.cell? ⟨w.heap.size, 6, none⟩ = some (.slice (some ad) n6 c6)) (first | exact KC.out _ HQ.out | exact KC.out _ (by repeat (first | exact Below.refl _ _ | exact one_box _ _ | refine below_drewN ?_ _ | refine below_drew ?_ | refine Below.alloc ?_ (by first | omega | (simp; done) | (simp; omega)) _)) | go_keep) (first | (refine step_append_rd (by rfl) (.tmp 122) (.tmp 144) 36 (by rfl) (w.heap.size + 1) 2 _ 1 8 Tryz.underlying36 info_I64 rfl (by omega) (by omega) (.slice A N c) N (cs intC (L6 ++ (ha.take i).flatMap (fun p : HazM => [p.times.frm, p.times.every, p.times.len]))) (by rfl) (Lib.hid (own_after HO.out (by repeat (first | exact Below.refl _ _ | exact one_box _ _ | refine below_drewN ?_ _ | refine below_drew ?_ | refine Below.alloc ?_ (by first | omega | (simp; done) | (simp; omega)) _)))) _ _ 3 3 [.int .i64 tf, .int .i64 te, .int .i64 tl] (by rfl) (Lib.hid rfl) (by first | exact Lib.hid (litd_at2 _ _ _ _ _ (by simp) rfl) | exact Lib.hid (lit_at _ _ _ _ _ (by simp) rfl)) (by simp [Value.oneCell']) (by omega) (by first | omega | (simp; omega)) ?_; intro v' w4 hown hbel hg; obtain ⟨A', c', rfl, -, -⟩ := own_form hown.out; have HQ : Hid (Below (w.heap.size + 1) wr w4) := Lib.hid (below_two hbel.out (by repeat (first | exact Below.refl _ _ | exact one_box _ _ | refine below_drewN ?_ _ | refine below_drew ?_ | refine Below.alloc ?_ (by first | omega | (simp; done) | (simp; omega)) _)))) | fail)
                      have OW := below_alive2 HB.out HK.out hbel.out (by repeat (first | exact Below.refl _ _ | exact one_box _ _ | refine below_drewN ?_ _ | refine below_drew ?_ | refine Below.alloc ?_ (by first | omega | (simp; done) | (simp; omega)) _))
                      go_wp2
                      go_roundw
                      case rel => exact rw_more HAA.out (by omega) (by omega) rfl hown.out OW.1 OW.2
                      case measure => simp [intOf]; omega
                    · obtain rfl : n6 = i := by omega
                      have hi1 : ¬ (n6 : Int) < (n6 : Int) := by omega
                      have kk : wr.cell? ⟨w.heap.size, 6, none⟩ = some (.slice a6 n6 c6) := HK.out.cell 6
                      have HFIN := Lib.hid (rw_over HN6.out HO.out)
                      go_wp2
                      go_ret
                      obtain ⟨A', c', e', -, hrd⟩ := own_form HFIN.out
                      injection e' with e1 e2 e3
                      subst e1
                      subst e3
                      have hlen := HFIN.out.1
                      rw [cs_length intC 1 (fun _ => rfl)] at hlen
                      rw [HLN6.out, HLN5.out, HLN4.out, HLN3.out, HLN2.out] at hrd hlen
                      simp only [List.append_assoc] at hrd hlen
                      exact ⟨_, _, _, rfl, by omega, Lib.hid (by rw [Nat.mul_one, Nat.mul_one] at hlen; exact hlen.symm), Lib.hid (rd_old hrd), HB.out⟩
end Go.Proofs.YtcmlmfcnbmpajaaGreatDoor.Sh

