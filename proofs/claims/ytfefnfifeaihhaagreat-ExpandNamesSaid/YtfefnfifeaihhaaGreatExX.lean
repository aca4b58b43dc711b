/- Package expand: Check, walked. Conditions: the world is light (WLt). -/
import Derived.Test.YtfefnfifeaihhaaGreatExL
import Derived.Test.YtfefnfifeaihhaaGreatExP
set_option linter.unusedVariables false
set_option linter.unusedSimpArgs false
set_option maxHeartbeats 40000000
set_option maxRecDepth 100000
namespace Go.Proofs.YtfefnfifeaihhaaGreat.Wo
open Go.ChangeShapes Go.WideShapes Go.ChangeAt Go.RowKit Go.Maps
open Lx Sh
/-- what Check answers of a run that is one of its trip's -/
def ckR (x : WorldM) (r : RouteO) (la ld : List Int) : Int := if timB la ld = false ∨ la.length ≠ r.stops.length then 2 else if x.horizon < la[la.length - 1]?.getD 0 then 9 else 0
theorem exck_bad (x : WorldM) (p : WoA) (w : World) (h : Wo w (· < w.heap.size) x p) (hl : WLt x) (tr no : Int) (A B : Option Addr) (n m c d : Nat) (he : (wrongW x).err ≠ 0) : Calls Tryz.prog 15 #[woQ x p, .agg #[.int .i64 tr, .int .i64 no, .slice A n c, .slice B m d]] w (QuietI w 2) := by
  have HM : Hid (∀ w', Below w.heap.size w w' → Calls Tryz.prog 29 #[woQ x p] w' (BPost w' (decide ((wrongW x).err = 0)))) := HH (fun w' hb => maybe_any x p w' (h.later hb) hl)
  rw [decide_eq_false he] at HM
  clear h hl he
  go_enter Tryz.func15, Tryz.ntmps15
  go_wp2_with (go_at_call 29; (with_reducible refine (HM.out _ ?q).mono ?_); (case q => exact two_box _ _ _); rintro e w1 ⟨rfl, hb⟩; have HB1 := HH (keep_trans (two_box _ _ _) hb); have KW1 : Hid (Blk w1 w.heap.size 37 (woL x p)) := HH (((Blk.new w 37 (woL x p)).alloc (.cells #[.int .i64 tr, .int .i64 no, .slice A n c, .slice B m d] 24)).after hb); have KR1 := HH ((Blk.new2 w (.cells (woL x p).toArray 37) 24 [.int .i64 tr, .int .i64 no, .slice A n c, .slice B m d]).after hb); clear hb)
  go_ret
  exact ⟨rfl, HB1.out⟩
theorem exck_none (x : WorldM) (p : WoA) (w : World) (h : Wo w (· < w.heap.size) x p) (hl : WLt x) (tr no : Int) (A B : Option Addr) (n m c d : Nat) (he : (wrongW x).err = 0) (hrow : rowW x tr = none) : Calls Tryz.prog 15 #[woQ x p, .agg #[.int .i64 tr, .int .i64 no, .slice A n c, .slice B m d]] w (QuietI w 5) := by
  have HM : Hid (∀ w', Below w.heap.size w w' → Calls Tryz.prog 29 #[woQ x p] w' (BPost w' (decide ((wrongW x).err = 0)))) := HH (fun w' hb => maybe_any x p w' (h.later hb) hl)
  have HR : Hid (∀ w', Below w.heap.size w w' → Calls Tryz.prog 30 #[woQ x p, .int .i64 tr] w' (RoAny w.heap.size w' x tr)) := HH (fun w' hb => rowOf_both x p w.heap.size w' (h.keep fun b hl => hb.block b hl) hb.size hl (goodw he) tr)
  rw [decide_eq_true he] at HM
  unfold RoAny at HR
  rw [hrow] at HR
  have hh : hasB 0 no = false := by unfold hasB; by_cases h0 : 0 ≤ no <;> simp [h0] <;> omega
  have HHas : Hid (∀ w' f, Calls Tryz.prog 31 #[.agg #[.int .i64 (0), f], .int .i64 no] w' (fun e w'' => e = .returned (.bool false) ∧ Below w'.heap.size w' w'')) := HH (fun w' f => by have := has_any w' (0) no f; rw [hh] at this; exact this)
  clear h hl he hrow hh
  go_enter Tryz.func15, Tryz.ntmps15
  go_upto_region 3 with (go_at_call 29; (with_reducible refine (HM.out _ ?q).mono ?_); (case q => exact two_box _ _ _); rintro e w1 ⟨rfl, hb⟩; have HB1 := HH (keep_trans (two_box _ _ _) hb); have KW1 : Hid (Blk w1 w.heap.size 37 (woL x p)) := HH (((Blk.new w 37 (woL x p)).alloc (.cells #[.int .i64 tr, .int .i64 no, .slice A n c, .slice B m d] 24)).after hb); have KR1 := HH ((Blk.new2 w (.cells (woL x p).toArray 37) 24 [.int .i64 tr, .int .i64 no, .slice A n c, .slice B m d]).after hb); clear hb)
  have hS0 : Hid (Blk w1.drew w.heap.size 37 (woL x p) ∧ Blk w1.drew (w.heap.size + 1) 24 [.int .i64 tr, .int .i64 no, .slice A n c, .slice B m d]) := HH ⟨blk_dr KW1.out, blk_dr KR1.out⟩
  refine wp_region_held_drew (S := fun w' => Hid (Blk w' w.heap.size 37 (woL x p) ∧ Blk w' (w.heap.size + 1) 24 [.int .i64 tr, .int .i64 no, .slice A n c, .slice B m d])) (by kernel_rfl) ?_ (fun hHeld => ?_)
  · exact hS0
  refine tak 0 ?va0 rfl ?ha0 ?ra0
  case ha0 => (intro w' hSw; obtain ⟨z0, z1, z2, z3, z4, z5, z6, z7, z8, z9, z10, z11⟩ := wo_cells hSw.out.1; clear hSw; go_simp; try with_reducible rfl)
  simp only [ptk]
  refine tak 1 ?va1 rfl ?ha1 ?ra1
  case ha1 => (intro w' hSw; clear hSw; go_simp; try with_reducible rfl)
  simp only [ptk]
  refine tak 2 ?va2 rfl ?ha2 ?ra2
  case ha2 => (intro w' hSw; have y0 : w'.cell? ⟨w.heap.size + 1, 0, none⟩ = some (.int .i64 tr) := hSw.out.2.cell 0; clear hSw; go_simp; try with_reducible rfl)
  simp only [ptk]
  refine tak 4 ?va4 rfl ?ha4 ?ra4
  case ha4 => (intro w' hSw; clear hSw; go_simp; try with_reducible rfl)
  simp only [ptk]
  refine tak 5 ?va5 rfl ?ha5 ?ra5
  case ha5 => (intro w' hSw; have y1 : w'.cell? ⟨w.heap.size + 1, 1, none⟩ = some (.int .i64 no) := hSw.out.2.cell 1; clear hSw; go_simp; try with_reducible rfl)
  simp only [ptk]
  refine rdy [3] ?_
  refine AllReadyH.cons rfl (fun K hK => ?_) AllReadyH.nil
  go_simp
  go_at_call 30
  refine (HR.out _ (below_drew HB1.out)).mono ?_
  rintro e' w2 ⟨rfl, HB2⟩
  have B12 := HH (keep_trans (below_drew (Below.refl w1.heap.size w1)) HB2)
  refine hK.out _ _ (HH ⟨KW1.out.after B12.out, KR1.out.after B12.out⟩) (fun _ => ?_)
  clear hK K hHeld
  refine rdy [6] ?_
  refine AllReadyH.cons rfl (fun K hK => ?_) AllReadyH.nil
  go_simp
  go_at_call 31
  refine (HHas.out _ _).mono ?_
  rintro e' w3 ⟨rfl, hb3⟩
  have B13 := HH (keep_trans B12.out hb3)
  have HB3 := HH (keep_trans HB1.out B13.out)
  refine hK.out _ _ (HH ⟨KW1.out.after B13.out, KR1.out.after B13.out⟩) (fun _ => ?_)
  clear hK K hb3
  refine tak 7 ?va7 rfl ?ha7 ?ra7
  case ha7 => (intro w' hSw; clear hSw; go_simp; try with_reducible rfl)
  simp only [ptk]
  refine wpAnyH_done (by kernel_rfl) ?_ _
  go_wp2
  go_ret
  exact ⟨rfl, HB3.out⟩
theorem exck_over (x : WorldM) (p : WoA) (w : World) (h : Wo w (· < w.heap.size) x p) (hl : WLt x) (tr no : Int) (A B : Option Addr) (n m c d : Nat) (he : (wrongW x).err = 0) (t : TripO) (r : RouteO) (hrow : rowW x tr = some (t, r)) (hh : hasB (cntT x.horizon r t) no = false) : Calls Tryz.prog 15 #[woQ x p, .agg #[.int .i64 tr, .int .i64 no, .slice A n c, .slice B m d]] w (QuietI w 5) := by
  have HM : Hid (∀ w', Below w.heap.size w w' → Calls Tryz.prog 29 #[woQ x p] w' (BPost w' (decide ((wrongW x).err = 0)))) := HH (fun w' hb => maybe_any x p w' (h.later hb) hl)
  have HR : Hid (∀ w', Below w.heap.size w w' → Calls Tryz.prog 30 #[woQ x p, .int .i64 tr] w' (RoAny w.heap.size w' x tr)) := HH (fun w' hb => rowOf_both x p w.heap.size w' (h.keep fun b hl => hb.block b hl) hb.size hl (goodw he) tr)
  rw [decide_eq_true he] at HM
  unfold RoAny at HR
  rw [hrow] at HR
  have HHas : Hid (∀ w' f, Calls Tryz.prog 31 #[.agg #[.int .i64 (cntT x.horizon r t), f], .int .i64 no] w' (fun e w'' => e = .returned (.bool false) ∧ Below w'.heap.size w' w'')) := HH (fun w' f => by have := has_any w' (cntT x.horizon r t) no f; rw [hh] at this; exact this)
  clear h hl he hrow hh
  go_enter Tryz.func15, Tryz.ntmps15
  go_upto_region 3 with (go_at_call 29; (with_reducible refine (HM.out _ ?q).mono ?_); (case q => exact two_box _ _ _); rintro e w1 ⟨rfl, hb⟩; have HB1 := HH (keep_trans (two_box _ _ _) hb); have KW1 : Hid (Blk w1 w.heap.size 37 (woL x p)) := HH (((Blk.new w 37 (woL x p)).alloc (.cells #[.int .i64 tr, .int .i64 no, .slice A n c, .slice B m d] 24)).after hb); have KR1 := HH ((Blk.new2 w (.cells (woL x p).toArray 37) 24 [.int .i64 tr, .int .i64 no, .slice A n c, .slice B m d]).after hb); clear hb)
  have hS0 : Hid (Blk w1.drew w.heap.size 37 (woL x p) ∧ Blk w1.drew (w.heap.size + 1) 24 [.int .i64 tr, .int .i64 no, .slice A n c, .slice B m d]) := HH ⟨blk_dr KW1.out, blk_dr KR1.out⟩
  refine wp_region_held_drew (S := fun w' => Hid (Blk w' w.heap.size 37 (woL x p) ∧ Blk w' (w.heap.size + 1) 24 [.int .i64 tr, .int .i64 no, .slice A n c, .slice B m d])) (by kernel_rfl) ?_ (fun hHeld => ?_)
  · exact hS0
  refine tak 0 ?va0 rfl ?ha0 ?ra0
  case ha0 => (intro w' hSw; obtain ⟨z0, z1, z2, z3, z4, z5, z6, z7, z8, z9, z10, z11⟩ := wo_cells hSw.out.1; clear hSw; go_simp; try with_reducible rfl)
  simp only [ptk]
  refine tak 1 ?va1 rfl ?ha1 ?ra1
  case ha1 => (intro w' hSw; clear hSw; go_simp; try with_reducible rfl)
  simp only [ptk]
  refine tak 2 ?va2 rfl ?ha2 ?ra2
  case ha2 => (intro w' hSw; have y0 : w'.cell? ⟨w.heap.size + 1, 0, none⟩ = some (.int .i64 tr) := hSw.out.2.cell 0; clear hSw; go_simp; try with_reducible rfl)
  simp only [ptk]
  refine tak 4 ?va4 rfl ?ha4 ?ra4
  case ha4 => (intro w' hSw; clear hSw; go_simp; try with_reducible rfl)
  simp only [ptk]
  refine tak 5 ?va5 rfl ?ha5 ?ra5
  case ha5 => (intro w' hSw; have y1 : w'.cell? ⟨w.heap.size + 1, 1, none⟩ = some (.int .i64 no) := hSw.out.2.cell 1; clear hSw; go_simp; try with_reducible rfl)
  simp only [ptk]
  refine rdy [3] ?_
  refine AllReadyH.cons rfl (fun K hK => ?_) AllReadyH.nil
  go_simp
  go_at_call 30
  refine (HR.out _ (below_drew HB1.out)).mono ?_
  rintro e' w2 ⟨T, F, I, rfl, -, HB2⟩
  have HB2 := HB2.out
  have B12 := HH (keep_trans (below_drew (Below.refl w1.heap.size w1)) HB2)
  refine hK.out _ _ (HH ⟨KW1.out.after B12.out, KR1.out.after B12.out⟩) (fun _ => ?_)
  clear hK K hHeld
  refine rdy [6] ?_
  refine AllReadyH.cons rfl (fun K hK => ?_) AllReadyH.nil
  go_simp
  go_at_call 31
  refine (HHas.out _ _).mono ?_
  rintro e' w3 ⟨rfl, hb3⟩
  have B13 := HH (keep_trans B12.out hb3)
  have HB3 := HH (keep_trans HB1.out B13.out)
  refine hK.out _ _ (HH ⟨KW1.out.after B13.out, KR1.out.after B13.out⟩) (fun _ => ?_)
  clear hK K hb3
  refine tak 7 ?va7 rfl ?ha7 ?ra7
  case ha7 => (intro w' hSw; clear hSw; go_simp; try with_reducible rfl)
  simp only [ptk]
  refine wpAnyH_done (by kernel_rfl) ?_ _
  go_wp2
  go_ret
  exact ⟨rfl, HB3.out⟩
theorem exck_main (x : WorldM) (p : WoA) (w : World) (h : Wo w (· < w.heap.size) x p) (hl : WLt x) (no : Int) (k : Nat) (A B : Option Addr) (n m c d : Nat) (he : (wrongW x).err = 0) (q : Nat) (t : TripO) (r : RouteO) (ht : x.trips[k]? = some t) (hq : t.route = (q : Int)) (hr : x.routes[q]? = some r) (hrow : rowW x (k : Int) = some (t, r)) (hh : hasB (cntT x.horizon r t) no = true) (la ld : List Int) (hn : Hid (n = la.length)) (hm : Hid (m = ld.length)) (hN : n ≤ 1000000) (hM : m ≤ 1000000) (hx : Rd w (· < w.heap.size) A (cs intC la)) (hy : Rd w (· < w.heap.size) B (cs intC ld)) : Calls Tryz.prog 15 #[woQ x p, .agg #[.int .i64 (k : Int), .int .i64 no, .slice A n c, .slice B m d]] w (QuietI w (ckR x r la ld)) := by
  have HM : Hid (∀ w', Below w.heap.size w w' → Calls Tryz.prog 29 #[woQ x p] w' (BPost w' (decide ((wrongW x).err = 0)))) := HH (fun w' hb => maybe_any x p w' (h.later hb) hl)
  have HR : Hid (∀ w', Below w.heap.size w w' → Calls Tryz.prog 30 #[woQ x p, .int .i64 (k : Int)] w' (RoAny w.heap.size w' x (k : Int))) := HH (fun w' hb => rowOf_both x p w.heap.size w' (h.keep fun b hl => hb.block b hl) hb.size hl (goodw he) (k : Int))
  rw [decide_eq_true he] at HM
  unfold RoAny at HR
  rw [hrow] at HR
  have HHas : Hid (∀ w' f, Calls Tryz.prog 31 #[.agg #[.int .i64 (cntT x.horizon r t), f], .int .i64 no] w' (fun e w'' => e = .returned (.bool true) ∧ Below w'.heap.size w' w'')) := HH (fun w' f => by have := has_any w' (cntT x.horizon r t) no f; rw [hh] at this; exact this)
  have HT : Hid (∀ w', Below w.heap.size w w' → Calls Tryz.prog 33 #[.agg #[.int .i64 (k : Int), .int .i64 no, .slice A n c, .slice B m d]] w' (BPost w' (timB la ld))) := HH (fun w' hb => timed_any w' (k : Int) no A B n c m d la ld hn hm hN hM (rd_later hx hb) (rd_later hy hb))
  have HE : Hid (timB la ld = true → ∀ w', Below w.heap.size w w' → Calls Tryz.prog 34 #[.slice A n c] w' (fun e w'' => e = .returned (.int .i64 (la[la.length - 1]?.getD 0)) ∧ w' = w'')) := HH (fun htt w' hb => end_any w' A n c la _ hn hN (by
    have := (tim_iff.1 htt).1
    rw [hn.out, List.getElem?_eq_getElem (by omega)]; rfl) (rd_later hx hb))
  have hi := (List.getElem?_eq_some_iff.1 ht).1
  have hqq := (List.getElem?_eq_some_iff.1 hr).1
  obtain ⟨ad, e1, hS, h0, hj⟩ := rd_at 4 (fun _ => rfl) (by omega) h.r5 ht
  obtain ⟨cr, hcr, hcr'⟩ := h.r4
  obtain ⟨bd, e2, hSb, sa, sc, ra, rc, ya, yc, g0, g1, g2, hro⟩ := rtos_at hcr hcr' hr
  have m0 : w.cell? (ad.add (k * 4)) = some (.int .i64 (q : Int)) := by rw [← hq]; exact h0
  have lA : (ad.add (k * 4)).block < w.heap.size := by rw [block_of_add]; exact hS
  have lB : (bd.add (q * 3)).block < w.heap.size := by rw [block_of_add]; exact hSb
  have HC := HH (fun (w' : World) (hb : Below w.heap.size w w') => (And.intro ((cell_keep hb lA).trans m0) ((cell_keep hb lB).trans g0) : w'.cell? (ad.add (k * 4)) = some (.int .i64 (q : Int)) ∧ w'.cell? (bd.add (q * 3)) = some (.slice sa r.stops.length sc)))
  have E1 := HH e1
  have E2 := HH e2
  clear h hl he hrow hh hx hy h0 hj hcr hcr' hro g0 g1 g2 m0 lA lB ht hr hS hSb e1 e2 hq
  go_enter Tryz.func15, Tryz.ntmps15
  go_upto_region 3 with (go_at_call 29; (with_reducible refine (HM.out _ ?q).mono ?_); (case q => exact two_box _ _ _); rintro e w1 ⟨rfl, hb⟩; have HB1 := HH (keep_trans (two_box _ _ _) hb); have KW1 : Hid (Blk w1 w.heap.size 37 (woL x p)) := HH (((Blk.new w 37 (woL x p)).alloc (.cells #[.int .i64 (k : Int), .int .i64 no, .slice A n c, .slice B m d] 24)).after hb); have KR1 := HH ((Blk.new2 w (.cells (woL x p).toArray 37) 24 [.int .i64 (k : Int), .int .i64 no, .slice A n c, .slice B m d]).after hb); clear hb)
  have hS0 : Hid (Blk w1.drew w.heap.size 37 (woL x p) ∧ Blk w1.drew (w.heap.size + 1) 24 [.int .i64 (k : Int), .int .i64 no, .slice A n c, .slice B m d]) := HH ⟨blk_dr KW1.out, blk_dr KR1.out⟩
  refine wp_region_held_drew (S := fun w' => Hid (Blk w' w.heap.size 37 (woL x p) ∧ Blk w' (w.heap.size + 1) 24 [.int .i64 (k : Int), .int .i64 no, .slice A n c, .slice B m d])) (by kernel_rfl) ?_ (fun hHeld => ?_)
  · exact hS0
  refine tak 0 ?va0 rfl ?ha0 ?ra0
  case ha0 => (intro w' hSw; obtain ⟨z0, z1, z2, z3, z4, z5, z6, z7, z8, z9, z10, z11⟩ := wo_cells hSw.out.1; clear hSw; go_simp; try with_reducible rfl)
  simp only [ptk]
  refine tak 1 ?va1 rfl ?ha1 ?ra1
  case ha1 => (intro w' hSw; clear hSw; go_simp; try with_reducible rfl)
  simp only [ptk]
  refine tak 2 ?va2 rfl ?ha2 ?ra2
  case ha2 => (intro w' hSw; have y0 : w'.cell? ⟨w.heap.size + 1, 0, none⟩ = some (.int .i64 (k : Int)) := hSw.out.2.cell 0; clear hSw; go_simp; try with_reducible rfl)
  simp only [ptk]
  refine tak 4 ?va4 rfl ?ha4 ?ra4
  case ha4 => (intro w' hSw; clear hSw; go_simp; try with_reducible rfl)
  simp only [ptk]
  refine tak 5 ?va5 rfl ?ha5 ?ra5
  case ha5 => (intro w' hSw; have y1 : w'.cell? ⟨w.heap.size + 1, 1, none⟩ = some (.int .i64 no) := hSw.out.2.cell 1; clear hSw; go_simp; try with_reducible rfl)
  simp only [ptk]
  refine rdy [3] ?_
  refine AllReadyH.cons rfl (fun K hK => ?_) AllReadyH.nil
  go_simp
  go_at_call 30
  refine (HR.out _ (below_drew HB1.out)).mono ?_
  rintro e' w2 ⟨T, F, I, rfl, -, HB2⟩
  have HB2 := HB2.out
  have B12 := HH (keep_trans (below_drew (Below.refl w1.heap.size w1)) HB2)
  refine hK.out _ _ (HH ⟨KW1.out.after B12.out, KR1.out.after B12.out⟩) (fun _ => ?_)
  clear hK K hHeld
  refine rdy [6] ?_
  refine AllReadyH.cons rfl (fun K hK => ?_) AllReadyH.nil
  go_simp
  go_at_call 31
  refine (HHas.out _ _).mono ?_
  rintro e' w3 ⟨rfl, hb3⟩
  have B13 := HH (keep_trans B12.out hb3)
  have HB3 := HH (keep_trans HB1.out B13.out)
  refine hK.out _ _ (HH ⟨KW1.out.after B13.out, KR1.out.after B13.out⟩) (fun _ => ?_)
  clear hK K hb3
  refine tak 7 ?va7 rfl ?ha7 ?ra7
  case ha7 => (intro w' hSw; clear hSw; go_simp; try with_reducible rfl)
  simp only [ptk]
  refine wpAnyH_done (by kernel_rfl) ?_ _
  have c10 : w3.cell? ⟨w.heap.size, 10, none⟩ = some (.slice (some ad) x.trips.length p.d5) := by rw [← E1.out]; exact (KW1.out.after B13.out).cell 10
  have c9 : w3.cell? ⟨w.heap.size, 9, none⟩ = some (.slice (some bd) x.routes.length p.d4) := by rw [← E2.out]; exact (KW1.out.after B13.out).cell 9
  have c0 : w3.cell? ⟨w.heap.size, 0, none⟩ = some (.int .i64 x.horizon) := (KW1.out.after B13.out).cell 0
  obtain ⟨y0, y1, y2, y3⟩ : w3.cell? ⟨w.heap.size + 1, 0, none⟩ = some (.int .i64 (k : Int)) ∧ w3.cell? ⟨w.heap.size + 1, 1, none⟩ = some (.int .i64 no) ∧ w3.cell? ⟨w.heap.size + 1, 2, none⟩ = some (.slice A n c) ∧ w3.cell? ⟨w.heap.size + 1, 3, none⟩ = some (.slice B m d) := ⟨(KR1.out.after B13.out).cell 0, (KR1.out.after B13.out).cell 1, (KR1.out.after B13.out).cell 2, (KR1.out.after B13.out).cell 3⟩
  obtain ⟨f0, f1⟩ := HC.out w3 HB3.out
  have hi1 : (k : Int) < (x.trips.length : Int) := by omega
  have hq1 : (q : Int) < (x.routes.length : Int) := by omega
  go_wp2
  go_quiet (fail)
  cases htt : timB la ld with
  | false =>
    have hR : ckR x r la ld = 2 := by unfold ckR; rw [htt]; rfl
    rw [htt] at HT
    have HRR := HH hR
    clear HE hR htt
    go_wp2_with (go_at_call 33; (with_reducible refine (HT.out _ ?q).mono ?_); (case q => exact below_drewN HB3.out _); rintro e w4 ⟨rfl, hb⟩; have HB4 := HH (keep_trans (below_drewN HB3.out _) hb); clear hb)
    go_ret
    exact ⟨by rw [HRR.out]; rfl, HB4.out⟩
  | true =>
    rw [htt] at HT
    have HE := HH (HE.out htt)
    by_cases hlen : n ≠ r.stops.length
    · have hR : ckR x r la ld = 2 := by unfold ckR; rw [if_pos (.inr (by rw [← hn.out]; exact hlen))]
      have HRR := HH hR
      clear HE hR htt
      have hlen2 : ((n : Int) != (r.stops.length : Int)) = true := by simp; omega
      go_wp2_with (go_at_call 33; (with_reducible refine (HT.out _ ?q).mono ?_); (case q => exact below_drewN HB3.out _); rintro e w4 ⟨rfl, hb⟩; have HB4 := HH (keep_trans (below_drewN HB3.out _) hb); have B34 := HH (keep_trans (below_drewN (Below.refl _ _) _) hb); have y2 : w4.cell? ⟨w.heap.size + 1, 2, none⟩ = some (.slice A n c) := ((KR1.out.after B13.out).after B34.out).cell 2; clear hb)
      go_ret
      exact ⟨by rw [HRR.out]; rfl, HB4.out⟩
    have hlen : n = r.stops.length := Classical.not_not.1 hlen
    by_cases hfar : x.horizon < la[la.length - 1]?.getD 0
    · have hR : ckR x r la ld = 9 := by unfold ckR; rw [if_neg (by rw [htt, ← hn.out]; exact fun h => h.elim (fun h => by cases h) (fun h => h hlen)), if_pos hfar]
      have HRR := HH hR
      clear hR htt
      have hlen2 : ((n : Int) != (r.stops.length : Int)) = false := by simp; omega
      clear hlen
      generalize la[la.length - 1]?.getD 0 = z at *
      go_wp2_with (go_at_call 33; (with_reducible refine (HT.out _ ?q).mono ?_); (case q => exact below_drewN HB3.out _); rintro e w4 ⟨rfl, hb⟩; have HB4 := HH (keep_trans (below_drewN HB3.out _) hb); have B34 := HH (keep_trans (below_drewN (Below.refl _ _) _) hb); have c0 : w4.cell? ⟨w.heap.size, 0, none⟩ = some (.int .i64 x.horizon) := ((KW1.out.after B13.out).after B34.out).cell 0; have y2 : w4.cell? ⟨w.heap.size + 1, 2, none⟩ = some (.slice A n c) := ((KR1.out.after B13.out).after B34.out).cell 2; clear hb)
      go_quiet ((go_at_call 34; exact quiet_eq (HE.out _ (below_drewN HB4.out _))))
      go_wp2
      go_ret
      exact ⟨by rw [HRR.out]; rfl, below_drewN HB4.out _⟩
    · have hR : ckR x r la ld = 0 := by unfold ckR; rw [if_neg (by rw [htt, ← hn.out]; exact fun h => h.elim (fun h => by cases h) (fun h => h hlen)), if_neg hfar]
      have HRR := HH hR
      clear hR htt
      have hlen2 : ((n : Int) != (r.stops.length : Int)) = false := by simp; omega
      clear hlen
      generalize la[la.length - 1]?.getD 0 = z at *
      go_wp2_with (go_at_call 33; (with_reducible refine (HT.out _ ?q).mono ?_); (case q => exact below_drewN HB3.out _); rintro e w4 ⟨rfl, hb⟩; have HB4 := HH (keep_trans (below_drewN HB3.out _) hb); have B34 := HH (keep_trans (below_drewN (Below.refl _ _) _) hb); have c0 : w4.cell? ⟨w.heap.size, 0, none⟩ = some (.int .i64 x.horizon) := ((KW1.out.after B13.out).after B34.out).cell 0; have y2 : w4.cell? ⟨w.heap.size + 1, 2, none⟩ = some (.slice A n c) := ((KR1.out.after B13.out).after B34.out).cell 2; clear hb)
      go_quiet ((go_at_call 34; exact quiet_eq (HE.out _ (below_drewN HB4.out _))))
      go_wp2
      go_ret
      exact ⟨by rw [HRR.out]; rfl, below_drewN HB4.out _⟩
end Go.Proofs.YtfefnfifeaihhaaGreat.Wo
