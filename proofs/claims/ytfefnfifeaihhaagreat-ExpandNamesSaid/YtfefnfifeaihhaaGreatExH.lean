/- The runs are there: package expand's makers, proved by walking their texts. Conditions: the route's numbers are ticks, and few. -/
import Derived.Test.YtfefnfifeaihhaaGreatExG
import Derived.Test.YtfefnfifeaihhaaGreatWoChk
set_option linter.unusedVariables false
set_option linter.unusedSimpArgs false
set_option maxHeartbeats 4000000
set_option maxRecDepth 100000
namespace Go.Proofs.YtfefnfifeaihhaaGreat.Wo
open Go.ChangeShapes Go.WideShapes Go.ChangeAt Go.RowKit Go.Maps
open Lx Sh
/-! ### the runs of a trip -/
/-- what a run's maker needs, as it lies -/
def RunsAt (w : World) (B0 : Nat) (rd st : List Int) (f s tr : Int) (T F I : Nat) : Prop :=
  ∃ (R n1 n m sc rc yc : Nat) (sa ra ya : Option Addr) (rt u : Int), n = rd.length ∧ m = st.length ∧ n ≤ 400 ∧ m ≤ 400 ∧ tks rd ∧ tks st ∧ Blk w T 56 [.int .i64 rt, .int .i64 f, .int .i64 s, .int .i64 u] ∧ Blk w F 104 [.func (.func 67) #[] #[.pointer (some ⟨R, 0, none⟩)]] ∧ Blk w I 3 [.int .i64 tr] ∧ Blk w R 59 [.slice sa n1 sc, .slice ra n rc, .slice ya m yc] ∧ B0 ≤ w.heap.size ∧ Rd w (· < B0) ra (cs intC rd) ∧ Rd w (· < B0) ya (cs intC st)
theorem rd_later {w w' : World} {A : Option Addr} {xs : List Value} (h : Rd w (· < w.heap.size) A xs) (hb : Below w.heap.size w w') : Rd w' (· < w'.heap.size) A xs := (h.below hb).more fun b h => Nat.lt_of_lt_of_le h hb.size
theorem RunsAt.later {w w' : World} {B0 : Nat} {rd st : List Int} {f s tr : Int} {T F I : Nat} (h : RunsAt w B0 rd st f s tr T F I) (hb : Below w.heap.size w w') : RunsAt w' B0 rd st f s tr T F I := by
  obtain ⟨R, n1, n, m, sc, rc, yc, sa, ra, ya, rt, u, h1, h2, h3, h4, h5, h6, b1, b2, b3, b4, b0, b5, b6⟩ := h
  exact ⟨R, n1, n, m, sc, rc, yc, sa, ra, ya, rt, u, h1, h2, h3, h4, h5, h6, b1.after hb, b2.after hb, b3.after hb, b4.after hb, Nat.le_trans b0 hb.size, b5.below (hb.mono b0), b6.below (hb.mono b0)⟩
/-- a run in rows of its own -/
def RunPost (w : World) (tr no : Int) (a d : List Int) (n : Nat) (e : Ending) (w' : World) : Prop := ∃ (A B : Option Addr) (c c' : Nat), e = .returned (.agg #[.int .i64 tr, .int .i64 no, .slice A n c, .slice B n c']) ∧ Hid (Fr w' w.heap.size A (cs intC a)) ∧ Hid (Fr w' w.heap.size B (cs intC d)) ∧ Hid (Below w.heap.size w w')
theorem atV_tick (f s i : Int) : 0 ≤ Tk.atV f s i ∧ Tk.atV f s i ≤ 1099511627776 := by
  unfold Tk.atV
  split
  · next h =>
    split
    · split <;> omega
    · split
      · next h2 => exact ⟨by have := Int.mul_nonneg h.2.1.1 h.2.2; omega, h2⟩
      · omega
  · omega
theorem run_read {W : World} {n0 : Nat} {b0 b1 b2 b3 : Value} {tmps : Array Value} (h2 : tmps[5]? = some (.pointer (some ⟨n0, 0, none⟩))) (k1 : Blk W n0 24 [b0, b1, b2, b3]) :
    (results Tryz.f56 tmps).run Tryz.prog W = .ok (.agg #[b0, b1, b2, b3]) W := by
  have x0 : W.cell? ⟨n0, 0, none⟩ = some b0 := k1.cell 0
  have x1 : W.cell? ⟨n0, 1, none⟩ = some b1 := k1.cell 1
  have x2 : W.cell? ⟨n0, 2, none⟩ = some b2 := k1.cell 2
  have x3 : W.cell? ⟨n0, 3, none⟩ = some b3 := k1.cell 3
  simp [results, Tryz.results56, go_sem, h2, x0, x1, x2, x3]
theorem fr_set {w w' : World} {B g : Nat} {A : Option Addr} {xs : List Value} (h : Fr w B A xs) (hc : Ch (fun i => i = g) w w') (hg : g < B) : Fr w' B A xs := h.low hc (fun k e => by omega)
theorem st4_ch (w : World) (g : Nat) (a b c d : Value) : Ch (fun i => i = g) w ((((w.setCell ⟨g, 0, none⟩ a).setCell ⟨g, 1, none⟩ b).setCell ⟨g, 2, none⟩ c).setCell ⟨g, 3, none⟩ d) := ((((Ch.refl (fun i => i = g) w).setCell (p := ⟨g, 0, none⟩) (.inl rfl) a).setCell (p := ⟨g, 1, none⟩) (.inl rfl) b).setCell (p := ⟨g, 2, none⟩) (.inl rfl) c).setCell (p := ⟨g, 3, none⟩) (.inl rfl) d
theorem run_any (w : World) (B0 : Nat) (rd st : List Int) (f s tr no : Int) (T F I : Nat) (h : RunsAt w B0 rd st f s tr T F I) (hno : no ≤ 9223372036854775807) :
    Calls Tryz.prog 56 #[.int .i64 no, .pointer (some ⟨T, 0, none⟩), .pointer (some ⟨F, 0, none⟩), .pointer (some ⟨I, 0, none⟩)] w (RunPost w tr no (arrT rd st (Tk.atV f s no) rd.length) (depT rd st (Tk.atV f s no) rd.length) (rd.length + 1)) := by
  obtain ⟨R, n1, n, m, sc, rc, yc, sa, ra, ya, rt, u, rfl, rfl, h3, h4, h5, h6, b1, b2, b3, b4, b0, b5', b6'⟩ := h
  have b5 := b5'.more (S' := (· < w.heap.size)) fun b h => Nat.lt_of_lt_of_le h b0
  have b6 := b6'.more (S' := (· < w.heap.size)) fun b h => Nat.lt_of_lt_of_le h b0
  have HA := HH (fun w' => Tk.at_any f s no w' hno)
  have hb := atV_tick f s no
  have HL : Hid (∀ w', Below w.heap.size w w' → Calls Tryz.prog 67 #[.int .i64 (Tk.atV f s no), .pointer (some ⟨R, 0, none⟩)] w' (AlPost w' (arrT rd st (Tk.atV f s no) rd.length) (depT rd st (Tk.atV f s no) rd.length) (rd.length + 1))) := HH (fun w' hbw => along_any w' (Tk.atV f s no) R sa ra ya n1 rd.length st.length sc rc yc rd st (HH rfl) (HH rfl) h3 h4 (b4.after hbw) (rd_later b5 hbw) (rd_later b6 hbw) (HH h5) (HH h6) hb.1 hb.2)
  have BT := HH b1
  have BF := HH b2
  have BI := HH b3
  have z1 : w.cell? ⟨T, 1, none⟩ = some (.int .i64 f) := b1.cell 1
  have z2 : w.cell? ⟨T, 2, none⟩ = some (.int .i64 s) := b1.cell 2
  have lT : T < w.heap.size := b1.lt
  have lT2 : T ≠ w.heap.size := by omega
  clear b1 b2 b3 b4 b5 b6 b5' b6' h5 h6 hb
  go_enter Tryz.func56, Tryz.ntmps56
  go_wp2_with (first
    | (go_at_call 57; (with_reducible refine (HA.out _).mono ?_); rintro e w1 ⟨rfl, hb⟩; have HB1 := HH (keep_trans (one_box _ _) hb); have HK := HH ((Blk.new w 24 [.int .i64 0, .int .i64 0, .slice none 0 0, .slice none 0 0]).after hb); have y0 : w1.cell? ⟨F, 0, none⟩ = some (.func (.func 67) #[] #[.pointer (some ⟨R, 0, none⟩)]) := (BF.out.after HB1.out).cell 0; clear hb)
    | (go_at_call 67; (with_reducible refine (HL.out _ HB1.out).mono ?_); rintro e w2 ⟨A, B, c, d, rfl, hc, hd, hA, hB, hb⟩; have HK2 := HH (HK.out.after hb.out); have HB2 := HH (keep_trans HB1.out hb.out); have x0 : w2.cell? ⟨I, 0, none⟩ = some (.int .i64 tr) := (BI.out.after HB2.out).cell 0; have t0' : w2.cell? ⟨w.heap.size, 0, none⟩ = some (.int .i64 0) := HK2.out.cell 0; have t1 : w2.cell? ⟨w.heap.size, 1, none⟩ = some (.int .i64 0) := HK2.out.cell 1; have t2 : w2.cell? ⟨w.heap.size, 2, none⟩ = some (.slice none 0 0) := HK2.out.cell 2; have t3 : w2.cell? ⟨w.heap.size, 3, none⟩ = some (.slice none 0 0) := HK2.out.cell 3; have r0 : w2.frozen? ⟨w.heap.size, 0, none⟩ = false := HK2.out.frozen 0; have r1 : w2.frozen? ⟨w.heap.size, 1, none⟩ = false := HK2.out.frozen 1; have r2 : w2.frozen? ⟨w.heap.size, 2, none⟩ = false := HK2.out.frozen 2; have r3 : w2.frozen? ⟨w.heap.size, 3, none⟩ = false := HK2.out.frozen 3; clear hb hc hd))
  have KF := HH ((((HK2.out.set_ 0 (.int .i64 tr)).set_ 1 (.int .i64 no)).set_ 2 (.slice A (rd.length + 1) c)).set_ 3 (.slice B (rd.length + 1) d))
  have CF := HH (st4_ch w2 w.heap.size (.int .i64 tr) (.int .i64 no) (.slice A (rd.length + 1) c) (.slice B (rd.length + 1) d))
  have hlt : w.heap.size < w1.heap.size := HK.out.lt
  exact bodyPost_ret (run_read rfl KF.out) rfl ⟨A, B, c, d, rfl, HH (((hA.out.low CF.out (fun k e => by omega))).down HB1.out.size), HH ((hB.out.low CF.out (fun k e => by omega)).down HB1.out.size), HH (((Ch.of_below (X := fun i => i = w.heap.size) HB2.out).trans' CF.out (fun _ _ h => h)).below (Nat.le_refl _) (fun k e => by omega))⟩
abbrev woQ (x : WorldM) (p : WoA) : Value := .agg #[.int .i64 x.horizon, .slice p.n.a1 x.names.stops.length p.n.c1, .slice p.n.a2 x.names.paths.length p.n.c2, .slice p.n.a3 x.names.doors.length p.n.c3, .slice p.n.a4 x.names.routes.length p.n.c4, .slice p.n.a5 x.names.trips.length p.n.c5, .slice p.n.a6 x.names.hazards.length p.n.c6, .slice p.b2 x.paths.length p.d2, .slice p.b3 x.doors.length p.d3, .slice p.b4 x.routes.length p.d4, .slice p.b5 x.trips.length p.d5, .slice p.b6 x.hazards.length p.d6]
abbrev woL (x : WorldM) (p : WoA) : List Value := [.int .i64 x.horizon, .slice p.n.a1 x.names.stops.length p.n.c1, .slice p.n.a2 x.names.paths.length p.n.c2, .slice p.n.a3 x.names.doors.length p.n.c3, .slice p.n.a4 x.names.routes.length p.n.c4, .slice p.n.a5 x.names.trips.length p.n.c5, .slice p.n.a6 x.names.hazards.length p.n.c6, .slice p.b2 x.paths.length p.d2, .slice p.b3 x.doors.length p.d3, .slice p.b4 x.routes.length p.d4, .slice p.b5 x.trips.length p.d5, .slice p.b6 x.hazards.length p.d6]
def lngR (r : RouteO) : Int := arv r.rides r.stays 0 r.rides.length
def cntT (hz : Int) (r : RouteO) (t : TripO) : Int := cntR t.frm t.every t.til (lngR r) hz
def RoPost (B0 : Nat) (w : World) (hz tr : Int) (r : RouteO) (t : TripO) (e : Ending) (w' : World) : Prop := ∃ T F I : Nat, e = .returned (.agg #[.int .i64 (cntT hz r t), .func (.func 56) #[] #[.pointer (some ⟨T, 0, none⟩), .pointer (some ⟨F, 0, none⟩), .pointer (some ⟨I, 0, none⟩)]]) ∧ Hid (RunsAt w' B0 r.rides r.stays t.frm t.every tr T F I) ∧ Hid (Below w.heap.size w w')
theorem along_fn (w : World) (sa ra ya : Option Addr) (n1 n m sc rc yc : Nat) : Calls Tryz.prog 54 #[.agg #[.slice sa n1 sc, .slice ra n rc, .slice ya m yc]] w (fun e w' => e = .returned (.func (.func 67) #[] #[.pointer (some ⟨w.heap.size, 0, none⟩)]) ∧ Blk w' w.heap.size 59 [.slice sa n1 sc, .slice ra n rc, .slice ya m yc] ∧ Below w.heap.size w w') := by
  go_enter Tryz.func54, Tryz.ntmps54
  go_wp2
  go_ret
  exact ⟨rfl, Blk.new w _ _, one_box _ _⟩
theorem lng_bd {r : RouteO} (h1 : tks r.rides) (h2 : tks r.stays) (h3 : r.rides.length ≤ 400) : 0 ≤ lngR r ∧ lngR r < 4611686018427387904 := by
  unfold lngR
  cases hn : r.rides.length with
  | zero => simp [arv]
  | succ k =>
    have := dpt_bd h1 h2 (t := 0) (by omega) (by omega) k
    have := tks_getD h1 k
    simp only [arv]
    omega
theorem ro_read {W : World} {n0 : Nat} {b0 b1 : Value} {tmps : Array Value} (h2 : tmps[4]? = some (.pointer (some ⟨n0, 0, none⟩))) (k1 : Blk W n0 67 [b0, b1]) :
    (results Tryz.f30 tmps).run Tryz.prog W = .ok (.agg #[b0, b1]) W := by
  have x0 : W.cell? ⟨n0, 0, none⟩ = some b0 := k1.cell 0
  have x1 : W.cell? ⟨n0, 1, none⟩ = some b1 := k1.cell 1
  simp [results, Tryz.results30, go_sem, h2, x0, x1]
theorem rowOf_none (x : WorldM) (p : WoA) (w : World) (i : Int) (h : i < 0 ∨ (x.trips.length : Int) ≤ i) : Calls Tryz.prog 30 #[woQ x p, .int .i64 i] w (fun e w' => e = .returned (.agg #[.int .i64 0, .nilFunc]) ∧ Below w.heap.size w w') := by
  obtain ⟨hz, nm, pa, dos, ro, tr, ha⟩ := x
  by_cases h0 : i < 0
  · clear h
    go_enter Tryz.func30, Tryz.ntmps30
    go_wp2
    exact bodyPost_ret (ro_read rfl (blk3b _ _ _ _ [.int .i64 0, .nilFunc])) rfl ⟨rfl, box3b _ _ _ _⟩
  · have h1 : (tr.length : Int) ≤ i := h.resolve_left h0
    clear h
    go_enter Tryz.func30, Tryz.ntmps30
    go_wp2
    exact bodyPost_ret (ro_read rfl (blk3b _ _ _ _ [.int .i64 0, .nilFunc])) rfl ⟨rfl, box3b _ _ _ _⟩
theorem rowOf_any (x : WorldM) (p : WoA) (B0 : Nat) (w : World) (h0' : Wo w (· < B0) x p) (hB0 : B0 ≤ w.heap.size) (i q : Nat) (t : TripO) (r : RouteO) (ht : x.trips[i]? = some t) (hq : t.route = (q : Int)) (hr : x.routes[q]? = some r) (hl1 : r.rides.length ≤ 400) (hl2 : r.stays.length ≤ 400) (k1 : tks r.rides) (k2 : tks r.stays) (hz0 : 0 ≤ x.horizon) (hz1 : x.horizon ≤ 1099511627776) :
    Calls Tryz.prog 30 #[woQ x p, .int .i64 (i : Int)] w (RoPost B0 w x.horizon i r t) := by
  have h : Wo w (· < w.heap.size) x p := h0'.more fun b h => Nat.lt_of_lt_of_le h hB0
  have hi := (List.getElem?_eq_some_iff.1 ht).1
  have hqq := (List.getElem?_eq_some_iff.1 hr).1
  obtain ⟨hz, nm, pa, dos, ro, tr, ha⟩ := x
  obtain ⟨pn, b2, b3, b4, b5, b6, d2, d3, d4, d5, d6⟩ := p
  obtain ⟨a1, a2, a3, a4, a5, a6, c1, c2, c3, c4, c5, c6⟩ := pn
  obtain ⟨ad, e1, hS, h0, hj⟩ := rd_at 4 (fun _ => rfl) (by omega) h.r5 ht
  obtain ⟨cr, hcr, hcr'⟩ := h0'.r4
  obtain ⟨bd, e2, hSb, sa, sc, ra, rc, ya, yc, g0, g1, g2, hro⟩ := rtos_at hcr hcr' hr
  obtain ⟨rt, fr, ev, ti⟩ := t
  simp only at hq e1 e2 hi hqq
  subst hq e1 e2
  have HRO := HH hro
  have HR := HH (hro.more (S' := (· < w.heap.size)) fun b h => Nat.lt_of_lt_of_le h hB0)
  have m0 : w.cell? (ad.add (i * 4)) = some (.int .i64 (q : Int)) := h0
  have m1 : w.cell? ⟨(ad.add (i * 4)).block, (ad.add (i * 4)).off + 1, none⟩ = some (.int .i64 fr) := (hj 1 (by omega)).resolve_right (by omega)
  have m2 : w.cell? ⟨(ad.add (i * 4)).block, (ad.add (i * 4)).off + 2, none⟩ = some (.int .i64 ev) := (hj 2 (by omega)).resolve_right (by omega)
  have m3 : w.cell? ⟨(ad.add (i * 4)).block, (ad.add (i * 4)).off + 3, none⟩ = some (.int .i64 ti) := (hj 3 (by omega)).resolve_right (by omega)
  have lA : (ad.add (i * 4)).block < w.heap.size := by rw [block_of_add]; exact hS
  have lB : (bd.add (q * 3)).block < w.heap.size := by rw [block_of_add]; exact Nat.lt_of_lt_of_le hSb hB0
  have HM := HH (And.intro m0 (And.intro m1 (And.intro m2 m3)))
  have HG := HH (And.intro g0 (And.intro g1 g2))
  have LA := HH lA
  have LB := HH lB
  clear m0 m1 m2 m3 g0 g1 g2 lA lB h0 hj h h0' hcr hcr' hro hS hSb
  go_enter Tryz.func30, Tryz.ntmps30
  go_upto_region 3 with fail
  have KW : Hid (Blk (((w.alloc (.cells (woL ⟨hz, nm, pa, dos, ro, tr, ha⟩ ⟨⟨a1, a2, a3, a4, a5, a6, c1, c2, c3, c4, c5, c6⟩, b2, b3, some bd, some ad, b6, d2, d3, d4, d5, d6⟩).toArray 37)).alloc (.cells #[.int .i64 (i : Int)] 3)).alloc (.cells #[.int .i64 0, .nilFunc] 67)) w.heap.size 37 (woL ⟨hz, nm, pa, dos, ro, tr, ha⟩ ⟨⟨a1, a2, a3, a4, a5, a6, c1, c2, c3, c4, c5, c6⟩, b2, b3, some bd, some ad, b6, d2, d3, d4, d5, d6⟩)) := HH (blk1b _ _ _ _ _)
  have KI : Hid (Blk (((w.alloc (.cells (woL ⟨hz, nm, pa, dos, ro, tr, ha⟩ ⟨⟨a1, a2, a3, a4, a5, a6, c1, c2, c3, c4, c5, c6⟩, b2, b3, some bd, some ad, b6, d2, d3, d4, d5, d6⟩).toArray 37)).alloc (.cells #[.int .i64 (i : Int)] 3)).alloc (.cells #[.int .i64 0, .nilFunc] 67)) (w.heap.size + 1) 3 [.int .i64 (i : Int)]) := HH (blk2b _ _ _ _ _)
  have KR : Hid (Blk (((w.alloc (.cells (woL ⟨hz, nm, pa, dos, ro, tr, ha⟩ ⟨⟨a1, a2, a3, a4, a5, a6, c1, c2, c3, c4, c5, c6⟩, b2, b3, some bd, some ad, b6, d2, d3, d4, d5, d6⟩).toArray 37)).alloc (.cells #[.int .i64 (i : Int)] 3)).alloc (.cells #[.int .i64 0, .nilFunc] 67)) (w.heap.size + 1 + 1) 67 [.int .i64 0, .nilFunc]) := HH (blk3b _ _ _ _ _)
  have B3 : Hid (Below w.heap.size w (((w.alloc (.cells (woL ⟨hz, nm, pa, dos, ro, tr, ha⟩ ⟨⟨a1, a2, a3, a4, a5, a6, c1, c2, c3, c4, c5, c6⟩, b2, b3, some bd, some ad, b6, d2, d3, d4, d5, d6⟩).toArray 37)).alloc (.cells #[.int .i64 (i : Int)] 3)).alloc (.cells #[.int .i64 0, .nilFunc] 67))) := HH (box3b _ _ _ _)
  simp only [woL] at KW KI KR B3
  have L3 := KR.out.lt
  generalize ((w.alloc (.cells _ 37)).alloc (.cells #[.int .i64 (i : Int)] 3)).alloc (.cells #[.int .i64 0, .nilFunc] 67) = W3 at *
  have z10 : W3.cell? ⟨w.heap.size, 10, none⟩ = some (.slice (some ad) tr.length d5) := KW.out.cell 10
  have z1 : W3.cell? ⟨w.heap.size + 1, 0, none⟩ = some (.int .i64 (i : Int)) := KI.out.cell 0
  have m0 : W3.cell? (ad.add (i * 4)) = some (.int .i64 (q : Int)) := (cell_keep B3.out LA.out).trans HM.out.1
  have m1 : W3.cell? ⟨(ad.add (i * 4)).block, (ad.add (i * 4)).off + 1, none⟩ = some (.int .i64 fr) := (cell_keep (p := ⟨(ad.add (i * 4)).block, (ad.add (i * 4)).off + 1, none⟩) B3.out LA.out).trans HM.out.2.1
  have m2 : W3.cell? ⟨(ad.add (i * 4)).block, (ad.add (i * 4)).off + 2, none⟩ = some (.int .i64 ev) := (cell_keep (p := ⟨(ad.add (i * 4)).block, (ad.add (i * 4)).off + 2, none⟩) B3.out LA.out).trans HM.out.2.2.1
  have m3 : W3.cell? ⟨(ad.add (i * 4)).block, (ad.add (i * 4)).off + 3, none⟩ = some (.int .i64 ti) := (cell_keep (p := ⟨(ad.add (i * 4)).block, (ad.add (i * 4)).off + 3, none⟩) B3.out LA.out).trans HM.out.2.2.2
  go_upto_region 4 with fail
  have KT : Hid (Blk (W3.alloc (.cells #[.int .i64 (q : Int), .int .i64 fr, .int .i64 ev, .int .i64 ti] 56)) W3.heap.size 56 [.int .i64 (q : Int), .int .i64 fr, .int .i64 ev, .int .i64 ti]) := HH (Blk.new _ _ _)
  have B34 : Hid (Below W3.heap.size W3 (W3.alloc (.cells #[.int .i64 (q : Int), .int .i64 fr, .int .i64 ev, .int .i64 ti] 56))) := HH (one_box _ _)
  have hs4 : Hid ((W3.alloc (.cells #[.int .i64 (q : Int), .int .i64 fr, .int .i64 ev, .int .i64 ti] 56)).heap.size = W3.heap.size + 1) := HH (by simp)
  generalize W3.alloc (.cells #[.int .i64 (q : Int), .int .i64 fr, .int .i64 ev, .int .i64 ti] 56) = W4 at *
  have KW := HH (KW.out.after B34.out)
  have KI := HH (KI.out.after B34.out)
  have KR := HH (KR.out.after B34.out)
  have B4 := HH (keep_trans B3.out B34.out)
  clear z10 z1 m0 m1 m2 m3
  have z9 : W4.cell? ⟨w.heap.size, 9, none⟩ = some (.slice (some bd) ro.length d4) := KW.out.cell 9
  have t0 : W4.cell? ⟨W3.heap.size, 0, none⟩ = some (.int .i64 (q : Int)) := KT.out.cell 0
  have g0 : W4.cell? (bd.add (q * 3)) = some (.slice sa r.stops.length sc) := (cell_keep B4.out LB.out).trans HG.out.1
  have g1 : W4.cell? ⟨(bd.add (q * 3)).block, (bd.add (q * 3)).off + 1, none⟩ = some (.slice ra r.rides.length rc) := (cell_keep (p := ⟨(bd.add (q * 3)).block, (bd.add (q * 3)).off + 1, none⟩) B4.out LB.out).trans HG.out.2.1
  have g2 : W4.cell? ⟨(bd.add (q * 3)).block, (bd.add (q * 3)).off + 2, none⟩ = some (.slice ya r.stays.length yc) := (cell_keep (p := ⟨(bd.add (q * 3)).block, (bd.add (q * 3)).off + 2, none⟩) B4.out LB.out).trans HG.out.2.2
  have HAF := HH (fun w' => along_fn w' sa ra ya r.stops.length r.rides.length r.stays.length sc rc yc)
  have HAL : Hid (∀ w' R, Below w.heap.size w w' → Blk w' R 59 [.slice sa r.stops.length sc, .slice ra r.rides.length rc, .slice ya r.stays.length yc] → Calls Tryz.prog 67 #[.int .i64 0, .pointer (some ⟨R, 0, none⟩)] w' (AlPost w' (arrT r.rides r.stays 0 r.rides.length) (depT r.rides r.stays 0 r.rides.length) (r.rides.length + 1))) := HH (fun w' R hb hk => along_any w' 0 R sa ra ya r.stops.length r.rides.length r.stays.length sc rc yc r.rides r.stays (HH rfl) (HH rfl) hl1 hl2 hk (rd_later HR.out.hr hb) (rd_later HR.out.hy hb) (HH k1) (HH k2) (by omega) (by omega))
  go_upto_region 5 with (go_at_call 54; (with_reducible refine (HAF.out _).mono ?_); rintro e w5 ⟨rfl, KRt, hb5⟩; have KRt := HH KRt; have B45 := HH hb5; clear hb5)
  have KF := HH (Blk.new w5 104 [.func (.func 67) #[] #[.pointer (some ⟨W4.heap.size, 0, none⟩)]])
  have B56 := HH (one_box w5 (.cells #[.func (.func 67) #[] #[.pointer (some ⟨W4.heap.size, 0, none⟩)]] 104))
  generalize w5.alloc (.cells #[.func (.func 67) #[] #[.pointer (some ⟨W4.heap.size, 0, none⟩)]] 104) = W6 at *
  have B46 := HH (keep_trans B45.out B56.out)
  have KRt := HH (KRt.out.after B56.out)
  have B6 := HH (keep_trans B4.out B46.out)
  have f0 : W6.cell? ⟨w5.heap.size, 0, none⟩ = some (.func (.func 67) #[] #[.pointer (some ⟨W4.heap.size, 0, none⟩)]) := KF.out.cell 0
  clear z9 t0 g0 g1 g2
  go_upto_region 6 with (go_at_call 67; (with_reducible refine (HAL.out _ _ B6.out KRt.out).mono ?_); rintro e w7 ⟨A, B, c, d, rfl, hc, hd, hA, hB, hb7⟩; have B67 := HH hb7.out; clear hb7 hc hd hB)
  have KW7 := HH (KW.out.after (keep_trans B46.out B67.out))
  have KI7 := HH (KI.out.after (keep_trans B46.out B67.out))
  have KR7 := HH (KR.out.after (keep_trans B46.out B67.out))
  have KT7 := HH (KT.out.after (keep_trans B46.out B67.out))
  have KF7 := HH (KF.out.after B67.out)
  have KRt7 := HH (KRt.out.after B67.out)
  have B7 := HH (keep_trans B6.out B67.out)
  have LF : W4.heap.size < w5.heap.size + 1 := by have := B45.out.size; omega
  have L34 : Hid (W3.heap.size < W4.heap.size) := HH KT.out.lt
  have L46 : Hid (W4.heap.size ≤ w5.heap.size) := HH B45.out.size
  have LRt : Hid (W4.heap.size ≠ w.heap.size + 1 + 1 ∧ W3.heap.size ≠ w.heap.size + 1 + 1 ∧ w5.heap.size ≠ w.heap.size + 1 + 1) := HH (by have := L34.out; have := L46.out; omega)
  have hlast : (arrT r.rides r.stays 0 r.rides.length)[r.rides.length + 1 - 1]? = some (lngR r) := by
    unfold arrT lngR
    rw [List.getElem?_map, List.getElem?_range (by omega)]; rfl
  have E1 : Hid (∀ w', Below w7.heap.size w7 w' → Calls Tryz.prog 34 #[.slice A (r.rides.length + 1) c] w' (fun e w'' => e = .returned (.int .i64 (lngR r)) ∧ w' = w'')) := HH (fun w' hb => end_any w' A (r.rides.length + 1) c _ (lngR r) (HH (arrT_len ..).symm) (by omega) hlast (rd_later hA.out.old hb))
  have hlb := lng_bd k1 k2 hl1
  have C1 := HH (fun w' => excount_any (q : Int) fr ev ti (lngR r) hz w' hz0 hz1 hlb.1 hlb.2)
  clear HAF HAL hA HR hlb LF hlast
  refine wp_region_held_drew (S := fun w' => Hid (Blk w' W3.heap.size 56 [.int .i64 (q : Int), .int .i64 fr, .int .i64 ev, .int .i64 ti] ∧ w'.cell? ⟨w.heap.size, 0, none⟩ = some (.int .i64 hz))) (by kernel_rfl) ?_ (fun hHeld => ?_)
  · exact HH ⟨KT7.out, KW7.out.cell 0⟩
  refine tak 0 ?vra rfl ?hra ?rra
  case hra => (intro w' hSw; have y0 : w'.cell? ⟨W3.heap.size, 0, none⟩ = some (.int .i64 (q : Int)) := hSw.out.1.cell 0; have y1 : w'.cell? ⟨W3.heap.size, 1, none⟩ = some (.int .i64 fr) := hSw.out.1.cell 1; have y2 : w'.cell? ⟨W3.heap.size, 2, none⟩ = some (.int .i64 ev) := hSw.out.1.cell 2; have y3 : w'.cell? ⟨W3.heap.size, 3, none⟩ = some (.int .i64 ti) := hSw.out.1.cell 3; clear hSw; go_simp; try with_reducible rfl)
  simp only [ptk]
  refine tak 1 ?vrb rfl ?hrb ?rrb
  case hrb => (intro w' hSw; clear hSw; go_simp; try with_reducible rfl)
  simp only [ptk]
  refine tak 3 ?vrc rfl ?hrc ?rrc
  case hrc => (intro w' hSw; clear hSw; go_simp; try with_reducible rfl)
  simp only [ptk]
  refine tak 4 ?vrd rfl ?hrd ?rrd
  case hrd => (intro w' hSw; have y0 := hSw.out.2; clear hSw; go_simp; try with_reducible rfl)
  simp only [ptk]
  refine tak 6 ?vre rfl ?hre ?rre
  case hre => (intro w' hSw; clear hSw; go_simp; try with_reducible rfl)
  simp only [ptk]
  refine rdy [2] ?_
  refine AllReadyH.cons rfl (fun K hK => ?_) AllReadyH.nil
  go_simp
  go_at_call 34
  refine (E1.out _ (below_drew (Below.refl _ _))).mono ?_
  rintro e' wx ⟨rfl, rfl⟩
  refine hK.out _ _ hHeld (fun _ => ?_)
  clear hK K
  refine rdy [5] ?_
  refine AllReadyH.cons rfl (fun K hK => ?_) AllReadyH.nil
  go_simp
  go_at_call 55
  refine (C1.out _).mono ?_
  rintro e' w8 ⟨rfl, hb8⟩
  have hb8 : Below w7.heap.size w7 w8 := keep_trans (below_drew (Below.refl _ _)) hb8
  have KW8 := HH (KW7.out.after hb8)
  have KI8 := HH (KI7.out.after hb8)
  have KR8 := HH (KR7.out.after hb8)
  have KT8 := HH (KT7.out.after hb8)
  have KF8 := HH (KF7.out.after hb8)
  have KRt8 := HH (KRt7.out.after hb8)
  have B8 := HH (keep_trans B7.out hb8)
  refine hK.out _ _ (HH ⟨KT8.out, KW8.out.cell 0⟩) (fun _ => ?_)
  clear hK K hHeld hb8 KW7 KI7 KR7 KT7 KF7 KRt7 B7
  refine tak 7 ?vrg rfl ?hrg ?rrg
  case hrg => (intro w' hSw; clear hSw; go_simp; try with_reducible rfl)
  simp only [ptk]
  refine rdy [8] ?_
  refine AllReadyH.cons rfl (fun K hK => ?_) AllReadyH.nil
  have q0 : w8.cell? ⟨w.heap.size + 1 + 1, 0, none⟩ = some (.int .i64 0) := KR8.out.cell 0
  have q1 : w8.cell? ⟨w.heap.size + 1 + 1, 1, none⟩ = some .nilFunc := KR8.out.cell 1
  have u0 : w8.frozen? ⟨w.heap.size + 1 + 1, 0, none⟩ = false := KR8.out.frozen 0
  have u1 : w8.frozen? ⟨w.heap.size + 1 + 1, 1, none⟩ = false := KR8.out.frozen 1
  go_simp
  have CF := HH (((Ch.refl (fun j => j = w.heap.size + 1 + 1) w8).setCell (p := ⟨w.heap.size + 1 + 1, 0, none⟩) (.inl rfl) (.int .i64 (cntR fr ev ti (lngR r) hz))).setCell (p := ⟨w.heap.size + 1 + 1, 1, none⟩) (.inl rfl) (.func (.func 56) #[] #[.pointer (some ⟨W3.heap.size, 0, none⟩), .pointer (some ⟨w5.heap.size, 0, none⟩), .pointer (some ⟨w.heap.size + 1, 0, none⟩)]))
  have KRf := HH ((KR8.out.set_ 0 (.int .i64 (cntR fr ev ti (lngR r) hz))).set_ 1 (.func (.func 56) #[] #[.pointer (some ⟨W3.heap.size, 0, none⟩), .pointer (some ⟨w5.heap.size, 0, none⟩), .pointer (some ⟨w.heap.size + 1, 0, none⟩)]))
  generalize (w8.setCell ⟨w.heap.size + 1 + 1, 0, none⟩ (.int .i64 (cntR fr ev ti (lngR r) hz))).setCell ⟨w.heap.size + 1 + 1, 1, none⟩ (.func (.func 56) #[] #[.pointer (some ⟨W3.heap.size, 0, none⟩), .pointer (some ⟨w5.heap.size, 0, none⟩), .pointer (some ⟨w.heap.size + 1, 0, none⟩)]) = w9 at *
  have KT9 := HH (CF.out.blk KT8.out LRt.out.2.1)
  have KW9 := HH (CF.out.blk KW8.out (by omega))
  refine hK.out _ _ (HH ⟨KT9.out, KW9.out.cell 0⟩) (fun _ => ?_)
  clear hK K q0 q1 u0 u1
  refine wpAnyH_done (by kernel_rfl) ?_ _
  go_wp2
  have B9 := ((Ch.of_below (X := fun j => j = w.heap.size + 1 + 1) B8.out).trans' CF.out (fun _ _ h => h)).below (Nat.le_refl _) (fun k e => by omega)
  refine bodyPost_ret (ro_read rfl KRf.out) rfl ⟨W3.heap.size, w5.heap.size, w.heap.size + 1, rfl, HH ⟨W4.heap.size, r.stops.length, r.rides.length, r.stays.length, sc, rc, yc, sa, ra, ya, (q : Int), ti, rfl, rfl, hl1, hl2, k1, k2, KT9.out, CF.out.blk KF8.out LRt.out.2.2, CF.out.blk KI8.out (by omega), CF.out.blk KRt8.out LRt.out.1, Nat.le_trans hB0 B9.size, HRO.out.hr.below (B9.mono hB0), HRO.out.hy.below (B9.mono hB0)⟩, HH B9⟩
end Go.Proofs.YtfefnfifeaihhaaGreat.Wo
