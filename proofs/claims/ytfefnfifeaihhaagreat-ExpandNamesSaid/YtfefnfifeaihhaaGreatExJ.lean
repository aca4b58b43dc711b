/- The runs are there: package expand's makers, proved by walking their texts. Conditions: the route's numbers are ticks, and few. -/
import Derived.Test.YtfefnfifeaihhaaGreatExH
set_option linter.unusedVariables false
set_option linter.unusedSimpArgs false
set_option maxHeartbeats 4000000
set_option maxRecDepth 100000
namespace Go.Proofs.YtfefnfifeaihhaaGreat.Wo
open Go.ChangeShapes Go.WideShapes Go.ChangeAt Go.RowKit Go.Maps
open Lx Sh
/-! ### worlds that may be -/
structure GoodW (x : WorldM) : Prop where
  hz : 0 ≤ x.horizon ∧ x.horizon ≤ 1099511627776
  tr : ∀ t ∈ x.trips, (0 ≤ t.route ∧ t.route < x.routes.length) ∧ (0 ≤ t.frm ∧ t.frm ≤ 1099511627776) ∧ (0 ≤ t.every ∧ t.every ≤ 1099511627776) ∧ (0 ≤ t.til ∧ t.til ≤ 1099511627776) ∧ t.frm ≤ t.til
  ro : ∀ r ∈ x.routes, tks r.rides ∧ tks r.stays ∧ r.rides.length + 1 = r.stops.length ∧ r.stays.length + 2 = r.stops.length ∧ r.stops.length ≤ 32 ∧ ∀ v ∈ r.rides, 1 ≤ v
theorem tickB_iff {n : Int} : tickB n = true ↔ 0 ≤ n ∧ n ≤ 1099511627776 := by simp [tickB]
theorem all_tks {l : List Int} (h : l.all tickB = true) : tks l := fun x hx => tickB_iff.1 (List.all_eq_true.1 h x hx)
theorem mem_zip_right {α β γ : Type} {f : α → β → γ} {l : List α} {m : List β} (hl : l.length = m.length) {b : β} (hb : b ∈ m) : ∃ a, f a b ∈ l.zipWith f m := by
  obtain ⟨i, hi⟩ := List.getElem?_of_mem hb
  have hlt := (List.getElem?_eq_some_iff.1 hi).1
  refine ⟨l[i]'(by omega), List.mem_of_getElem? (i := i) ?_⟩
  rw [List.getElem?_zipWith, List.getElem?_eq_getElem (by omega), hi]
theorem goodw {x : WorldM} (h : (wrongW x).err = 0) : GoodW x := by
  unfold wrongW at h
  split at h
  · cases h
  next hw =>
  have hw : wholeB x = true := by simpa using hw
  obtain ⟨w1, w2, w3, w4, w5, w6, w7, w8, w9, w10⟩ := whole_parts hw
  unfold wrongX at h
  split at h
  · next h2 => exact absurd h h2
  next hc =>
  split at h
  · next h2 => exact absurd h h2
  have hc : checkM (toldW x) = 0 := Classical.not_not.1 hc
  have he := fst0_zero _ _ h
  have hc4 : rangedM (toldW x) = true ∧ countedM (toldW x) = true := by
    unfold checkM at hc
    cases h1 : crowdedM (toldW x) <;> cases h2 : namedM (toldW x) <;> cases h3 : rangedM (toldW x) <;> cases h4 : countedM (toldW x) <;> simp [h1, h2, h3, h4] at hc ⊢
  obtain ⟨hR, hC⟩ := hc4
  unfold rangedM at hR
  simp only [Bool.and_eq_true] at hR
  obtain ⟨r1, -, -, r4, r5, -⟩ := hR
  unfold countedM at hC
  have hroute : ∀ r ∈ x.routes, ∃ a, tRoute x.names a r ∈ (toldW x).routes := fun r hr => mem_zip_right w3 hr
  have htrip : ∀ t ∈ x.trips, ∃ a, tTrip x.names a t ∈ (toldW x).trips := fun t ht => mem_zip_right w4 ht
  have r1 : tickB (toldW x).horizon = true := by simpa using r1
  refine ⟨tickB_iff.1 r1, fun t ht => ?_, fun r hr => ?_⟩
  · obtain ⟨a, ha⟩ := htrip t ht
    have h1 := List.all_eq_true.1 r5 _ ha
    unfold trip_tick at h1
    simp only [List.all_cons, List.all_nil, Bool.and_true, Bool.and_eq_true, tickB_iff] at h1
    have h2 := he ((numX (toldW x)).trips.map tripE) (by simp [errsW]) (tripE (nTrip (namesX (toldW x)).routes (tTrip x.names a t))) (List.mem_map_of_mem (List.mem_map_of_mem ha))
    have h3 := w9 t ht
    unfold inB at h3
    simp only [Bool.and_eq_true, decide_eq_true_eq] at h3
    unfold tripE at h2
    split at h2
    · cases h2
    split at h2
    · cases h2
    next h4 =>
    have h4 : ¬ t.til < t.frm := h4
    have h1 : (0 ≤ t.frm ∧ t.frm ≤ 1099511627776) ∧ (0 ≤ t.every ∧ t.every ≤ 1099511627776) ∧ (0 ≤ t.til ∧ t.til ≤ 1099511627776) := h1
    exact ⟨by rw [← w3]; exact h3, h1.1, h1.2.1, h1.2.2, by omega⟩
  · obtain ⟨a, ha⟩ := hroute r hr
    have h1 := List.all_eq_true.1 r4 _ ha
    unfold route_tick at h1
    simp only [Bool.and_eq_true] at h1
    have h2 := he ((numX (toldW x)).routes.map routeE) (by simp [errsW]) (routeE (nRoute (toldW x).stops (tRoute x.names a r))) (List.mem_map_of_mem (List.mem_map_of_mem ha))
    have h5 := List.all_eq_true.1 hC _ ha
    unfold route_count at h5
    simp only [Bool.and_eq_true, decide_eq_true_eq] at h5
    obtain ⟨c1, c2, c3, c4⟩ := h5
    have c0 : (tRoute x.names a r).stops.length = r.stops.length := by simp [tRoute]
    rw [c0] at c1 c2 c3 c4
    refine ⟨all_tks h1.1, all_tks h1.2, c3, c4, c2, fun v hv => ?_⟩
    unfold routeE at h2
    split at h2
    · cases h2
    split at h2
    · cases h2
    next h4 =>
    simp only [Bool.or_eq_true, not_or, List.any_eq_true, not_exists, not_and, decide_eq_true_eq] at h4
    have := h4.2 v hv
    omega
theorem field_err (a b c : Int) (w : World) : (Instr.field 52 (.agg #[.int .i64 a, .int .i64 b, .int .i64 c]) 0).run Tryz.prog w = .ok (.int .i64 a) w := by kernel_rfl
theorem field_cnt (n : Int) (y : Value) (w : World) : (Instr.field 67 (.agg #[.int .i64 n, y]) 0).run Tryz.prog w = .ok (.int .i64 n) w := by kernel_rfl
theorem maybe_any (x : WorldM) (p : WoA) (w : World) (h : Wo w (· < w.heap.size) x p) (hl : WLt x) : Calls Tryz.prog 29 #[woQ x p] w (BPost w (decide ((wrongW x).err = 0))) := by
  have HC : Hid (∀ w', Below w.heap.size w w' → Calls Tryz.prog 53 #[woQ x p] w' (fun e w'' => e = .returned (.agg #[.int .i64 (wrongW x).err, .int .i64 (wrongW x).kind, .int .i64 (wrongW x).at_]) ∧ Below w'.heap.size w' w'')) := HH (fun w' hb => wcheck_any x p w' (h.later hb) hl)
  clear h hl
  revert HC
  generalize wrongW x = W0
  intro HC
  obtain ⟨er, ki, at_⟩ := W0
  have hf := field_err
  by_cases he : er = 0
  · subst he
    go_enter Tryz.func29, Tryz.ntmps29
    go_wp2_with (go_at_call 53; (with_reducible refine (HC.out _ ?q).mono ?_); (case q => exact one_box _ _); rintro e w1 ⟨rfl, hb⟩)
    go_ret
    exact ⟨rfl, keep_trans (one_box _ _) hb⟩
  · have hne : (er == 0) = false := beq_eq_false_iff_ne.2 he
    go_enter Tryz.func29, Tryz.ntmps29
    go_wp2_with (go_at_call 53; (with_reducible refine (HC.out _ ?q).mono ?_); (case q => exact one_box _ _); rintro e w1 ⟨rfl, hb⟩)
    go_ret
    exact ⟨by rw [decide_eq_false he]; rfl, keep_trans (one_box _ _) hb⟩
theorem wo_cells {W : World} {g : Nat} {v0 v1 v2 v3 v4 v5 v6 v7 v8 v9 v10 v11 : Value} (k : Blk W g 37 [v0, v1, v2, v3, v4, v5, v6, v7, v8, v9, v10, v11]) :
    W.cell? ⟨g, 0, none⟩ = some v0 ∧ W.cell? ⟨g, 1, none⟩ = some v1 ∧ W.cell? ⟨g, 2, none⟩ = some v2 ∧ W.cell? ⟨g, 3, none⟩ = some v3 ∧ W.cell? ⟨g, 4, none⟩ = some v4 ∧ W.cell? ⟨g, 5, none⟩ = some v5 ∧ W.cell? ⟨g, 6, none⟩ = some v6 ∧ W.cell? ⟨g, 7, none⟩ = some v7 ∧ W.cell? ⟨g, 8, none⟩ = some v8 ∧ W.cell? ⟨g, 9, none⟩ = some v9 ∧ W.cell? ⟨g, 10, none⟩ = some v10 ∧ W.cell? ⟨g, 11, none⟩ = some v11 :=
  ⟨k.cell 0, k.cell 1, k.cell 2, k.cell 3, k.cell 4, k.cell 5, k.cell 6, k.cell 7, k.cell 8, k.cell 9, k.cell 10, k.cell 11⟩
/-- the trip i and its route -/
def rowW (x : WorldM) (i : Int) : Option (TripO × RouteO) := if i < 0 then none else (x.trips[i.toNat]?).bind fun t => (x.routes[t.route.toNat]?).map fun r => (t, r)
def cntW (x : WorldM) (i : Int) : Int := if (wrongW x).err ≠ 0 then 0 else match rowW x i with
  | none => 0
  | some (t, r) => cntT x.horizon r t
theorem row_some {x : WorldM} (g : GoodW x) {i : Nat} {t : TripO} (ht : x.trips[i]? = some t) : ∃ q r, t.route = ((q : Nat) : Int) ∧ x.routes[q]? = some r ∧ rowW x i = some (t, r) := by
  obtain ⟨⟨h1, h2⟩, -⟩ := g.tr t (List.mem_of_getElem? ht)
  have hlt : t.route.toNat < x.routes.length := by omega
  refine ⟨t.route.toNat, x.routes[t.route.toNat]'hlt, by omega, List.getElem?_eq_getElem hlt, ?_⟩
  unfold rowW
  rw [if_neg (by omega), show ((i : Int)).toNat = i by omega, ht, Option.bind_some, List.getElem?_eq_getElem hlt]; rfl
theorem row_out {x : WorldM} {i : Int} (h : i < 0 ∨ (x.trips.length : Int) ≤ i) : rowW x i = none := by
  unfold rowW
  split
  · rfl
  · rw [List.getElem?_eq_none (by omega)]; rfl
theorem row_in {x : WorldM} {i : Int} (h : ¬ (i < 0 ∨ (x.trips.length : Int) ≤ i)) : ∃ (k : Nat) (t : TripO), i = (k : Int) ∧ x.trips[k]? = some t := ⟨i.toNat, x.trips[i.toNat]'(by omega), by omega, List.getElem?_eq_getElem _⟩
/-- rowOf, whatever the trip -/
def RoAny (B0 : Nat) (w : World) (x : WorldM) (i : Int) (e : Ending) (w' : World) : Prop := match rowW x i with
  | none => e = .returned (.agg #[.int .i64 0, .nilFunc]) ∧ Below w.heap.size w w'
  | some (t, r) => RoPost B0 w x.horizon i r t e w'
theorem rowOf_both (x : WorldM) (p : WoA) (B0 : Nat) (w : World) (h : Wo w (· < B0) x p) (hB0 : B0 ≤ w.heap.size) (hl : WLt x) (hg : GoodW x) (i : Int) : Calls Tryz.prog 30 #[woQ x p, .int .i64 i] w (RoAny B0 w x i) := by
  by_cases hi : i < 0 ∨ (x.trips.length : Int) ≤ i
  · unfold RoAny
    rw [row_out hi]
    exact rowOf_none x p w i hi
  · obtain ⟨k, t, rfl, ht⟩ := row_in hi
    obtain ⟨q, r, hq, hr, hrow⟩ := row_some hg ht
    unfold RoAny
    rw [hrow]
    have hrr := hg.ro r (List.mem_of_getElem? hr)
    have hll := hl.lr r (List.mem_of_getElem? hr)
    exact rowOf_any x p B0 w h hB0 k q t r ht hq hr hll.2.1 hll.2.2 hrr.1 hrr.2.1 hg.hz.1 hg.hz.2
theorem count_any (x : WorldM) (p : WoA) (w : World) (h : Wo w (· < w.heap.size) x p) (hl : WLt x) (i : Int) : Calls Tryz.prog 21 #[woQ x p, .int .i64 i] w (fun e w' => e = .returned (.int .i64 (cntW x i)) ∧ Below w.heap.size w w') := by
  have HM : Hid (∀ w', Below w.heap.size w w' → Calls Tryz.prog 29 #[woQ x p] w' (BPost w' (decide ((wrongW x).err = 0)))) := HH (fun w' hb => maybe_any x p w' (h.later hb) hl)
  by_cases he : (wrongW x).err = 0
  · have HR : Hid (∀ w', Below w.heap.size w w' → Calls Tryz.prog 30 #[woQ x p, .int .i64 i] w' (RoAny w.heap.size w' x i)) := HH (fun w' hb => rowOf_both x p w.heap.size w' (h.keep fun b hl => hb.block b hl) hb.size hl (goodw he) i)
    rw [decide_eq_true he] at HM
    unfold cntW
    rw [if_neg (by rw [he]; simp)]
    clear h hl he
    unfold RoAny at HR
    generalize rowW x i = ro at *
    have hf := field_cnt
    rcases ro with _ | ⟨t, r⟩
    · go_enter Tryz.func21, Tryz.ntmps21
      go_wp2_with (first
        | (go_at_call 29; (with_reducible refine (HM.out _ ?q).mono ?_); (case q => exact one_box _ _); rintro e w1 ⟨rfl, hb⟩; have HB1 := HH (keep_trans (one_box _ _) hb); obtain ⟨z0, z1, z2, z3, z4, z5, z6, z7, z8, z9, z10, z11⟩ := wo_cells ((Blk.new w 37 (woL x p)).after hb); clear hb)
        | (go_at_call 30; (with_reducible refine (HR.out _ HB1.out).mono ?_); rintro e w2 ⟨rfl, hb2⟩))
      go_ret
      exact ⟨rfl, keep_trans HB1.out hb2⟩
    · go_enter Tryz.func21, Tryz.ntmps21
      go_wp2_with (first
        | (go_at_call 29; (with_reducible refine (HM.out _ ?q).mono ?_); (case q => exact one_box _ _); rintro e w1 ⟨rfl, hb⟩; have HB1 := HH (keep_trans (one_box _ _) hb); obtain ⟨z0, z1, z2, z3, z4, z5, z6, z7, z8, z9, z10, z11⟩ := wo_cells ((Blk.new w 37 (woL x p)).after hb); clear hb)
        | (go_at_call 30; (with_reducible refine (HR.out _ HB1.out).mono ?_); rintro e w2 ⟨T, F, I, rfl, -, hb2⟩))
      go_ret
      exact ⟨rfl, keep_trans HB1.out hb2.out⟩
  · rw [decide_eq_false he] at HM
    unfold cntW
    rw [if_pos he]
    clear h hl he
    go_enter Tryz.func21, Tryz.ntmps21
    go_wp2_with (go_at_call 29; (with_reducible refine (HM.out _ ?q).mono ?_); (case q => exact one_box _ _); rintro e w1 ⟨rfl, hb⟩)
    go_ret
    exact ⟨rfl, keep_trans (one_box _ _) hb⟩
end Go.Proofs.YtfefnfifeaihhaaGreat.Wo
