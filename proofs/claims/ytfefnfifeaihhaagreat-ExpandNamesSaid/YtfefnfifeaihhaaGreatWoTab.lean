/- Things by their names: which thing has a name; the maker as it lies; package world's named, stops, way, times, repeats. Conditions: at most 400 things of a kind. -/
import Derived.Test.YtfefnfifeaihhaaGreatBaI
import Derived.Test.YtfefnfifeaihhaaGreatBaK
import Derived.Test.YtfefnfifeaihhaaGreatWoNames
set_option linter.unusedVariables false
set_option linter.unusedSimpArgs false
set_option maxHeartbeats 1000000
set_option maxRecDepth 100000
namespace Go.Proofs.YtfefnfifeaihhaaGreat.Wo
open Go.ChangeShapes Go.WideShapes Go.ChangeAt Go.RowKit Go.Maps
open Lx Sh It
/-- the thing that has a name: its kind, its number; 0, 0 of none -/
def thingM (n : NamesM) (a : Nm) : Nat × Nat :=
  if a ∈ n.stops then (1, n.stops.idxOf a) else if a ∈ n.paths then (2, n.paths.idxOf a) else if a ∈ n.doors then (3, n.doors.idxOf a) else if a ∈ n.routes then (4, n.routes.idxOf a) else if a ∈ n.trips then (5, n.trips.idxOf a) else if a ∈ n.hazards then (6, n.hazards.idxOf a) else (0, 0)
def ofK (k n : Nat) : List (Nat × Nat) := (List.range n).map fun i => (k, i)
def thingsN (n : NamesM) : List (Nat × Nat) := ofK 1 n.stops.length ++ (ofK 2 n.paths.length ++ (ofK 3 n.doors.length ++ (ofK 4 n.routes.length ++ (ofK 5 n.trips.length ++ ofK 6 n.hazards.length))))
theorem ofK_len (k n : Nat) : (ofK k n).length = n := by simp [ofK]
theorem ofK_at {k n i : Nat} (h : i < n) : (ofK k n)[i]? = some (k, i) := by simp [ofK, h]
theorem things_len (n : NamesM) : (thingsN n).length = n.flat.length := by simp [thingsN, NamesM.flat, ofK_len]
theorem at_app {α : Type} {l : List Nm} {r : List Nm} {A B : List α} (hA : A.length = l.length) (a : Nm) : (A ++ B)[(l ++ r).idxOf a]? = if a ∈ l then A[l.idxOf a]? else B[r.idxOf a]? := by
  rw [List.idxOf_append]
  by_cases h : a ∈ l
  · rw [if_pos h, if_pos h, List.getElem?_append_left (by rw [hA]; exact List.idxOf_lt_length_iff.2 h)]
  · rw [if_neg h, if_neg h, List.getElem?_append_right (by omega)]
    congr 1
    omega
theorem things_at {n : NamesM} {a : Nm} (h : a ∈ n.flat) : (thingsN n)[n.flat.idxOf a]? = some (thingM n a) := by
  unfold thingsN NamesM.flat thingM
  unfold NamesM.flat at h
  simp only [List.mem_append] at h
  rw [at_app (ofK_len _ _)]
  by_cases h1 : a ∈ n.stops
  · rw [if_pos h1, if_pos h1, ofK_at (List.idxOf_lt_length_iff.2 h1)]
  rw [if_neg h1, if_neg h1, at_app (ofK_len _ _)]
  by_cases h2 : a ∈ n.paths
  · rw [if_pos h2, if_pos h2, ofK_at (List.idxOf_lt_length_iff.2 h2)]
  rw [if_neg h2, if_neg h2, at_app (ofK_len _ _)]
  by_cases h3 : a ∈ n.doors
  · rw [if_pos h3, if_pos h3, ofK_at (List.idxOf_lt_length_iff.2 h3)]
  rw [if_neg h3, if_neg h3, at_app (ofK_len _ _)]
  by_cases h4 : a ∈ n.routes
  · rw [if_pos h4, if_pos h4, ofK_at (List.idxOf_lt_length_iff.2 h4)]
  rw [if_neg h4, if_neg h4, at_app (ofK_len _ _)]
  by_cases h5 : a ∈ n.trips
  · rw [if_pos h5, if_pos h5, ofK_at (List.idxOf_lt_length_iff.2 h5)]
  rw [if_neg h5, if_neg h5]
  have h6 : a ∈ n.hazards := by simpa [h1, h2, h3, h4, h5] using h
  rw [if_pos h6, ofK_at (List.idxOf_lt_length_iff.2 h6)]
theorem thing_out {n : NamesM} {a : Nm} (h : a ∉ n.flat) : thingM n a = (0, 0) := by
  unfold NamesM.flat at h
  simp only [List.mem_append, not_or] at h
  simp [thingM, h]
theorem thing_stop (n : NamesM) (a : Nm) : (thingM n a).1 = 1 ↔ a ∈ n.stops := by
  unfold thingM
  by_cases h1 : a ∈ n.stops
  · simp [h1]
  · simp only [h1, if_false, iff_false]
    repeat' split
    all_goals simp
theorem thing_stop2 {n : NamesM} {a : Nm} (h : a ∈ n.stops) : thingM n a = (1, n.stops.idxOf a) := by simp [thingM, h]
/-! ### the maker as it lies -/
def thC (t : Nat × Nat) : List Value := [i64 (t.1 : Int), i64 (t.2 : Int)]
/-- the maker's cells ahead of its world -/
def mkL (T : Nat) (tA : Option Addr) (n tc : Nat) (x : SheetM) (p : ShA) : List Value :=
  [.pointer (some ⟨T, 0, none⟩), .slice tA n tc, .int .i64 x.horizon, .slice p.a1 x.stops.length p.c1, .slice p.a2 x.paths.length p.c2, .slice p.a3 x.doors.length p.c3, .slice p.a4 x.routes.length p.c4, .slice p.a5 x.trips.length p.c5, .slice p.a6 x.hazards.length p.c6]
/-- the maker lies at M, all names are in its table, all things in its row -/
structure Mk (w : World) (M T : Nat) (X : Nat → Prop) (x : SheetM) (p : ShA) (tA : Option Addr) (tn tc : Nat) : Prop where
  blk : ∃ V : List Value, Blk w M 177 (mkL T tA tn tc x p ++ V)
  tab : TabAt w X T (namesX x).flat
  tn : tn = (thingsN (namesX x)).length
  th : Rd w (· < w.heap.size) tA (cs thC (thingsN (namesX x)))
  sh : Sh w (· < w.heap.size) x p
theorem Mk.later {w w' : World} {M T : Nat} {X : Nat → Prop} {x : SheetM} {p : ShA} {tA : Option Addr} {tn tc : Nat} (h : Mk w M T X x p tA tn tc) (hb : Below w.heap.size w w') : Mk w' M T X x p tA tn tc := by
  obtain ⟨V, hV⟩ := h.blk
  exact ⟨⟨V, hV.after hb⟩, h.tab.after hb, h.tn, rd_later h.th hb, h.sh.later hb⟩
theorem Mk.cell {w : World} {M T : Nat} {X : Nat → Prop} {x : SheetM} {p : ShA} {tA : Option Addr} {tn tc : Nat} (h : Mk w M T X x p tA tn tc) (i : Nat) (hi : i < 9) : w.cell? ⟨M, i, none⟩ = (mkL T tA tn tc x p)[i]? := by
  obtain ⟨V, hV⟩ := h.blk
  rw [hV.cell i, List.getElem?_append_left (by simp [mkL]; omega)]
abbrev thV (t : Nat × Nat) : Value := .agg #[.int .i64 (t.1 : Int), .int .i64 (t.2 : Int)]
theorem th_read {W : World} {n0 : Nat} {a0 a1 : Value} {tmps : Array Value} (h2 : tmps[4]? = some (.pointer (some ⟨n0, 0, none⟩))) (k0 : Blk W n0 212 [a0, a1]) :
    (results Tryz.f187 tmps).run Tryz.prog W = .ok (.agg #[a0, a1]) W := by
  have x0 : W.cell? ⟨n0, 0, none⟩ = some a0 := k0.cell 0
  have x1 : W.cell? ⟨n0, 1, none⟩ = some a1 := k0.cell 1
  simp [results, Tryz.results187, go_sem, h2, x0, x1]
theorem named_any {w : World} {M T : Nat} {X : Nat → Prop} {x : SheetM} {p : ShA} {tA : Option Addr} {tn tc : Nat} (h : Mk w M T X x p tA tn tc) (a : Nm) (ha : a.length ≤ maxLen) :
    Calls Tryz.prog 187 #[.pointer (some ⟨M, 0, none⟩), .string ⟨a.toArray⟩] w (fun e w' => e = .returned (thV (thingM (namesX x) a)) ∧ Below w.heap.size w w') := by
  have H := HH h
  have hsz : (⟨a.toArray⟩ : ByteArray).size ≤ maxLen := by rw [Lib.size_eq]; exact ha
  have hla : (⟨a.toArray⟩ : ByteArray).data.toList = a := by simp
  have c0 : w.cell? ⟨M, 0, none⟩ = some (.pointer (some ⟨T, 0, none⟩)) := h.cell 0 (by omega)
  have c0' := HH c0
  have hM : M < w.heap.size := by obtain ⟨V, hV⟩ := h.blk; exact hV.lt
  have HM := HH hM
  have B1 : Hid (Below w.heap.size w (w.alloc (.cells #[.int .i64 0, .int .i64 0] 212))) := HH (one_box _ _)
  by_cases hin : a ∈ (namesX x).flat
  · have hat := things_at hin
    generalize hI : (namesX x).flat.idxOf a = I at hat
    have hfl : (namesX x).flat[I]? = some a := by rw [← hI]; exact idxOf_at hin
    have HNI := HH (num_in (w := w.alloc (.cells #[.int .i64 0, .int .i64 0] 212)) (h.tab.after B1.out) ⟨a.toArray⟩ hsz I (by rw [hla]; exact hfl))
    have HAT := HH hat
    have hIn : (I : Int) < (tn : Int) := by have := (List.getElem?_eq_some_iff.1 hat).1; have := h.tn; omega
    have hI0 : ¬ ((I : Int) < 0) := by omega
    generalize thingM (namesX x) a = tt at *
    obtain ⟨k, j⟩ := tt
    clear h hat hfl hI hin c0
    have c0 := c0'.out
    have hne : M ≠ w.heap.size := by omega
    go_enter Tryz.func187, Tryz.ntmps187
    go_wp2_with (go_at_call 197; (with_reducible refine HNI.out.mono ?_); rintro e w1 ⟨rfl, hb⟩; have HB := HH (keep_trans B1.out hb.out); have H1 := HH (H.out.later HB.out); have K1 := HH ((Blk.new w 212 [.int .i64 0, .int .i64 0]).after hb.out); obtain ⟨ad, rfl, hS, h0, hj⟩ := rd_at 2 (fun _ => rfl) (by omega) H1.out.th HAT.out; have t0 : w1.cell? (ad.add (I * 2)) = some (.int .i64 (k : Int)) := h0; have t1 : w1.cell? ⟨(ad.add (I * 2)).block, (ad.add (I * 2)).off + 1, none⟩ = some (.int .i64 (j : Int)) := (hj 1 (by omega)).resolve_right (by omega); have c1 : w1.cell? ⟨M, 1, none⟩ = some (.slice (some ad) tn tc) := H1.out.cell 1 (by omega); have q0 : w1.cell? ⟨w.heap.size, 0, none⟩ = some (.int .i64 0) := K1.out.cell 0; have q1 : w1.cell? ⟨w.heap.size, 1, none⟩ = some (.int .i64 0) := K1.out.cell 1; have qf : ∀ i, w1.frozen? ⟨w.heap.size, i, none⟩ = false := fun i => K1.out.frozen i; clear hb h0 hj hS)
    refine bodyPost_ret (th_read rfl ((K1.out.set_ 0 _).set_ 1 _)) rfl ?_
    exact ⟨rfl, below_set (below_set HB.out (Nat.le_refl _) _) (Nat.le_refl _) _⟩
  · have HNO := HH (num_out (w := w.alloc (.cells #[.int .i64 0, .int .i64 0] 212)) (h.tab.after B1.out) ⟨a.toArray⟩ hsz (by rw [hla]; exact hin))
    rw [thing_out hin]
    clear h hin
    have hne : M ≠ w.heap.size := by omega
    go_enter Tryz.func187, Tryz.ntmps187
    go_wp2_with (go_at_call 197; (with_reducible refine HNO.out.mono ?_); rintro e w1 ⟨rfl, hb⟩; have HB := HH (keep_trans B1.out hb.out); have K1 := HH ((Blk.new w 212 [.int .i64 0, .int .i64 0]).after hb.out); have q0 : w1.cell? ⟨w.heap.size, 0, none⟩ = some (.int .i64 0) := K1.out.cell 0; have q1 : w1.cell? ⟨w.heap.size, 1, none⟩ = some (.int .i64 0) := K1.out.cell 1; have qf : ∀ i, w1.frozen? ⟨w.heap.size, i, none⟩ = false := fun i => K1.out.frozen i; clear hb)
    refine bodyPost_ret (th_read rfl ((K1.out.set_ 0 _).set_ 1 _)) rfl ?_
    exact ⟨rfl, below_set (below_set HB.out (Nat.le_refl _) _) (Nat.le_refl _) _⟩
end Go.Proofs.YtfefnfifeaihhaaGreat.Wo
