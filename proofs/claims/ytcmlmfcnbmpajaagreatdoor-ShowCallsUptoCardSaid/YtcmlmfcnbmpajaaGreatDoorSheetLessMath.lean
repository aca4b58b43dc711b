/- A sheet without one of its lines: what its text and its things are. Conditions: the sheet may be. -/
import Derived.Test.YtcmlmfcnbmpajaaGreatDoorSheetFacts
namespace Go.Proofs.YtcmlmfcnbmpajaaGreatDoor.Sh
open Go.ChangeShapes Go.WideShapes Go.ChangeAt Go.RowKit
open Lx
set_option linter.unusedVariables false
set_option linter.unusedSimpArgs false
theorem ends_any {M : List (List UInt8)} (h : ∀ l ∈ M, l.length ≤ 4000) : (endsOf M).length ≤ 5000 * M.length := by
  induction M with
  | nil => simp [endsOf]
  | cons a M ih =>
    have h1 := h a List.mem_cons_self
    have h2 := ih fun l hl => h l (List.mem_cons_of_mem _ hl)
    have e : endsOf (a :: M) = (a ++ [10]) ++ endsOf M := by simp [endsOf]
    rw [e]
    simp only [List.length_append, List.length_cons, List.length_nil]
    omega
theorem less_more {L : List (List UInt8)} {i k : Nat} {a : List UInt8} (h : L[i]? = some a) : (i = k → endsOf ((L.take (i + 1)).eraseIdx k) = endsOf ((L.take i).eraseIdx k)) ∧ (i ≠ k → endsOf ((L.take (i + 1)).eraseIdx k) = endsOf ((L.take i).eraseIdx k) ++ (a ++ [10])) := by
  have hi : i < L.length := (List.getElem?_eq_some_iff.1 h).1
  have hl : (L.take i).length = i := by rw [List.length_take]; omega
  have e : L.take (i + 1) = L.take i ++ [a] := by rw [List.take_add_one, h]; rfl
  rw [e]
  constructor
  · rintro rfl
    rw [List.eraseIdx_append_of_length_le (by omega), List.eraseIdx_of_length_le (l := L.take i) (by omega), hl]
    simp
  · intro hk
    by_cases hlt : k < i
    · rw [List.eraseIdx_append_of_lt_length (by omega)]
      simp [endsOf]
    · rw [List.eraseIdx_append_of_length_le (by omega), hl, List.eraseIdx_of_length_le (l := L.take i) (by omega), List.eraseIdx_of_length_le (by simp; omega)]
      simp [endsOf]
theorem erase_map {α β : Type} (f : α → β) : ∀ (l : List α) (k : Nat), (l.map f).eraseIdx k = (l.eraseIdx k).map f
  | [], _ => rfl
  | _ :: _, 0 => rfl
  | a :: l, k + 1 => by simp [erase_map f l k]
theorem erase_mem {α : Type} {l : List α} {k : Nat} {a : α} (h : a ∈ l.eraseIdx k) : a ∈ l := (List.eraseIdx_sublist l k).subset h
/-- the things of y are some of x's, in their order -/
structure SubM (y x : SheetM) : Prop where
  h : y.horizon = x.horizon
  s : List.Sublist y.stops x.stops
  p : List.Sublist y.paths x.paths
  d : List.Sublist y.doors x.doors
  r : List.Sublist y.routes x.routes
  t : List.Sublist y.trips x.trips
  z : List.Sublist y.hazards x.hazards
theorem SubM.few {y x : SheetM} (h : SubM y x) (hx : FewI x) : FewI y := by
  obtain ⟨h1, h2, h3, h4, h5, h6⟩ := hx
  exact ⟨Nat.le_trans h.s.length_le h1, Nat.le_trans h.p.length_le h2, Nat.le_trans h.d.length_le h3, Nat.le_trans h.r.length_le h4, Nat.le_trans h.t.length_le h5, Nat.le_trans h.z.length_le h6⟩
theorem SubM.light {y x : SheetM} (h : SubM y x) (hx : lightM x = true) : lightM y = true := by
  unfold lightM at hx ⊢
  simp only [Bool.and_eq_true, decide_eq_true_eq, List.all_eq_true] at hx ⊢
  obtain ⟨⟨⟨⟨⟨⟨h1, h2⟩, h3⟩, h4⟩, h5⟩, h6⟩, h7⟩ := hx
  exact ⟨⟨⟨⟨⟨⟨Nat.le_trans h.s.length_le h1, Nat.le_trans h.p.length_le h2⟩, Nat.le_trans h.d.length_le h3⟩, Nat.le_trans h.r.length_le h4⟩, Nat.le_trans h.t.length_le h5⟩, Nat.le_trans h.z.length_le h6⟩, fun r hr => h7 r (h.r.subset hr)⟩
theorem sub_fold {x : SheetM} {l : List Item} (h : List.Sublist l (itemsOf x)) : SubM (l.foldl addI (startM x.horizon)) x := by
  obtain ⟨f1, f2, f3, f4, f5, f6⟩ := items_fm x
  rw [fold_eq]
  simp only [startM, List.nil_append]
  exact ⟨rfl, f1 ▸ h.filterMap _, f2 ▸ h.filterMap _, f3 ▸ h.filterMap _, f4 ▸ h.filterMap _, f5 ▸ h.filterMap _, f6 ▸ h.filterMap _⟩
/-- x without its thing r -/
def lessM (x : SheetM) (r : Nat) : SheetM := ((itemsOf x).eraseIdx r).foldl addI (startM x.horizon)
theorem less_sub (x : SheetM) (r : Nat) : SubM (lessM x r) x := sub_fold (List.eraseIdx_sublist _ _)
theorem less_items (x : SheetM) (r : Nat) : itemsOf (lessM x r) = (itemsOf x).eraseIdx r := items_fold (List.eraseIdx_sublist _ _) _
theorem less_sheetL (x : SheetM) (r : Nat) : (sheetL x.horizon (itemsOf x)).eraseIdx (r + 1) = sheetL x.horizon ((itemsOf x).eraseIdx r) := by
  simp only [sheetL, List.eraseIdx_cons_succ, erase_map]
theorem less_lines (x : SheetM) (r : Nat) : linesT (lessM x r) = (linesT x).eraseIdx (r + 1) := by
  unfold linesT
  rw [less_items, (less_sub x r).h, ← less_sheetL, erase_map]
theorem less_parse {x : SheetM} (hx : May x) (r : Nat) {s : ByteArray} (hs : s.data.toList = endsOf ((linesT x).eraseIdx (r + 1))) (hz : s.size ≤ 65536) : parseT s = .ok (lessM x r) [] := by
  refine parse_items (l := (itemsOf x).eraseIdx r) hx.h (fun i hi => items_ok hx i (erase_mem hi)) ((less_sub x r).few hx.few) (.inl ?_) hz
  rw [hs, ← less_sheetL, ← ends_join]
  unfold linesT
  rw [erase_map]
theorem parse_may {s : ByteArray} {y : SheetM} {r : List Tok} (h : parseT s = .ok y r) : May y := by
  rcases parse_fine s with ⟨e, l, c, -, h2⟩ | ⟨z, hz, h2⟩
  · rw [h2] at h; cases h
  · rw [h2] at h; cases h; exact hz
theorem less_len {x : SheetM} {r T : Nat} (hT : T = x.stops.length + x.paths.length + x.doors.length + x.routes.length + x.trips.length + x.hazards.length) (hr : r < T) : (linesT x).eraseIdx (r + 1) = (linesT x).take (r + 1) ++ (linesT x).drop (r + 2) ∧ ((linesT x).eraseIdx (r + 1)).length = T := by
  refine ⟨List.eraseIdx_eq_take_drop_succ _ _, ?_⟩
  rw [List.length_eraseIdx_of_lt (by rw [lines_len]; omega), lines_len]
  omega
end Go.Proofs.YtcmlmfcnbmpajaaGreatDoor.Sh

