/- A sheet's lines in another order: what a text of them is read as. Conditions: the sheet may be; lines of one kind stand in their order. -/
import Derived.Test.YteonmabfhilcfaaGreatDoorSheetLessMath
namespace Go.Proofs.YteonmabfhilcfaaGreatDoor.Sh
open Go.ChangeShapes Go.WideShapes Go.ChangeAt Go.RowKit
open Lx
set_option linter.unusedVariables false
set_option linter.unusedSimpArgs false
def Item.kind : Item → Nat
  | .stop _ => 0 | .path _ => 1 | .door _ => 2 | .route _ => 3 | .trip _ => 4 | .haz _ => 5
def kindL (x : SheetM) : Nat → List Item
  | 0 => x.stops.map .stop | 1 => x.paths.map .path | 2 => x.doors.map .door | 3 => x.routes.map .route | 4 => x.trips.map .trip | 5 => x.hazards.map .haz | _ => []
def cntL (x : SheetM) : List Nat := [x.stops.length, x.paths.length, x.doors.length, x.routes.length, x.trips.length, x.hazards.length]
def stL (x : SheetM) : List Nat := [1, 1 + x.stops.length, 1 + x.stops.length + x.paths.length, 1 + x.stops.length + x.paths.length + x.doors.length, 1 + x.stops.length + x.paths.length + x.doors.length + x.routes.length, 1 + x.stops.length + x.paths.length + x.doors.length + x.routes.length + x.trips.length]
def sumL (x : SheetM) : Nat := x.stops.length + x.paths.length + x.doors.length + x.routes.length + x.trips.length + x.hazards.length
theorem k6 {k : Nat} (h : k < 6) : k = 0 ∨ k = 1 ∨ k = 2 ∨ k = 3 ∨ k = 4 ∨ k = 5 := by omega
theorem kind_lt (i : Item) : i.kind < 6 := by cases i <;> simp [Item.kind]
theorem cnt_kind (x : SheetM) {k : Nat} (h : k < 6) : (cntL x).getD k 0 = (kindL x k).length := by
  rcases k6 h with rfl | rfl | rfl | rfl | rfl | rfl <;> simp [cntL, kindL]
theorem items_kinds (x : SheetM) : itemsOf x = kindL x 0 ++ (kindL x 1 ++ (kindL x 2 ++ (kindL x 3 ++ (kindL x 4 ++ kindL x 5)))) := rfl
theorem kind_mem {x : SheetM} {k : Nat} (hk : k < 6) {i : Item} (h : i ∈ kindL x k) : i ∈ itemsOf x := by
  rw [items_kinds]
  rcases k6 hk with rfl | rfl | rfl | rfl | rfl | rfl <;> simp [h]
theorem kind_is {x : SheetM} {k : Nat} (hk : k < 6) {i : Item} (h : i ∈ kindL x k) : i.kind = k := by
  rcases k6 hk with rfl | rfl | rfl | rfl | rfl | rfl <;> (simp only [kindL, List.mem_map] at h; obtain ⟨a, _, rfl⟩ := h; rfl)
theorem at_app {α : Type} (a b : List α) (j : Nat) : (a ++ b)[a.length + j]? = b[j]? := by rw [List.getElem?_append_right (by omega)]; simp
theorem at_left {α : Type} {a b : List α} {j : Nat} (h : j < a.length) : (a ++ b)[j]? = a[j]? := List.getElem?_append_left h
/-- the line of the thing j of kind k -/
theorem line_kind {x : SheetM} {k j : Nat} (hk : k < 6) {i : Item} (h : (kindL x k)[j]? = some i) : (linesT x)[(stL x).getD k 0 + j]? = some (lineB i.toks) := by
  have hj : j < (kindL x k).length := (List.getElem?_eq_some_iff.1 h).1
  have e : (itemsOf x)[(stL x).getD k 0 - 1 + j]? = some i := by
    rw [items_kinds, ← h]
    rcases k6 hk with rfl | rfl | rfl | rfl | rfl | rfl
    · rw [show (stL x).getD 0 0 - 1 + j = j by simp [stL], at_left hj]
    · rw [show (stL x).getD 1 0 - 1 + j = (kindL x 0).length + j by simp [stL, kindL], at_app, at_left hj]
    · rw [show (stL x).getD 2 0 - 1 + j = (kindL x 0).length + ((kindL x 1).length + j) by simp [stL, kindL]; omega, at_app, at_app, at_left hj]
    · rw [show (stL x).getD 3 0 - 1 + j = (kindL x 0).length + ((kindL x 1).length + ((kindL x 2).length + j)) by simp [stL, kindL]; omega, at_app, at_app, at_app, at_left hj]
    · rw [show (stL x).getD 4 0 - 1 + j = (kindL x 0).length + ((kindL x 1).length + ((kindL x 2).length + ((kindL x 3).length + j))) by simp [stL, kindL]; omega, at_app, at_app, at_app, at_app, at_left hj]
    · rw [show (stL x).getD 5 0 - 1 + j = (kindL x 0).length + ((kindL x 1).length + ((kindL x 2).length + ((kindL x 3).length + ((kindL x 4).length + j)))) by simp [stL, kindL]; omega, at_app, at_app, at_app, at_app, at_app]
  have h1 : 1 ≤ (stL x).getD k 0 := by rcases k6 hk with rfl | rfl | rfl | rfl | rfl | rfl <;> simp [stL] <;> omega
  obtain ⟨m, hm⟩ : ∃ m, (stL x).getD k 0 = m + 1 := ⟨_, (Nat.sub_add_cancel h1).symm⟩
  rw [hm] at e ⊢
  unfold linesT sheetL
  rw [List.map_cons, show m + 1 + j = (m + j) + 1 by omega, List.getElem?_cons_succ, List.map_map, List.getElem?_map]
  rw [show m + 1 - 1 + j = m + j by omega] at e
  rw [e]
  rfl
/-- how far one is: the things so far, kind by kind -/
structure Far (x : SheetM) (nx : List Nat) (acc : List Item) : Prop where
  len : nx.length = 6
  sel : ∀ k, k < 6 → acc.filter (fun i => i.kind == k) = (kindL x k).take (nx.getD k 0)
  le : ∀ k, k < 6 → nx.getD k 0 ≤ (kindL x k).length
  mem : ∀ i ∈ acc, i ∈ itemsOf x
theorem len_kinds (acc : List Item) : acc.length = (acc.filter (fun i => i.kind == 0)).length + (acc.filter (fun i => i.kind == 1)).length + (acc.filter (fun i => i.kind == 2)).length + (acc.filter (fun i => i.kind == 3)).length + (acc.filter (fun i => i.kind == 4)).length + (acc.filter (fun i => i.kind == 5)).length := by
  induction acc with
  | nil => rfl
  | cons a l ih => rcases k6 (kind_lt a) with h | h | h | h | h | h <;> simp [List.filter_cons, h] <;> omega
theorem Far.sum {x : SheetM} {nx : List Nat} {acc : List Item} (h : Far x nx acc) : acc.length = nx.getD 0 0 + nx.getD 1 0 + nx.getD 2 0 + nx.getD 3 0 + nx.getD 4 0 + nx.getD 5 0 := by
  have e : ∀ k, k < 6 → (acc.filter (fun i => i.kind == k)).length = nx.getD k 0 := fun k hk => by
    rw [h.sel k hk, List.length_take]
    have := h.le k hk
    omega
  rw [len_kinds, e 0 (by omega), e 1 (by omega), e 2 (by omega), e 3 (by omega), e 4 (by omega), e 5 (by omega)]
theorem sum_kinds (x : SheetM) : sumL x = (kindL x 0).length + (kindL x 1).length + (kindL x 2).length + (kindL x 3).length + (kindL x 4).length + (kindL x 5).length := by simp [sumL, kindL]
theorem far_start (x : SheetM) : Far x [0, 0, 0, 0, 0, 0] [] := by
  refine ⟨rfl, fun k hk => ?_, fun k hk => ?_, fun i hi => by cases hi⟩ <;> (rcases k6 hk with rfl | rfl | rfl | rfl | rfl | rfl <;> simp)
theorem Far.more {x : SheetM} {nx : List Nat} {acc : List Item} (h : Far x nx acc) (hT : acc.length < sumL x) : ∃ k, k < 6 ∧ nx.getD k 0 < (kindL x k).length := by
  rw [h.sum, sum_kinds] at hT
  have e : ∀ k, k < 6 → ¬ (nx.getD k 0 < (kindL x k).length) → nx.getD k 0 = (kindL x k).length := fun k hk hn => by have := h.le k hk; omega
  refine Classical.byContradiction fun hno => ?_
  have e2 : ∀ k, k < 6 → nx.getD k 0 = (kindL x k).length := fun k hk => e k hk fun hl => hno ⟨k, hk, hl⟩
  have := e2 0 (by omega); have := e2 1 (by omega); have := e2 2 (by omega); have := e2 3 (by omega); have := e2 4 (by omega); have := e2 5 (by omega)
  omega
theorem Far.step {x : SheetM} {nx : List Nat} {acc : List Item} (h : Far x nx acc) {k : Nat} (hk : k < 6) {i : Item} (hi : (kindL x k)[nx.getD k 0]? = some i) : Far x (nx.set k (nx.getD k 0 + 1)) (acc ++ [i]) := by
  have hm := List.mem_of_getElem? hi
  have hl := (List.getElem?_eq_some_iff.1 hi).1
  have hkind := kind_is hk hm
  have hlen := h.len
  have g1 : (nx.set k (nx.getD k 0 + 1)).getD k 0 = nx.getD k 0 + 1 := by rw [List.getD_eq_getElem?_getD, List.getElem?_set_self (by omega)]; rfl
  have g2 : ∀ j, j ≠ k → (nx.set k (nx.getD k 0 + 1)).getD j 0 = nx.getD j 0 := fun j hj => by rw [List.getD_eq_getElem?_getD, List.getElem?_set_ne (fun e => hj e.symm), ← List.getD_eq_getElem?_getD]
  refine ⟨by simp [hlen], fun j hj => ?_, fun j hj => ?_, fun a ha => ?_⟩
  · rw [List.filter_append, h.sel j hj]
    by_cases e : j = k
    · subst e
      rw [g1, List.take_add_one, hi]
      simp [List.filter_cons, hkind]
    · rw [g2 j e]
      have : (i.kind == j) = false := by rw [beq_eq_false_iff_ne, hkind]; exact fun h => e h.symm
      simp [List.filter_cons, this]
  · by_cases e : j = k
    · subst e; rw [g1]; omega
    · rw [g2 j e]; exact h.le j hj
  · rcases List.mem_append.1 ha with ha | ha
    · exact h.mem a ha
    · rw [List.mem_singleton.1 ha]; exact kind_mem hk hm
theorem fm_filter {α : Type} (g : Item → Option α) (k : Nat) (h : ∀ i : Item, i.kind ≠ k → g i = none) (acc : List Item) : acc.filterMap g = (acc.filter (fun i => i.kind == k)).filterMap g := by
  induction acc with
  | nil => rfl
  | cons a l ih =>
    by_cases e : a.kind = k
    · rw [List.filter_cons, if_pos (by rw [beq_iff_eq]; exact e), List.filterMap_cons, List.filterMap_cons, ih]
    · rw [List.filter_cons, if_neg (by rw [beq_iff_eq]; exact e), List.filterMap_cons, h a e, ih]
theorem Far.done {x : SheetM} {nx : List Nat} {acc : List Item} (h : Far x nx acc) (hT : acc.length = sumL x) : acc.foldl addI (startM x.horizon) = x := by
  have hs := h.sum
  rw [hT, sum_kinds] at hs
  have l0 := h.le 0 (by omega); have l1 := h.le 1 (by omega); have l2 := h.le 2 (by omega); have l3 := h.le 3 (by omega); have l4 := h.le 4 (by omega); have l5 := h.le 5 (by omega)
  have e : ∀ k, k < 6 → acc.filter (fun i => i.kind == k) = kindL x k := fun k hk => by
    rw [h.sel k hk]
    refine List.take_of_length_le ?_
    rcases k6 hk with rfl | rfl | rfl | rfl | rfl | rfl <;> omega
  rw [fold_eq]
  simp only [startM, List.nil_append]
  rw [fm_filter Item.stop? 0 (by intro i; cases i <;> simp [Item.kind, Item.stop?]), e 0 (by omega),
    fm_filter Item.path? 1 (by intro i; cases i <;> simp [Item.kind, Item.path?]), e 1 (by omega),
    fm_filter Item.door? 2 (by intro i; cases i <;> simp [Item.kind, Item.door?]), e 2 (by omega),
    fm_filter Item.route? 3 (by intro i; cases i <;> simp [Item.kind, Item.route?]), e 3 (by omega),
    fm_filter Item.trip? 4 (by intro i; cases i <;> simp [Item.kind, Item.trip?]), e 4 (by omega),
    fm_filter Item.haz? 5 (by intro i; cases i <;> simp [Item.kind, Item.haz?]), e 5 (by omega)]
  simp only [kindL]
  rw [fm_some .stop Item.stop? (fun _ => rfl), fm_some .path Item.path? (fun _ => rfl), fm_some .door Item.door? (fun _ => rfl), fm_some .route Item.route? (fun _ => rfl), fm_some .trip Item.trip? (fun _ => rfl), fm_some .haz Item.haz? (fun _ => rfl)]
/-- the text of the things so far: no line's end behind the last -/
def ordT (n : Int) (acc : List Item) : List UInt8 := lineB (horT n) ++ acc.flatMap fun i => 10 :: lineB i.toks
theorem ord_more (n : Int) (acc : List Item) (i : Item) : ordT n (acc ++ [i]) = ordT n acc ++ [10] ++ lineB i.toks := by simp [ordT]
theorem ord_join (n : Int) (acc : List Item) : ordT n acc ++ [10] = joinN (sheetL n acc) := by
  unfold ordT sheetL
  generalize horT n = a
  induction acc generalizing a with
  | nil => simp [joinN]
  | cons i l ih =>
    have := ih i.toks
    simp only [List.flatMap_cons, List.map_cons, joinN, List.append_assoc, List.cons_append] at this ⊢
    rw [← this]
    simp
theorem ord_len {x : SheetM} (hx : May x) {acc : List Item} (h : ∀ i ∈ acc, i ∈ itemsOf x) : (ordT x.horizon acc).length ≤ 5000 * (acc.length + 1) := by
  have h0 : (lineB (horT x.horizon)).length ≤ 4000 := lines_short hx _ (List.mem_of_getElem? (line_zero x))
  have h1 : (acc.flatMap fun i => 10 :: lineB i.toks).length ≤ 5000 * acc.length := by
    induction acc with
    | nil => simp
    | cons i l ih =>
      have h2 := line_short (items_ok hx i (h i List.mem_cons_self))
      have h3 := ih fun j hj => h j (List.mem_cons_of_mem _ hj)
      unfold lineOf at h2
      simp only [List.flatMap_cons, List.length_append, List.length_cons]
      omega
  unfold ordT
  rw [List.length_append]
  omega
theorem ord_parse {x : SheetM} (hx : May x) {nx : List Nat} {acc : List Item} (h : Far x nx acc) (hT : acc.length = sumL x) {s : ByteArray} (hs : s.data.toList = ordT x.horizon acc) (hz : s.size ≤ 65536) : parseT s = .ok x [] := by
  have hd := h.done hT
  have := parse_items (l := acc) hx.h (fun i hi => items_ok hx i (h.mem i hi)) (by rw [hd]; exact hx.few) (s := s) (.inr (.inl (by rw [hs]; exact ord_join _ _))) hz
  rwa [hd] at this
end Go.Proofs.YteonmabfhilcfaaGreatDoor.Sh
