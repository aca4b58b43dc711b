/- Plain facts: the lines of a sheet that may be hold letters, digits, marks and single blanks between words; where each thing's line stands among them. -/
import Derived.Test.YtcmlmfcnbmpajaaDoorShowMath
namespace Go.Proofs.YtcmlmfcnbmpajaaDoor.Sw
open Go.ChangeShapes Go.WideShapes Go.ChangeAt Go.RowKit
open Lx Sh
set_option linter.unusedVariables false
set_option linter.unusedSimpArgs false

/-- a byte of a word -/
def dark (c : UInt8) : Prop := 33 ≤ c.toNat ∧ c.toNat ≤ 122
theorem more_dark {c : UInt8} (h : isMore c = true) : dark c := by
  unfold dark
  simp only [isMore, Bool.or_eq_true, beq_iff_eq] at h
  unfold kindOf at h
  split at h
  · simp at h
  · split at h
    · simp at h
    · split at h
      · simp at h
      · split at h
        · rename_i h5; omega
        · split at h
          · rename_i h6; omega
          · split at h
            · rename_i h7; omega
            · simp at h
theorem dig_more {c : UInt8} (h : Tk.isDig c = true) : isMore c = true := by
  rw [isDig_kind] at h
  simp [isMore, beq_iff_eq.1 h]
theorem valid_text {t : Tok} (h : validT t) : t.text ≠ [] ∧ ∀ c ∈ t.text, dark c := by
  rcases h with ⟨⟨h5, ha, h24⟩, hk, hn⟩ | ⟨hc, hd, hk, hn⟩
  · exact ⟨by intro e; rw [e] at h5; simp [nextK] at h5, fun c hm => more_dark (List.all_eq_true.1 ha c hm)⟩
  · exact ⟨Tk.canon_ne hc, fun c hm => more_dark (dig_more (List.all_eq_true.1 (Tk.canon_all hc) c hm))⟩
/-- at each place of l there is a byte of a word, or one blank between two -/
def Tidy (l : List UInt8) : Prop := ∀ k c, l[k]? = some c → dark c ∨ (c.toNat = 32 ∧ 0 < k ∧ k + 1 < l.length ∧ ∃ d, l[k - 1]? = some d ∧ dark d)
theorem tidy_word {s : List UInt8} (h : ∀ c ∈ s, dark c) : Tidy s := fun k c hc => .inl (h c (List.mem_of_getElem? hc))
theorem tidy_more {l s : List UInt8} (hl : Tidy l) (h0 : l ≠ []) (hd : ∀ d, l.getLast? = some d → dark d) (hs : s ≠ []) (h : ∀ c ∈ s, dark c) : Tidy (l ++ 32 :: s) ∧ (l ++ 32 :: s) ≠ [] ∧ ∀ d, (l ++ 32 :: s).getLast? = some d → dark d := by
  have hp := List.length_pos_iff.2 h0
  have hq := List.length_pos_iff.2 hs
  refine ⟨fun k c hc => ?_, by simp, fun d hdd => ?_⟩
  · by_cases h1 : k < l.length
    · rw [List.getElem?_append_left h1] at hc
      rcases hl k c hc with h2 | ⟨h2, h3, h4, d, h5, h6⟩
      · exact .inl h2
      · exact .inr ⟨h2, h3, by simp; omega, d, by rw [List.getElem?_append_left (by omega)]; exact h5, h6⟩
    · rw [List.getElem?_append_right (by omega)] at hc
      by_cases h2 : k = l.length
      · subst h2
        rw [Nat.sub_self] at hc
        simp at hc
        subst hc
        obtain ⟨d, hd2⟩ : ∃ d, l.getLast? = some d := by
          cases e : l.getLast? with
          | none => exact absurd (List.getLast?_eq_none_iff.1 e) h0
          | some d => exact ⟨d, rfl⟩
        refine .inr ⟨rfl, hp, by simp; omega, d, ?_, hd d hd2⟩
        rw [List.getElem?_append_left (by omega), ← hd2, List.getLast?_eq_getElem?]
      · obtain ⟨j, hj⟩ : ∃ j, k - l.length = j + 1 := ⟨k - l.length - 1, by omega⟩
        rw [hj, List.getElem?_cons_succ] at hc
        exact .inl (h c (List.mem_of_getElem? hc))
  · rw [List.getLast?_append] at hdd
    have e : (32 :: s).getLast? = s.getLast? := by
      cases s with
      | nil => exact absurd rfl hs
      | cons a r => rfl
    rw [e] at hdd
    cases hg : s.getLast? with
    | none => exact absurd (List.getLast?_eq_none_iff.1 hg) hs
    | some x =>
      rw [hg] at hdd
      simp at hdd
      subst hdd
      exact h _ (List.mem_of_getLast? hg)
theorem tidy_sp : ∀ (r : List Tok) (l : List UInt8), (∀ t ∈ r, validT t) → Tidy l → l ≠ [] → (∀ d, l.getLast? = some d → dark d) → Tidy (l ++ sp r)
  | [], l, _, h, _, _ => by rw [sp_nil, List.append_nil]; exact h
  | t :: r, l, hv, h, h0, hd => by
    obtain ⟨h1, h2⟩ := valid_text (hv t List.mem_cons_self)
    obtain ⟨a, b, c⟩ := tidy_more h h0 hd h1 h2
    have := tidy_sp r (l ++ 32 :: t.text) (fun u hu => hv u (List.mem_cons_of_mem _ hu)) a b c
    rw [sp_cons]
    simpa using this
theorem tidy_line {ts : List Tok} (h0 : ts ≠ []) (hv : ∀ t ∈ ts, validT t) : Tidy (lineB ts) := by
  cases ts with
  | nil => exact absurd rfl h0
  | cons t r =>
    obtain ⟨h1, h2⟩ := valid_text (hv t List.mem_cons_self)
    show Tidy (t.text ++ sp r)
    exact tidy_sp r _ (fun u hu => hv u (List.mem_cons_of_mem _ hu)) (tidy_word h2) h1 (fun d hd => h2 d (List.mem_of_getLast? hd))
theorem tidy_lines {x : SheetM} (h : May x) : ∀ l ∈ linesT x, Tidy l := by
  intro l hl
  have hL := sheet_lines (l := itemsOf x) h.h (items_ok h)
  rw [linesT, List.mem_map] at hl
  obtain ⟨ts, hts, rfl⟩ := hl
  obtain ⟨h1, h2⟩ := hL ts hts
  exact tidy_line h1 h2

theorem at_mid {α β : Type} {L A C : List β} {f : α → β} {B : List α} (h : L = A ++ (B.map f ++ C)) {n i : Nat} (hn : n = A.length) {b : α} (hb : B[i]? = some b) : L[n + i]? = some (f b) := by
  have hi : i < B.length := (List.getElem?_eq_some_iff.1 hb).1
  rw [h, List.getElem?_append_right (by omega), hn, Nat.add_sub_cancel_left, List.getElem?_append_left (by simpa using hi), List.getElem?_map, hb]
  rfl
theorem lines_split {x : SheetM} (h : May x) : linesT x = [horX x.horizon] ++ (x.stops.map stopX ++ (x.paths.map pathX ++ (x.doors.map doorX ++ (x.routes.map routeX ++ (x.trips.map tripX ++ (x.hazards.map hazX ++ [])))))) := by
  rw [← preX_lines h]
  simp [preX, List.range, List.range.loop, gX]
theorem at_path {x : SheetM} (h : May x) {i : Nat} {p : PathM} (hp : x.paths[i]? = some p) : (linesT x)[1 + x.stops.length + i]? = some (pathX p) :=
  at_mid (A := [horX x.horizon] ++ x.stops.map stopX) (by rw [lines_split h]; simp only [List.append_assoc]; rfl) (by simp; omega) hp
theorem at_door {x : SheetM} (h : May x) {i : Nat} {p : DoorM} (hp : x.doors[i]? = some p) : (linesT x)[1 + x.stops.length + x.paths.length + i]? = some (doorX p) :=
  at_mid (A := [horX x.horizon] ++ x.stops.map stopX ++ x.paths.map pathX) (by rw [lines_split h]; simp only [List.append_assoc]; rfl) (by simp; omega) hp
theorem at_route {x : SheetM} (h : May x) {i : Nat} {p : RouteM} (hp : x.routes[i]? = some p) : (linesT x)[1 + x.stops.length + x.paths.length + x.doors.length + i]? = some (routeX p) :=
  at_mid (A := [horX x.horizon] ++ x.stops.map stopX ++ x.paths.map pathX ++ x.doors.map doorX) (by rw [lines_split h]; simp only [List.append_assoc]; rfl) (by simp; omega) hp
theorem at_trip {x : SheetM} (h : May x) {i : Nat} {p : TripM} (hp : x.trips[i]? = some p) : (linesT x)[1 + x.stops.length + x.paths.length + x.doors.length + x.routes.length + i]? = some (tripX p) :=
  at_mid (A := [horX x.horizon] ++ x.stops.map stopX ++ x.paths.map pathX ++ x.doors.map doorX ++ x.routes.map routeX) (by rw [lines_split h]; simp only [List.append_assoc]; rfl) (by simp; omega) hp
theorem at_haz {x : SheetM} (h : May x) {i : Nat} {p : HazM} (hp : x.hazards[i]? = some p) : (linesT x)[1 + x.stops.length + x.paths.length + x.doors.length + x.routes.length + x.trips.length + i]? = some (hazX p) :=
  at_mid (A := [horX x.horizon] ++ x.stops.map stopX ++ x.paths.map pathX ++ x.doors.map doorX ++ x.routes.map routeX ++ x.trips.map tripX) (by rw [lines_split h]; simp only [List.append_assoc]; rfl) (by simp; omega) hp
end Go.Proofs.YtcmlmfcnbmpajaaDoor.Sw
