/- Package sheet's reader: line by line, proved by walking its text. Conditions: the tokens end with a line's end; ends have no text. -/
import Derived.Test.YtcmlmfcnbmpajaaGreatDoorSheetRoute
import Derived.Test.YtcmlmfcnbmpajaaGreatDoorPlain
import Derived.Test.YtcmlmfcnbmpajaaGreatDoorSheetKinds
import Derived.Test.YtcmlmfcnbmpajaaGreatDoorSheetOne
import Derived.StillTailTactics
import Derived.Outline
import Derived.Deep.Cut
namespace Go.Proofs.YtcmlmfcnbmpajaaGreatDoor.Sh
open Go.ChangeShapes Go.WideShapes Go.ChangeAt Go.RowKit
open Lx
set_option linter.unusedVariables false
set_option linter.unusedSimpArgs false

theorem keeps_len {α : Type} {p : List Tok → PR α} (h : Keeps p) {ts r : List Tok} {a : α} (he : EndL ts) (e : p ts = .ok a r) : r.length ≤ ts.length := (h _ _ _ he e).2
/-- behind a line there are fewer tokens -/
theorem row_lt {α : Type} {p : List Tok → PR α} (hk : Keeps p) {n most : Nat} {first : Tok} {f : α → List Tok → PR SheetM} (hf : ∀ a r x q, f a r = .ok x q → q = r) {ts q : List Tok} {x : SheetM} (he : EndL ts)
    (h : ((p ts).bind fun a r => (endM n most first r).bind fun _ r => f a r) = .ok x q) : q.length < ts.length := by
  obtain ⟨a, r, h1, h2⟩ := bind_eq_ok h
  obtain ⟨u, r2, h3, h4⟩ := bind_eq_ok h2
  have := hf _ _ _ _ h4
  subst this
  have l1 := keeps_len hk he h1
  have l2 := end_lt h3
  omega
theorem over_same {g : Legs} {x y : SheetM} {r q : List Tok} (h : overLeg g x r = .ok y q) : q = r := by
  unfold overLeg at h
  split at h
  · injection h with _ h; exact h.symm
  · cases h
theorem pure_same {x y : SheetM} {r q : List Tok} (h : (PR.ok x r) = .ok y q) : q = r := by injection h with _ h; exact h.symm
theorem step_lt {f : Bool} {x y : SheetM} {t : Tok} {r q : List Tok} (he : EndL r) (h : stepM f x t r = .ok y q) : q.length < r.length := by
  unfold stepM at h
  by_cases h1 : t.text = kHorizon
  · rw [if_pos h1] at h
    cases f with
    | false => rw [if_neg (by decide)] at h; cases h
    | true =>
      rw [if_pos rfl] at h
      obtain ⟨n, r1, e1, e2⟩ := bind_eq_ok h
      obtain ⟨u, r2, e3, e4⟩ := bind_eq_ok e2
      have := pure_same e4; subst this
      have l1 := num_lt e1
      have l2 : q.length < r1.length := by rw [(take_ok e3).1]; simp
      omega
  rw [if_neg h1] at h
  cases f with
  | true => rw [if_pos rfl] at h; cases h
  | false =>
  rw [if_neg (by decide)] at h
  by_cases h2 : t.text = kStop
  · rw [if_pos h2] at h; exact row_lt keeps_name (fun _ _ _ _ e => pure_same e) he h
  rw [if_neg h2] at h
  by_cases h3 : t.text = kPath
  · rw [if_pos h3] at h; exact row_lt keeps_path (fun _ _ _ _ e => pure_same e) he h
  rw [if_neg h3] at h
  by_cases h4 : t.text = kDoor
  · rw [if_pos h4] at h; exact row_lt keeps_door (fun _ _ _ _ e => pure_same e) he h
  rw [if_neg h4] at h
  by_cases h5 : t.text = kRoute
  · rw [if_pos h5] at h; exact row_lt keeps_route (fun _ _ _ _ e => over_same e) he h
  rw [if_neg h5] at h
  by_cases h6 : t.text = kTrip
  · rw [if_pos h6] at h; exact row_lt keeps_trip (fun _ _ _ _ e => pure_same e) he h
  rw [if_neg h6] at h
  by_cases h7 : t.text = kHazard
  · rw [if_pos h7] at h; exact row_lt keeps_haz (fun _ _ _ _ e => pure_same e) he h
  rw [if_neg h7] at h; cases h
theorem ch_set5 (w : World) (n : Nat) (u0 u1 u2 u3 u4 : Value) : Ch (· = n) w (((((w.setCell ⟨n, 2, none⟩ u0).setCell ⟨n, 3, none⟩ u1).setCell ⟨n, 4, none⟩ u2).setCell ⟨n, 5, none⟩ u3).setCell ⟨n, 6, none⟩ u4) :=
  ((((ch_set w n 2 u0).trans (ch_set _ n 3 u1)).trans (ch_set _ n 4 u2)).trans (ch_set _ n 5 u3)).trans (ch_set _ n 6 u4)
theorem hor_eq (tx : List UInt8) : (tx == [104, 111, 114, 105, 122, 111, 110]) = decide (tx = kHorizon) := by
  rw [Bool.eq_iff_iff, beq_iff_eq, decide_eq_true_iff]; rfl
end Go.Proofs.YtcmlmfcnbmpajaaGreatDoor.Sh

