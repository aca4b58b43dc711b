/- The kit's digits, when and along, proved by walking their texts. Conditions: numbers from 0 on. -/
import Derived.Test.YtcmlmfcnbmpajaaGreatDoorSheetItems
namespace Go.Proofs.YtcmlmfcnbmpajaaGreatDoor.Sh
open Go.ChangeShapes Go.WideShapes Go.ChangeAt Go.RowKit
open Lx
set_option linter.unusedVariables false
set_option linter.unusedSimpArgs false

theorem str_app (a b : List UInt8) : (⟨a.toArray⟩ : ByteArray) ++ ⟨b.toArray⟩ = ⟨(a ++ b).toArray⟩ := by
  apply ByteArray.ext
  simp
theorem bytes_eq {a b : ByteArray} (h : a.data.toList = b.data.toList) : a = b := ByteArray.ext (Array.ext' h)
theorem dec_step {n : Nat} (h : 10 ≤ n) : Lib.decDigits n = Lib.decDigits (n / 10) ++ Lib.decDigits (n % 10) := by
  rw [Lib.decDigits, dif_neg (by omega), Lib.decDigits_one (show n % 10 < 10 by omega)]
theorem dec_len (n : Nat) (h : n ≤ 9000000000000000000) : (Lib.decDigits n).length ≤ 20 := by
  rw [Lib.decDigits_length]
  exact Tk.nDigits_le 19 n (by omega)
theorem dec_one (n : Nat) (h : n < 10) : (⟨#[48, 49, 50, 51, 52, 53, 54, 55, 56, 57]⟩ : ByteArray).extract n (n + 1) = ⟨(Lib.decDigits n).toArray⟩ := by
  rw [Lib.decDigits_one h]
  have : n = 0 ∨ n = 1 ∨ n = 2 ∨ n = 3 ∨ n = 4 ∨ n = 5 ∨ n = 6 ∨ n = 7 ∨ n = 8 ∨ n = 9 := by omega
  rcases this with rfl | rfl | rfl | rfl | rfl | rfl | rfl | rfl | rfl | rfl <;> exact ByteArray.ext (by rfl)
/-- the digits of a number, and how many there are at most -/
theorem dec_short {n : Int} (h : tickB n = true) : (Lib.decDigits n.toNat).length ≤ 20 := by
  simp only [tickB, Bool.and_eq_true, decide_eq_true_eq] at h
  exact dec_len _ (by omega)
theorem sp_when (k : List UInt8) (t : TimesM) : sp (whenT k t) = [32, 102, 114, 111, 109, 32] ++ Lib.decDigits t.frm.toNat ++ [32, 101, 118, 101, 114, 121, 32] ++ Lib.decDigits t.every.toNat ++ [32] ++ k ++ [32] ++ Lib.decDigits t.len.toNat := by
  simp [sp, whenT, kT, nT, kFrom, kEvery]
/-- the text of a route's line so far: its first stop, and j legs -/
def alongT (r : RouteM) (j : Nat) : List UInt8 := kRoute ++ sp [wT r.name, wT (r.stops.getD 0 [])] ++ sp ((List.range' 0 j).flatMap (pieceT r))
theorem along_zero (r : RouteM) : alongT r 0 = [114, 111, 117, 116, 101, 32] ++ r.name ++ [32] ++ r.stops.getD 0 [] := by simp [alongT, sp, wT, kRoute]
theorem along_more (r : RouteM) (j : Nat) : alongT r (j + 1) = alongT r j ++ ([32] ++ Lib.decDigits (r.rides.getD j 0).toNat ++ [32] ++ r.stops.getD (j + 1) []) ++ (if j + 2 < r.stops.length ∧ 0 < r.stays.getD j 0 then [32, 115, 116, 97, 121, 32] ++ Lib.decDigits (r.stays.getD j 0).toNat else []) := by
  have e : List.range' 0 (j + 1) = List.range' 0 j ++ [j] := by rw [List.range'_concat]; simp
  unfold alongT
  rw [e, List.flatMap_append, sp_app]
  by_cases h : j + 2 < r.stops.length ∧ 0 < r.stays.getD j 0
  · rw [if_pos h]; simp only [List.flatMap_cons, List.flatMap_nil, pieceT, if_pos h]; simp [sp, nT, wT, kT, kStay]
  · rw [if_neg h]; simp only [List.flatMap_cons, List.flatMap_nil, pieceT, if_neg h]; simp [sp, nT, wT]
theorem along_line (r : RouteM) : alongT r (r.stops.length - 1) = lineB (Item.toks (.route r)) := by
  simp only [alongT, lineB, Item.toks, Item.rest, Item.key, sp_app]
  simp [kT]
theorem name_len {s : List UInt8} (h : nameB s = true) : s.length ≤ 24 := by
  simp only [nameB, Bool.and_eq_true, decide_eq_true_eq] at h
  exact h.1
theorem along_len {r : RouteM} (hn : nameB r.name = true ∧ r.stops.all nameB = true) (ht : r.rides.all tickB = true ∧ r.stays.all tickB = true) (hc : r.rides.length + 1 = r.stops.length ∧ r.stays.length + 2 = r.stops.length) : ∀ j, j + 1 ≤ r.stops.length → (alongT r j).length ≤ 100 + 100 * j := by
  intro j
  induction j with
  | zero =>
    intro h
    have h1 := name_len hn.1
    have h2 := name_len (getD_all (d := []) hn.2 (k := 0) (by omega))
    rw [along_zero]
    simp at h2 ⊢
    omega
  | succ j ih =>
    intro h
    have h0 := ih (by omega)
    have h1 := name_len (getD_all (d := []) hn.2 (k := j + 1) (by omega))
    have h2 := dec_short (getD_all (d := 0) ht.1 (k := j) (by omega))
    rw [along_more]
    by_cases hx : j + 2 < r.stops.length ∧ 0 < r.stays.getD j 0
    · have h3 := dec_short (getD_all (d := 0) ht.2 (k := j) (by omega))
      rw [if_pos hx]
      simp only [List.length_append, List.length_cons, List.length_nil]
      omega
    · rw [if_neg hx]
      simp only [List.length_append, List.length_cons, List.length_nil]
      omega
theorem getD_of {α : Type} {l : List α} {k : Nat} {a d : α} (h : l[k]? = some a) : l.getD k d = a := by rw [List.getD_eq_getElem?_getD, h]; rfl
end Go.Proofs.YtcmlmfcnbmpajaaGreatDoor.Sh

