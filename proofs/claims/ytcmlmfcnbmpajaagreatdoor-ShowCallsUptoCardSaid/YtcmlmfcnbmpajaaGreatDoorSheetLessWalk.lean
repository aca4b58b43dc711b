/- Without one of its lines a sheet's text tells all other things: walked. Conditions: the library's variables hold what start-up lays. -/
import Derived.Test.YtcmlmfcnbmpajaaGreatDoorSheetLessMath
import Derived.Test.YtcmlmfcnbmpajaaGreatDoorKitOwn
namespace Go.Proofs.YtcmlmfcnbmpajaaGreatDoor.Sh
open Go.ChangeShapes Go.WideShapes Go.ChangeAt Go.RowKit
open Lx
set_option linter.unusedVariables false
set_option linter.unusedSimpArgs false
theorem refcheck_ok {x : SheetM} (hl : lightM x = true) (hx : May x) (p : ShA) (w : World) (h : Sh w (· < w.heap.size) x p) : Calls Tryz.prog 25 #[shV x p] w (fun e w' => e = .returned (.int .i64 0) ∧ Below w.heap.size w w') := by
  have := refcheck_any x p w h (lt_of hl)
  rwa [hx.check] at this
theorem cs_drop {α : Type} (f : α → List Value) (k : Nat) (h : ∀ a, (f a).length = k) (l : List α) (n : Nat) : cs f (l.drop n) = (cs f l).drop (n * k) := by
  induction l generalizing n with
  | nil => simp [cs]
  | cons a l ih =>
    cases n with
    | zero => simp
    | succ n => rw [List.drop_succ_cons, ih, cs_cons, Nat.succ_mul, Nat.add_comm, ← List.drop_drop, List.drop_left' (h a)]
theorem rd_drop2 {w : World} {S : Nat → Prop} {A : Option Addr} {xs : List Value} (h : Rd w S A xs) {c k : Nat} (hc : xs.length ≤ c) : Rd w S (if c = k + 2 then A else Option.map (fun x => { block := x.block, off := x.off + (k + 1 + 1) }) A) (xs.drop (k + 2)) := by
  have := h.drop (k := k + 2) (c := c = k + 2) (fun h => by omega)
  have e : (fun x : Addr => x.add (k + 2)) = fun x : Addr => { block := x.block, off := x.off + (k + 1 + 1) } := by
    funext x
    unfold Addr.add
    rw [if_neg (by omega)]
  rwa [e] at this
theorem same_str2 (w : World) (A B : Option Addr) (n m c d : Nat) (l : List (List UInt8)) (hn : Hid (n = l.length)) (hm : Hid (m = l.length)) (hN : n ≤ 1000000) (hx : Rd w (· < w.heap.size) A (cs strC l)) (hy : Rd w (· < w.heap.size) B (cs strC l)) :
    Calls Tryz.prog 14 #[.slice A n c, .slice B m d] w (BPost w true) := by
  obtain rfl : n = m := hn.out.trans hm.out.symm
  exact same_str w A B n c d l hn hN hx hy
end Go.Proofs.YtcmlmfcnbmpajaaGreatDoor.Sh

