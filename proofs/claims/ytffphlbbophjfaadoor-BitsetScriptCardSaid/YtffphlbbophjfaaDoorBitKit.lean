/- Two rows that are alike, told apart from nothing; widths of equal sets. -/
import Derived.Test.YtffphlbbophjfaaDoorBitLives
namespace Go.Proofs.YtffphlbbophjfaaDoor.Bs
open Go.ChangeShapes Go.WideShapes Go.ChangeAt Go.RowKit
set_option linter.unusedVariables false

theorem same2_int {w : World} {A B : Option Addr} {n m c d : Nat} {xs ys : List Int} (hn : Hid (n = xs.length)) (hm : Hid (m = ys.length)) (he : xs = ys) (hN : n ≤ 1000000) (hx : Rd w (· < w.heap.size) A (ic xs)) (hy : Rd w (· < w.heap.size) B (ic ys)) :
    Calls Tryd.prog 33 #[.slice A n c, .slice B m d] w (BoolPost w true) := by
  subst he
  have e : m = n := by rw [hm.out, hn.out]
  subst e
  exact same_int w A B m c d xs hn hN hx hy
theorem nxt_wd {f : Fs} {n m : Nat} (h : Wd n f) (hm : n ≤ m) (k : Nat) : nxt f m k = nxt f n k := by
  rcases nxt_cases f n k with ⟨e, h1⟩ | ⟨j, e, h1, h2, h3, h4⟩
  · rw [e, nxt_none fun i h2 h3 => by
      by_cases hi : i < n
      · exact h1 i h2 hi
      · exact h i (by omega)]
  · rw [e, nxt_some h1 (by omega) h3 h4]
theorem lst_wd {f : Fs} {n m : Nat} (h : Wd n f) (hm : n ≤ m) : lst f m = lst f n := lst_skip f hm fun i h1 _ => h i h1
theorem same_self (f : Fs) (n : Nat) : same f f n = true := (same_iff f f n).2 fun _ _ => rfl
theorem wd_empty (n : Nat) : Wd n fEmpty := fun _ _ => rfl
end Go.Proofs.YtffphlbbophjfaaDoor.Bs
