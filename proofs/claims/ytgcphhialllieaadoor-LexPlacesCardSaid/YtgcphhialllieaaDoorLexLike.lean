/- Package lex's Like at rows of tokens that are alike. Conditions: the rows hold fewer than a million tokens. -/
import Derived.Test.YtgcphhialllieaaDoorLexKit
namespace Go.Proofs.YtgcphhialllieaaDoor.Lx
open Go.ChangeShapes Go.WideShapes Go.ChangeAt Go.RowKit
set_option linter.unusedVariables false

def bare (t : Tok) : Int × List UInt8 × Int := (t.kind, t.text, t.num)
/-- the same but the places -/
def Alike (a b : List Tok) : Prop := a.map bare = b.map bare
theorem Alike.len {a b : List Tok} (h : Alike a b) : a.length = b.length := by have := congrArg List.length h; simpa using this
theorem Alike.at_ {a b : List Tok} (h : Alike a b) {k : Nat} {x y : Tok} (hx : a[k]? = some x) (hy : b[k]? = some y) : bare x = bare y := by
  have := congrArg (·[k]?) h
  simpa [hx, hy] using this

set_option maxHeartbeats 1000000 in
theorem equal_any (w : World) (A B : Option Addr) (n c d : Nat) (za zb : List Tok) (hn : Hid (n = za.length)) (hz : Alike za zb) (hN : n ≤ 1000000) (hx : Rd w (· < w.heap.size) A (tc za)) (hy : Rd w (· < w.heap.size) B (tc zb)) :
    Calls Tryd.prog 23 #[.slice A n c, .slice B n d, .func (.func 24) #[] #[]] w fun e w' => e = .returned (.bool true) ∧ Below w.heap.size w w' := by
  have HX := Lib.hid hx
  have HY := Lib.hid hy
  have HZ := Lib.hid hz
  have hnb : Hid (n = zb.length) := Lib.hid (by rw [hn.out, hz.len])
  clear hx hy hz
  go_enter Tryd.func23, Tryd.ntmps23
  go_wp2
  go_loopw [17] (fun v wr => ∃ k : Nat, v = .int .i64 k ∧ k ≤ n ∧ Below w.heap.size w wr) (fun v _ => n - (intOf v).toNat)
  case atStart => exact ⟨0, rfl, by omega, Below.refl _ _⟩
  case round =>
    obtain ⟨k, rfl, hk, hbel⟩ := hrel
    by_cases hlt : k < n
    · obtain ⟨⟨kd, tx, nm, ln, cl⟩, ht⟩ := tok_at za hn hlt
      obtain ⟨⟨kd', tx', nm', ln', cl'⟩, ht'⟩ := tok_at zb hnb hlt
      have he := HZ.out.at_ ht ht'
      simp only [bare, Prod.mk.injEq] at he
      obtain ⟨rfl, rfl, rfl⟩ := he
      obtain ⟨ad, rfl, hS, ⟨a0, a1, a2, a3, a4⟩⟩ := (HX.out.below2 hbel).tok ht
      have hb' : Below w.heap.size w (wr.alloc (.cells #[.int .i64 kd, .string ⟨tx.toArray⟩, .int .i64 nm, .int .i64 ln, .int .i64 cl] 31)) := hbel.alloc hbel.size _
      obtain ⟨bd, rfl, hT, ⟨b0, b1, b2, b3, b4⟩⟩ := (HY.out.below2 hb').tok ht'
      have HB := Lib.hid hbel
      clear hbel ht ht' hb'
      have hi : (k : Int) < (n : Int) := by omega
      go_wp2_with (go_at_call 24; refine (like1_any _ _ _ _ _ _ _ _).mono ?_; rintro e w1 ⟨rfl, hb1⟩; have HB1 := Lib.hid hb1; clear hb1)
      go_roundw
      case rel => exact ⟨k + 1, by go_num, by omega, below_then ((HB.out.alloc HB.out.size _).alloc (Nat.le_trans HB.out.size (by simp)) _) HB1.out (Nat.le_trans HB.out.size (by simp; omega))⟩
      case measure => simp [intOf]; omega
    · have HB := Lib.hid hbel
      clear hbel
      go_wp2
      go_ret
      exact ⟨rfl, HB.out⟩
set_option maxHeartbeats 1000000 in
theorem like_any (w : World) (A B : Option Addr) (n m c d : Nat) (za zb : List Tok) (hn : Hid (n = za.length)) (hm : Hid (m = zb.length)) (hz : Alike za zb) (hN : n ≤ 1000000) (hx : Rd w (· < w.heap.size) A (tc za)) (hy : Rd w (· < w.heap.size) B (tc zb)) :
    Calls Tryd.prog 14 #[.slice A n c, .slice B m d] w fun e w' => e = .returned (.bool true) ∧ Below w.heap.size w w' := by
  obtain rfl : m = n := by rw [hn.out, hm.out, hz.len]
  have H := Lib.hid (equal_any w A B m c d za zb hn hz hN hx hy)
  clear hx hy hz
  go_enter Tryd.func14, Tryd.ntmps14
  go_wp2_with (go_at_call 23; refine H.out.mono ?_; rintro e w1 ⟨rfl, hb1⟩)
  go_ret
  exact ⟨rfl, hb1⟩
end Go.Proofs.YtgcphhialllieaaDoor.Lx
