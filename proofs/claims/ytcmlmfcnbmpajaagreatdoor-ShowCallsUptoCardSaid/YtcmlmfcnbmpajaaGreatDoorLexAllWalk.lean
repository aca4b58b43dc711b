/- Package lex's All, walked: its tokens, or its first fault, at any text. Conditions: the library's variables hold what start-up lays. -/
import Derived.Test.YtcmlmfcnbmpajaaGreatDoorLexTwo
import Derived.Orders
namespace Go.Proofs.YtcmlmfcnbmpajaaGreatDoor.Lx
open Go.ChangeShapes Go.WideShapes Go.ChangeAt Go.RowKit
set_option linter.unusedVariables false

/-- what All answers: a fault, or tokens in new memory -/
def AllPost (w : World) (R : Res) (e : Ending) (w' : World) : Prop :=
  (∃ er l c : Nat, R = .bad er l c ∧ e = .returned (.tuple #[.slice none 0 0, .agg #[.int .i64 er, .int .i64 l, .int .i64 c]]) ∧ Below w.heap.size w w') ∨
  (∃ toks A c, R = .ok toks ∧ e = .returned (.tuple #[.slice A toks.length c, .agg #[.int .i64 0, .int .i64 0, .int .i64 0]]) ∧ toks.length ≤ c ∧ toks.length ≤ 2 * 65536 ∧ Rd w' (fun b => w.heap.size ≤ b ∧ b < w'.heap.size) A (tc toks) ∧ Below w.heap.size w w')
def lexAll (s : ByteArray) : Res := if 65536 < s.size then .bad 3 1 1 else lex s.data.toList 1 1 false

theorem fin_below {w W0 wr : World} {n0 : Nat} (hn : n0 = w.heap.size) (h0 : Below w.heap.size w W0) (hb : Below (n0 + 1) W0 wr) (u0 u1 u2 : Value) :
    Below w.heap.size w (((wr.setCell ⟨n0, 0, none⟩ u0).setCell ⟨n0, 1, none⟩ u1).setCell ⟨n0, 2, none⟩ u2).drew :=
  below_drew (((((h0.trans (hb.mono (by omega))).setCell (p := ⟨n0, 0, none⟩) (by show _ ≤ n0; omega) u0).setCell (p := ⟨n0, 1, none⟩) (by show _ ≤ n0; omega) u1)).setCell (p := ⟨n0, 2, none⟩) (by show _ ≤ n0; omega) u2)
theorem fin_rd {w wr : World} {n0 : Nat} {A : Option Addr} {xs : List Value} (hn : n0 = w.heap.size) (h : Rd wr (fun b => n0 + 1 ≤ b ∧ b < wr.heap.size) A xs) (u0 u1 u2 : Value) :
    Rd (((wr.setCell ⟨n0, 0, none⟩ u0).setCell ⟨n0, 1, none⟩ u1).setCell ⟨n0, 2, none⟩ u2).drew (fun b => w.heap.size ≤ b ∧ b < (((wr.setCell ⟨n0, 0, none⟩ u0).setCell ⟨n0, 1, none⟩ u1).setCell ⟨n0, 2, none⟩ u2).drew.heap.size) A xs := by
  have hk : Below (n0 + 1) wr wr := Below.refl _ _
  refine (h.keep (w' := (((wr.setCell ⟨n0, 0, none⟩ u0).setCell ⟨n0, 1, none⟩ u1).setCell ⟨n0, 2, none⟩ u2).drew) fun b hb => ?_).more fun b hb => ⟨by omega, ?_⟩
  · have e : b ≠ n0 := by omega
    exact ((Below.heap_setCell _ ⟨n0, 2, none⟩ u2 b e).trans (Below.heap_setCell _ ⟨n0, 1, none⟩ u1 b e)).trans (Below.heap_setCell _ ⟨n0, 0, none⟩ u0 b e)
  · have : (((wr.setCell ⟨n0, 0, none⟩ u0).setCell ⟨n0, 1, none⟩ u1).setCell ⟨n0, 2, none⟩ u2).drew.heap.size = wr.heap.size := by simp [World.setCell, World.drew]
    rw [this]; exact hb.2
end Go.Proofs.YtcmlmfcnbmpajaaGreatDoor.Lx

