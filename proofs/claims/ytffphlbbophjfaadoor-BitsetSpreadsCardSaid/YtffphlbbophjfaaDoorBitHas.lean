/- Has in the form that draws alone change the world; a map of numbers to 1 as a set. -/
import Derived.Test.YtffphlbbophjfaaDoorBitKit
import Derived.Maps.Own
import Derived.Maps.OwnOps
import Derived.Maps.Views
namespace Go.Proofs.YtffphlbbophjfaaDoor.Bs
open Go.ChangeShapes Go.WideShapes Go.ChangeAt Go.RowKit Go.Maps
set_option linter.unusedVariables false

def FindQ (w : World) (p : Value) (b e : Int) (r : Ending) (w' : World) : Prop := r = .returned (.tuple #[p, .int .u64 b, .int .i64 e]) ∧ ∃ m, w' = w.drewN m
theorem findQ_in (i : Nat) (w : World) (B g n len c : Nat) (hn : n ≤ 1048576) (h0 : w.cell? ⟨B, 0, none⟩ = some (.pointer (some ⟨B, 0, none⟩))) (h1 : w.cell? ⟨B, 1, none⟩ = some (.int .i64 n)) (h2 : w.cell? ⟨B, 2, none⟩ = some (.slice (some ⟨g, 0, none⟩) len c)) (hl : len = (n + 63) / 64) (hi : i < n) :
    Calls Tryd.prog 39 #[.pointer (some ⟨B, 0, none⟩), .int .i64 i] w (FindQ w (.pointer (some ⟨g, i / 64, none⟩)) ((2 ^ (i % 64) : Nat) : Int) 0) := by
  have hk : i / 64 < len := by omega
  have hl2 : len ≤ 16384 := by omega
  have hneg : ¬ ((i : Int) < 0) := by omega
  have hlt : ¬ ((n : Int) ≤ (i : Int)) := by omega
  have HL := Lib.hid hl
  clear hl
  go_enter Tryd.func39, Tryd.ntmps39
  go_wp2_with (go_at_call 44; refine (made_set _ B h0).mono ?_; rintro e w1 ⟨rfl, rfl⟩)
  have f1 : IntKind.i64.wrap ((i : Int) / 64) = (i : Int) / 64 := by rw [IntKind.wrap_i64]; omega
  have f2 : ((i : Int) / 64).toNat = i / 64 := by omega
  have f3 : (0 : Int) ≤ (i : Int) / 64 := by omega
  have f4 : (i : Int) / 64 < len := by omega
  go_quiet ((go_at_call 42; exact quiet_eq (bitOf_any i (by omega) (w.drewN _))))
  clear f1 f2 f3 f4
  go_wp2
  go_ret3
  exact ⟨rfl, _, rfl⟩
theorem hasQ_core (p : Option Addr) (i : Int) (a : Addr) (x b y : Nat) (q : Bool) (w : World) (ka : bits .and .u64 (x : Int) (b : Int) = (y : Int)) (hq : ((y : Int) == 0) = !q)
    (hc : w.cell? a = some (.int .u64 x))
    (hf : Calls Tryd.prog 39 #[.pointer p, .int .i64 i] w (FindQ w (.pointer (some a)) b 0)) :
    Calls Tryd.prog 17 #[.pointer p, .int .i64 i] w (QPost w q) := by
  go_enter Tryd.func17, Tryd.ntmps17
  go_wp2_with (go_at_call 39; refine hf.mono ?_; rintro e w1 ⟨rfl, m, rfl⟩)
  go_ret
  have hq2 : ((y : Int) != 0) = q := by simp only [bne, hq, Bool.not_not]
  exact ⟨ret_b hq2.symm, m, rfl⟩
/-- is number i there, asked in a region that draws its order -/
theorem has_quiet {w : World} {B g n : Nat} {f : Fs} (h : SetAt w B g n f) (i : Nat) (hi : i < n) (q : Bool) (hq : q = f i) (m : Nat) :
    Calls Tryd.prog 17 #[.pointer (some ⟨B, 0, none⟩), .int .i64 i] (w.drewN m) fun e w'' => e = .returned (.bool q) ∧ ∃ j, w'' = w.drewN j := by
  subst hq
  have h' := h.after (below_drewN (Below.refl _ _) m)
  obtain ⟨c, ws, rest, h1, h2, h3, h4⟩ := h'.cells (by omega)
  have hk : i / 64 < ws.length := by rw [h1.len]; omega
  refine (hasQ_core _ _ ⟨g, i / 64, none⟩ (ws.getD (i / 64) 0) (2 ^ (i % 64)) _ (f i) (w.drewN m) (bits_and_u64_nat _ _ (h1.lt _) (bit_lt i)) (zero_eq h1 i) (by rw [h4.cell, uc_at _ _ _ hk])
    (findQ_in i _ B g n ws.length c h.width h'.self.1 h'.self.2 (by simpa using h3.cell 2) h1.len hi)).mono ?_
  rintro e w' ⟨rfl, j, rfl⟩
  exact ⟨rfl, m + j, drewN_drewN _ _ _⟩

theorem lawInt : Keyed Tryd.prog 3 := int_keyed Tryd.underlying3
theorem zeroInt (w : World) : (zeroValue 3).run Tryd.prog w = .ok (.int .i64 0) w := by kernel_rfl
def bI (b : Bool) : Int := if b then 1 else 0
/-- block b is a map of at most n entries: 1 at what is there -/
def MapAt (w : World) (b n : Nat) (f : Fs) : Prop := ∃ D : DataW Unit, w.ownsMap Tryd.prog 3 (plainElem Tryd.prog 3) b n D ∧ ∀ i : Nat, D.atKey (.int .i64 i) (.lit (.int .i64 0)) = .lit (.int .i64 (bI (f i)))
theorem i64_wf (i : Nat) (hi : i < 1000000) : (Lit.int .i64 (i : Int)).wf = true := by
  have h := WalkArith.wf_i64 (n := (i : Int)) (by omega)
  exact h
theorem MapAt.look {w : World} {b n : Nat} {f : Fs} (h : MapAt w b n f) (i : Nat) (hi : i < 1000000) : (Instr.lookup 52 (.map (some b)) (.int .i64 i) false).run Tryd.prog w = .ok (.int .i64 (bI (f i))) w := by
  obtain ⟨D, hown, hD⟩ := h
  obtain ⟨c, hrun, hat, _⟩ := hown.lookup_int lawInt Tryd.underlying52 Tryd.underlying3 (zeroInt _) (keyOf_int_mk Tryd.underlying3 (i64_wf i hi))
  rw [hD i] at hat
  injection hat with e
  injection e with e1 e2
  rw [hrun, e2]
theorem MapAt.store {w : World} {b n : Nat} {f : Fs} (h : MapAt w b n f) (hn : n < 1000000) (i : Nat) (hi : i < 1000000) : ∃ w', (Instr.mapUpdate 52 (.map (some b)) (.int .i64 i) (.int .i64 1)).run Tryd.prog w = .ok () w' ∧ MapAt w' b (n + 1) (fPut f i) ∧ w.grownBy w' (some b) := by
  obtain ⟨D, hown, hD⟩ := h
  obtain ⟨w', hrun, hown', hg⟩ := hown.update lawInt Tryd.underlying52 (by simp only [maxLen]; omega) (keyOf_int_mk Tryd.underlying3 (i64_wf i hi)) (plainElem_int Tryd.underlying3 (a := 1) (by decide))
  have hm : IsMap D := by obtain ⟨es, _, _, _, _, rfl⟩ := hown; exact ⟨_, rfl⟩
  have hkl : ∀ a : Int, WideAt.IsKeyLit (.int .i64 a) := fun _ => trivial
  refine ⟨w', hrun, ⟨_, hown', fun j => ?_⟩, hg⟩
  by_cases e : j = i
  · subst e
    rw [atKey_put_same hm (hkl _)]
    simp [fPut, bI]
  · rw [atKey_put_other (by intro h; injection h with _ h; omega), hD j]
    have : decide (j = i) = false := decide_eq_false e
    simp [fPut, this]
theorem MapAt.is {w : World} {b n : Nat} {f : Fs} (h : MapAt w b n f) : ∃ es c, w.heap[b]? = some (.map es c) := by
  obtain ⟨D, ⟨es, c, hb, _⟩, _⟩ := h
  exact ⟨es, c, hb⟩
theorem MapAt.keep {w w' : World} {b n : Nat} {f : Fs} (h : MapAt w b n f) (hk : w'.heap[b]? = w.heap[b]?) : MapAt w' b n f := by
  obtain ⟨D, ⟨es, c, hb, h1, h2, h3⟩, hD⟩ := h
  exact ⟨D, ⟨es, c, hk.trans hb, h1, h2, h3⟩, hD⟩
theorem MapAt.lt {w : World} {b n : Nat} {f : Fs} (h : MapAt w b n f) : b < w.heap.size := by
  obtain ⟨es, c, hb⟩ := h.is
  rcases Nat.lt_or_ge b w.heap.size with hlt | hge
  · exact hlt
  · rw [Array.getElem?_eq_none hge] at hb; cases hb
theorem MapAt.after {w w' : World} {b n : Nat} {f : Fs} (h : MapAt w b n f) (hb : Below w.heap.size w w') : MapAt w' b n f := h.keep (hb.block _ h.lt)
theorem MapAt.far {w w' : World} {b n g : Nat} {t : TypeId} {f : Fs} (h : MapAt w b n f) (hb : Wr t g w w') : MapAt w' b n f :=
  h.keep (hb.block _ h.lt fun _ l hl => by
    obtain ⟨es, c, hm⟩ := h.is
    unfold Blk at hl; rw [hm] at hl; cases hl)
theorem MapAt.other {w w' : World} {b n b2 : Nat} {f : Fs} (h : MapAt w b n f) (hg : w.grownBy w' (some b2)) (ne : b ≠ b2) : MapAt w' b n f := h.keep (hg.block _ h.lt (by simpa using ne))
theorem MapAt.made (w : World) : MapAt (w.alloc (.map #[] 0)) w.heap.size 0 fEmpty := ⟨_, World.ownsMap_made _ _ _ _, fun i => rfl⟩
/-- a map was written -/
theorem SetAt.map {w w' : World} {B g n b k : Nat} {f f2 : Fs} (h : SetAt w B g n f) (m : MapAt w b k f2) (hg : w.grownBy w' (some b)) : SetAt w' B g n f := by
  obtain ⟨A, c, ws, rest, h1, h2, h3, h4⟩ := h.obj
  obtain ⟨es, cl, hm⟩ := m.is
  have keep : ∀ {x t l}, Blk w x t l → Blk w' x t l := fun {x t l} hx => (hg.block x hx.lt (by
    intro e
    injection e with e
    subst e
    unfold Blk at hx; rw [hm] at hx; cases hx)).trans hx
  exact ⟨h.width, Nat.lt_of_lt_of_le h.lt hg.size, A, c, ws, rest, h1, h2, keep h3, fun h0 => ⟨(h4 h0).1, keep (h4 h0).2⟩⟩
theorem below_map {a w w' : World} {b : Nat} (h : Below a.heap.size a w) (hg : w.grownBy w' (some b)) (hb : a.heap.size ≤ b) : Below a.heap.size a w' := h.grown hg h.size (fun k e => by injection e with e; omega)
theorem bI_ne (b : Bool) : (bI b != 0) = b := by cases b <;> rfl
theorem bI_eq (b : Bool) : (bI b == 0) = !b := by cases b <;> rfl
end Go.Proofs.YtffphlbbophjfaaDoor.Bs
