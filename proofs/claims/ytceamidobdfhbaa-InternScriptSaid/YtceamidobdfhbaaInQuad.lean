/- Package intern's calls: what each answers of a table as it lies, and what it changes; proved by walking their texts, and by the library's contracts. Conditions: the table lies as TabAt says; a name has at most as many bytes as a string can have. -/
import Derived.Test.YtceamidobdfhbaaInRef
import Derived.Test.YtceamidobdfhbaaShelf
import Derived.Carry
namespace Go.Proofs.Ytceamidobdfhbaa.It
open Go.ChangeShapes Go.WideShapes Go.ChangeAt Go.RowKit Go.Maps
open Lx Sh
set_option linter.unusedVariables false
set_option linter.unusedSimpArgs false

/-- a table and the document's, of names M and K, and a copy of each, of names W; apart from each other -/
def Quad (w wr : World) (T S C V : Nat) (M K W : List Nm) : Prop := ∃ X Y Z U, TabAt wr X T M ∧ RefAt wr Y S K ∧ TabAt wr Z C W ∧ RefAt wr U V W ∧ (∀ k, X k → ¬ Y k ∧ ¬ Z k ∧ ¬ U k) ∧ (∀ k, Y k → ¬ Z k ∧ ¬ U k) ∧ (∀ k, X k → w.heap.size ≤ k) ∧ ∀ k, Y k → w.heap.size ≤ k
/-- a table and the document's, apart from each other -/
def TR (w wr : World) (T S : Nat) (M K : List Nm) : Prop := ∃ X Y, TabAt wr X T M ∧ RefAt wr Y S K ∧ (∀ k, X k → ¬ Y k) ∧ (∀ k, X k → w.heap.size ≤ k) ∧ ∀ k, Y k → w.heap.size ≤ k
theorem TR.after {w wr w2 : World} {T S : Nat} {M K : List Nm} (h : TR w wr T S M K) (hb : Below wr.heap.size wr w2) : TR w w2 T S M K := by
  obtain ⟨X, Y, h1, h2, h3, h4, h5⟩ := h
  exact ⟨X, Y, h1.after hb, h2.after hb, h3, h4, h5⟩
theorem TR.tab {w wr : World} {T S : Nat} {M K : List Nm} (h : TR w wr T S M K) : ∃ X, TabAt wr X T M := by obtain ⟨X, Y, h1, _⟩ := h; exact ⟨X, h1⟩
theorem TR.ref {w wr : World} {T S : Nat} {M K : List Nm} (h : TR w wr T S M K) : ∃ Y, RefAt wr Y S K := by obtain ⟨X, Y, h1, h2, _⟩ := h; exact ⟨Y, h2⟩
theorem tr_made {w w1 w2 : World} {T S : Nat} {X : Nat → Prop} {M K : List Nm} (hb : Below w.heap.size w w1) (h1 : TabAt w1 X T M) (hx : ∀ k, X k → w.heap.size ≤ k) (h2 : RefAt w2 (Fresh w1 w2) S K) (h : Below w1.heap.size w1 w2) : TR w w2 T S M K := by
  refine ⟨X, Fresh w1 w2, h1.after h, h2, fun k hk hf => ?_, hx, fun k hk => Nat.le_trans hb.size hk.1⟩
  have := h1.lt k hk
  have := hf.1
  omega
theorem Quad.tr {w wr : World} {T S C V : Nat} {M K W : List Nm} (h : Quad w wr T S C V M K W) : TR w wr T S M K := by
  obtain ⟨X, Y, Z, U, h1, h2, _, _, h5, _, h7, h8⟩ := h
  exact ⟨X, Y, h1, h2, fun k hk => (h5 k hk).1, h7, h8⟩
theorem Quad.after {w wr w2 : World} {T S C V : Nat} {M K W : List Nm} (h : Quad w wr T S C V M K W) (hb : Below wr.heap.size wr w2) : Quad w w2 T S C V M K W := by
  obtain ⟨X, Y, Z, U, h1, h2, h3, h4, h5, h6, h7, h8⟩ := h
  exact ⟨X, Y, Z, U, h1.after hb, h2.after hb, h3.after hb, h4.after hb, h5, h6, h7, h8⟩
theorem quad_made {w wr w5 w6 : World} {T S C V : Nat} {M K : List Nm} (h : TR w wr T S M K) (hC : TabAt w5 (Fresh wr w5) C M) (b5 : Below wr.heap.size wr w5) (hV : RefAt w6 (Fresh w5 w6) V M) (b6 : Below w5.heap.size w5 w6) : Quad w w6 T S C V M K M := by
  obtain ⟨X, Y, h1, h2, h3, h4, h5⟩ := h
  have s5 := b5.size
  refine ⟨X, Y, Fresh wr w5, Fresh w5 w6, (h1.after b5).after b6, (h2.after b5).after b6, hC.after b6, hV, fun k hk => ⟨h3 k hk, fun e => ?_, fun e => ?_⟩, fun k hk => ⟨fun e => ?_, fun e => ?_⟩, h4, h5⟩
  · have := h1.lt k hk; have := e.1; omega
  · have := h1.lt k hk; have := e.1; omega
  · have := h2.lt k hk; have := e.1; omega
  · have := h2.lt k hk; have := e.1; omega
theorem quad_tadd {w wr : World} {T S C V : Nat} {M K W : List Nm} (h : Quad w wr T S C V M K W) (hb : Below w.heap.size w wr) (x : Nm) (hx : x.length ≤ maxLen) :
    Calls Try.prog 10 #[.pointer (some ⟨T, 0, none⟩), .string ⟨x.toArray⟩] wr fun e w' => e = .returned (.tuple #[.int .i64 (addN M x : Nat), .int .i64 (addE M x : Nat)]) ∧ Hid (Quad w w' T S C V (addL M x) K W) ∧ Hid (Below w.heap.size w w') := by
  obtain ⟨X, Y, Z, U, h1, h2, h3, h4, h5, h6, h7, h8⟩ := h
  refine (add_any h1 x hx).mono ?_
  rintro e w' ⟨he, ht, hc⟩
  have far : ∀ k, (Y k ∨ Z k ∨ U k) → ¬ X k := fun k hk hx => by
    have := h5 k hx
    rcases hk with hk | hk | hk
    · exact this.1 hk
    · exact this.2.1 hk
    · exact this.2.2 hk
  refine ⟨he, Lib.hid ⟨_, Y, Z, U, ht.out, h2.far hc.out (fun k hk => far k (.inl hk)), h3.far hc.out (fun k hk => far k (.inr (.inl hk))), h4.far hc.out (fun k hk => far k (.inr (.inr hk))), fun k hk => ?_, h6, grow_from hb h7, h8⟩, Lib.hid (below_ch hb h7 hc.out)⟩
  rcases hk with hk | hk
  · exact h5 k hk
  · refine ⟨fun e => ?_, fun e => ?_, fun e => ?_⟩
    · have := h2.lt k e; have := hk.1; omega
    · have := h3.lt k e; have := hk.1; omega
    · have := h4.lt k e; have := hk.1; omega
theorem quad_sadd {w wr : World} {T S C V : Nat} {M K W : List Nm} (h : Quad w wr T S C V M K W) (hb : Below w.heap.size w wr) (x : Nm) :
    Calls Try.prog 19 #[.pointer (some ⟨S, 0, none⟩), .string ⟨x.toArray⟩] wr fun e w' => e = .returned (.tuple #[.int .i64 (addN K x : Nat), .int .i64 (addE K x : Nat)]) ∧ Hid (Quad w w' T S C V M (addL K x) W) ∧ Hid (Below w.heap.size w w') := by
  obtain ⟨X, Y, Z, U, h1, h2, h3, h4, h5, h6, h7, h8⟩ := h
  refine (radd_any h2 x).mono ?_
  rintro e w' ⟨he, ht, hc⟩
  refine ⟨he, Lib.hid ⟨X, _, Z, U, h1.far hc.out (fun k hk => (h5 k hk).1), ht.out, h3.far hc.out (fun k hk e => (h6 k e).1 hk), h4.far hc.out (fun k hk e => (h6 k e).2 hk), fun k hk => ⟨fun e => ?_, (h5 k hk).2⟩, fun k hk => ?_, h7, grow_from hb h8⟩, Lib.hid (below_ch hb h8 hc.out)⟩
  · rcases e with e | e
    · exact (h5 k hk).1 e
    · have := h1.lt k hk; have := e.1; omega
  · rcases hk with hk | hk
    · exact h6 k hk
    · refine ⟨fun e => ?_, fun e => ?_⟩
      · have := h3.lt k e; have := hk.1; omega
      · have := h4.lt k e; have := hk.1; omega
/-- both tell the same number of a name -/
theorem both_num {w wr : World} {T S : Nat} {M : List Nm} (h : TR w wr T S M M) (x : Nm) (hx : x.length ≤ maxLen) : ∃ (i : Int) (b : Bool), Hid (∀ W, Below wr.heap.size wr W → Calls Try.prog 11 #[.pointer (some ⟨T, 0, none⟩), .string ⟨x.toArray⟩] W (NumPost W i b)) ∧ Hid (∀ W, Below wr.heap.size wr W → Calls Try.prog 20 #[.pointer (some ⟨S, 0, none⟩), .string ⟨x.toArray⟩] W (NumPost W i b)) := by
  have hs : (⟨x.toArray⟩ : ByteArray).size ≤ maxLen := by rw [Lib.size_eq]; exact hx
  obtain ⟨X, h1⟩ := h.tab
  obtain ⟨Y, h2⟩ := h.ref
  by_cases hm : x ∈ M
  · obtain ⟨i, hi⟩ := List.getElem?_of_mem hm
    exact ⟨i, true, Lib.hid (fun W hW => num_in (h1.after hW) ⟨x.toArray⟩ hs i hi), Lib.hid (fun W hW => rnum_in (h2.after hW) x i hi)⟩
  · exact ⟨0, false, Lib.hid (fun W hW => num_out (h1.after hW) ⟨x.toArray⟩ hs hm), Lib.hid (fun W hW => rnum_out (h2.after hW) x hm)⟩
/-- both tell the same name of a number -/
theorem both_name {w wr : World} {T S : Nat} {M : List Nm} (h : TR w wr T S M M) (a : Int) : ∃ (s : ByteArray) (b : Bool), Hid (∀ W, Below wr.heap.size wr W → Calls Try.prog 12 #[.pointer (some ⟨T, 0, none⟩), .int .i64 a] W (NamPost W s b)) ∧ Hid (∀ W, Below wr.heap.size wr W → Calls Try.prog 21 #[.pointer (some ⟨S, 0, none⟩), .int .i64 a] W (NamPost W s b)) := by
  obtain ⟨X, h1⟩ := h.tab
  obtain ⟨Y, h2⟩ := h.ref
  by_cases ha : a < 0 ∨ (M.length : Int) ≤ a
  · exact ⟨_, _, Lib.hid (fun W hW => name_out (h1.after hW) a ha), Lib.hid (fun W hW => rname_out (h2.after hW) a ha)⟩
  · obtain ⟨i, rfl⟩ : ∃ i : Nat, a = (i : Int) := ⟨a.toNat, by omega⟩
    have hi : i < M.length := by omega
    obtain ⟨x, hx⟩ : ∃ x, M[i]? = some x := ⟨_, List.getElem?_eq_getElem hi⟩
    exact ⟨_, _, Lib.hid (fun W hW => name_in (h1.after hW) i x hx), Lib.hid (fun W hW => rname_in (h2.after hW) i x hx)⟩
end Go.Proofs.Ytceamidobdfhbaa.It
