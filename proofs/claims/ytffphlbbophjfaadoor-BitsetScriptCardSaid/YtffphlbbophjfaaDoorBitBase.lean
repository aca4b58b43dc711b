/- Words for package bitset: how a set lies in memory (an object of three cells, a row of words), what keeps it, what a call changes. -/
import Derived.Test.YtffphlbbophjfaaDoorRows
import Derived.Test.YtffphlbbophjfaaDoorBitMath
import Derived.WalkKit
import Derived.ProofKit
import Derived.OpenShut
import Derived.Handy
import Derived.Lib.Hide
import Derived.RegionTactic
import Derived.BigRegion
import Derived.ChangeAlike
import Derived.LoopTactic
import Derived.Deep.Draws
import Derived.Deep.QuietTactic
import Derived.BigQuiet
import Derived.Laws.OwnMore
import Derived.Laws.Rows
import Derived.Laws.BitsAllLaws
import Derived.Laws.Bits64b
import Derived.Maps.AppendAt
import Derived.Deep.AppendLies
import Derived.Deep.LoopGhost
import Derived.Lib.TrailingZeros
namespace Go.Proofs.YtffphlbbophjfaaDoor.Bs
open Go.ChangeShapes Go.WideShapes Go.ChangeAt Go.RowKit
set_option linter.unusedVariables false

/-- the cells of words, of numbers, of bools -/
def uc (l : List Nat) : List Value := l.map fun (n : Nat) => Value.int .u64 (n : Int)
def ic (l : List Int) : List Value := l.map (Value.int .i64)
def bc (f : Fs) (n : Nat) : List Value := (List.range n).map fun i => Value.bool (f i)
theorem uc_length (l : List Nat) : (uc l).length = l.length := by simp [uc]
theorem ic_length (l : List Int) : (ic l).length = l.length := by simp [ic]
theorem bc_length (f : Fs) (n : Nat) : (bc f n).length = n := by simp [bc]
theorem uc_at (l : List Nat) (r : List Value) (k : Nat) (hk : k < l.length) : (uc l ++ r)[k]? = some (.int .u64 (l.getD k 0)) := by
  rw [List.getElem?_append_left (by rw [uc_length]; exact hk)]
  simp [uc, List.getD_eq_getElem?_getD, hk]
theorem uc_set (l : List Nat) (r : List Value) (k x : Nat) (hk : k < l.length) : (uc l ++ r).set k (.int .u64 x) = uc (l.set k x) ++ r := by
  rw [List.set_append_left _ _ (by rw [uc_length]; exact hk)]
  simp [uc, List.map_set]
theorem bc_at (f : Fs) (n : Nat) (r : List Value) (k : Nat) (hk : k < n) : (bc f n ++ r)[k]? = some (.bool (f k)) := by
  rw [List.getElem?_append_left (by rw [bc_length]; exact hk)]
  simp [bc, List.getElem?_map, List.getElem?_range hk]
theorem bc_set (f g : Fs) (n k : Nat) (r : List Value) (b : Bool) (hk : k < n) (hg : ∀ i, i < n → g i = if i = k then b else f i) : (bc f n ++ r).set k (.bool b) = bc g n ++ r := by
  rw [List.set_append_left _ _ (by rw [bc_length]; exact hk)]
  congr 1
  apply List.ext_getElem
  · simp [bc]
  · intro i h1 h2
    have hi : i < n := by simpa [bc] using h2
    rw [List.getElem_set]
    simp only [bc, List.getElem_map, List.getElem_range]
    rw [hg i hi]
    by_cases e : k = i
    · subst e; simp
    · rw [if_neg e, if_neg (fun h => e h.symm)]

theorem block_of_add (a : Addr) (n : Nat) : (a.add n).block = a.block := by unfold Addr.add; split <;> rfl
/-- the cells xs lie from A on, in a block of S -/
def Rd (w : World) (S : Nat → Prop) (A : Option Addr) (xs : List Value) : Prop :=
  0 < xs.length → ∃ ad, A = some ad ∧ S ad.block ∧ ∀ j u, xs[j]? = some u → w.cell? (ad.add j) = some u
section
variable {w w' : World} {S S' : Nat → Prop} {A : Option Addr} {xs : List Value}
theorem Rd.none_ : Rd w S A [] := fun h => absurd h (by simp)
theorem Rd.keep (h : Rd w S A xs) (hk : ∀ b, S b → w'.heap[b]? = w.heap[b]?) : Rd w' S A xs := fun hn => by
  obtain ⟨ad, e, hb, hc⟩ := h hn
  exact ⟨ad, e, hb, fun j u hu => (World.cell?_of_block (hk _ (by rw [block_of_add]; exact hb))).trans (hc j u hu)⟩
theorem Rd.more (h : Rd w S A xs) (hs : ∀ b, S b → S' b) : Rd w S' A xs := fun hn => by
  obtain ⟨ad, e, hb, hc⟩ := h hn
  exact ⟨ad, e, hs _ hb, hc⟩
theorem Rd.below {B : Nat} (h : Rd w (· < B) A xs) (hb : Below B w w') : Rd w' (· < B) A xs := h.keep fun b hl => hb.block b hl
end

/-- block g is the cells l, none frozen -/
def Blk (w : World) (g : Nat) (t : TypeId) (l : List Value) : Prop := w.heap[g]? = some (.cells l.toArray t (0, 0))
section
variable {w w' : World} {g : Nat} {t : TypeId} {l : List Value}
theorem Blk.lt (h : Blk w g t l) : g < w.heap.size := by
  rcases Nat.lt_or_ge g w.heap.size with hlt | hge
  · exact hlt
  · unfold Blk at h; rw [Array.getElem?_eq_none hge] at h; cases h
theorem Blk.cell (h : Blk w g t l) (i : Nat) : w.cell? ⟨g, i, none⟩ = l[i]? := by
  have := cell_of_row w g i l.toArray t (0, 0) h
  simpa using this
theorem Blk.frozen (h : Blk w g t l) (i : Nat) : w.frozen? ⟨g, i, none⟩ = false := by
  unfold Blk at h
  simp [World.frozen?, h]
theorem Blk.new (w : World) (t : TypeId) (l : List Value) : Blk (w.alloc (.cells l.toArray t)) w.heap.size t l := heap_alloc_new w _
theorem Blk.alloc (h : Blk w g t l) (o : Obj) : Blk (w.alloc o) g t l := (Below.heap_alloc w o g h.lt).trans h
theorem Blk.set_ (h : Blk w g t l) (i : Nat) (u : Value) : Blk (w.setCell ⟨g, i, none⟩ u) g t (l.set i u) := by
  unfold Blk at h ⊢
  simp [World.setCell, Array.getElem?_modify, h]
theorem Blk.far (h : Blk w g t l) {p : Addr} (hp : g ≠ p.block) (u : Value) : Blk (w.setCell p u) g t l := (Below.heap_setCell w p u g hp).trans h
theorem Blk.below {B : Nat} (h : Blk w g t l) (hb : Below B w w') (hg : g < B) : Blk w' g t l := (hb.block g hg).trans h
theorem Blk.after (h : Blk w g t l) (hb : Below w.heap.size w w') : Blk w' g t l := h.below hb h.lt
theorem Blk.typ {t' : TypeId} {l' : List Value} (h : Blk w g t l) (h' : Blk w g t' l') : t = t' := by
  unfold Blk at h h'; rw [h] at h'; injection h' with e; injection e
theorem Blk.val {t' : TypeId} {l' : List Value} (h : Blk w g t l) (h' : Blk w g t' l') : l = l' := by
  unfold Blk at h h'; rw [h] at h'; injection h' with e; injection e with e1 e2
  simpa using congrArg Array.toList e1
theorem Blk.rd (h : Blk w g t l) {S : Nat → Prop} (hS : S g) (off : Nat) : Rd w S (some ⟨g, off, none⟩) (l.drop off) := fun _ =>
  ⟨_, rfl, hS, fun j u hu => by
    have e : (⟨g, off, none⟩ : Addr).add j = ⟨g, off + j, none⟩ := by
      unfold Addr.add; split
      · subst_vars; rfl
      · rfl
    rw [e, h.cell, ← hu, List.getElem?_drop]⟩
end

/-- what a call that writes into one row changes: of what was there, block g alone, and only if it holds cells of type t -/
structure Wr (t : TypeId) (g : Nat) (w w' : World) : Prop where
  os : w'.os = w.os
  tape : w'.tape = w.tape
  output : w'.output = w.output
  size : w.heap.size ≤ w'.heap.size
  block : ∀ b, b < w.heap.size → (b = g → ∀ l, ¬ Blk w b t l) → w'.heap[b]? = w.heap[b]?
theorem Wr.ofBelow {t : TypeId} {g : Nat} {w w' : World} (h : Below w.heap.size w w') : Wr t g w w' := ⟨h.os, h.tape, h.output, h.size, fun b hb _ => h.block b hb⟩
theorem Wr.refl (t : TypeId) (g : Nat) (w : World) : Wr t g w w := .ofBelow (Below.refl _ _)
theorem Wr.below {t : TypeId} {g B : Nat} {a w w' : World} (h : Below B a w) (hg : Wr t g w w') (hB : B ≤ w.heap.size) (hr : B ≤ g) : Below B a w' :=
  ⟨hg.os.trans h.os, hg.tape.trans h.tape, hg.output.trans h.output, Nat.le_trans h.size hg.size, fun b hb => (hg.block b (by omega) (fun e => by omega)).trans (h.block b hb)⟩
theorem Wr.blk {t t' : TypeId} {g b : Nat} {l : List Value} {w w' : World} (h : Wr t g w w') (k : Blk w b t' l) (ne : b ≠ g ∨ t' ≠ t) : Blk w' b t' l :=
  (h.block b k.lt (fun e l' hl => by
    rcases ne with ne | ne
    · exact ne e
    · exact ne (k.typ hl))).trans k
theorem Wr.set_ {t : TypeId} {g : Nat} {l : List Value} {w w1 : World} (h : Wr t g w w1) (k : Blk w g t l) (i : Nat) (u : Value) : Wr t g w (w1.setCell ⟨g, i, none⟩ u) :=
  ⟨h.os, h.tape, h.output, by simpa [World.setCell] using h.size, fun b hb ne => by
    have hne : b ≠ g := fun e => ne e l (e ▸ k)
    exact (Below.heap_setCell w1 ⟨g, i, none⟩ u b hne).trans (h.block b hb ne)⟩
theorem Wr.then_ {t : TypeId} {g : Nat} {w w1 w2 : World} (h : Wr t g w w1) (k : Below w1.heap.size w1 w2) : Wr t g w w2 :=
  ⟨k.os.trans h.os, k.tape.trans h.tape, k.output.trans h.output, Nat.le_trans h.size k.size, fun b hb ne => (k.block b (Nat.lt_of_lt_of_le hb h.size)).trans (h.block b hb ne)⟩
theorem keep_trans {a b c : World} (h1 : Below a.heap.size a b) (h2 : Below b.heap.size b c) : Below a.heap.size a c :=
  h1.trans (h2.mono h1.size)
theorem below_then {B : Nat} {a b c : World} (h1 : Below B a b) (h2 : Below b.heap.size b c) (hB : B ≤ b.heap.size) : Below B a c :=
  h1.trans (h2.mono hB)
theorem below_drewN {B : Nat} {a w : World} (h : Below B a w) (n : Nat) : Below B a (w.drewN n) := ⟨h.os, h.tape, h.output, h.size, h.block⟩
theorem below_drew {B : Nat} {a w : World} (h : Below B a w) : Below B a w.drew := ⟨h.os, h.tape, h.output, h.size, h.block⟩
theorem ret_b {a b : Bool} (h : a = b) : Ending.returned (.bool b) = .returned (.bool a) := by rw [h]
theorem ret_i {k : IntKind} {a b : Int} (h : a = b) : Ending.returned (.int k a) = .returned (.int k b) := by rw [h]

/-- a set in memory: the object is block B, its words block g (asked only where there is one) -/
structure SetAt (w : World) (B g : Nat) (n : Nat) (f : Fs) : Prop where
  width : n ≤ 1048576
  lt : g < w.heap.size
  obj : ∃ A c ws rest, Is ws n f ∧ ws.length ≤ c ∧ Blk w B 67 [.pointer (some ⟨B, 0, none⟩), .int .i64 n, .slice A ws.length c] ∧ (0 < n → A = some ⟨g, 0, none⟩ ∧ Blk w g 61 (uc ws ++ rest))
theorem SetAt.wd {w : World} {B g n : Nat} {f : Fs} (h : SetAt w B g n f) : Wd n f := by
  obtain ⟨A, c, ws, rest, h1, _⟩ := h.obj; exact h1.wd
theorem SetAt.after {w w' : World} {B g n : Nat} {f : Fs} (h : SetAt w B g n f) (hb : Below w.heap.size w w') : SetAt w' B g n f := by
  obtain ⟨A, c, ws, rest, h1, h2, h3, h4⟩ := h.obj
  exact ⟨h.width, Nat.lt_of_lt_of_le h.lt hb.size, A, c, ws, rest, h1, h2, h3.after hb, fun h0 => ⟨(h4 h0).1, (h4 h0).2.after hb⟩⟩
theorem SetAt.ltB {w : World} {B g n : Nat} {f : Fs} (h : SetAt w B g n f) : B < w.heap.size := by
  obtain ⟨A, c, ws, rest, h1, h2, h3, h4⟩ := h.obj; exact h3.lt
/-- another row of words was written -/
theorem SetAt.far {w w' : World} {B g n : Nat} {f : Fs} {g' : Nat} (h : SetAt w B g n f) (hb : Wr 61 g' w w') (ne : g ≠ g') : SetAt w' B g n f := by
  obtain ⟨A, c, ws, rest, h1, h2, h3, h4⟩ := h.obj
  exact ⟨h.width, Nat.lt_of_lt_of_le h.lt hb.size, A, c, ws, rest, h1, h2, hb.blk h3 (.inr (by decide)), fun h0 => ⟨(h4 h0).1, hb.blk (h4 h0).2 (.inl ne)⟩⟩
/-- a row of another type was written -/
theorem SetAt.apart {w w' : World} {B g n : Nat} {f : Fs} {g' : Nat} {t : TypeId} (h : SetAt w B g n f) (hb : Wr t g' w w') (n1 : t ≠ 61) (n2 : t ≠ 67) : SetAt w' B g n f := by
  obtain ⟨A, c, ws, rest, h1, h2, h3, h4⟩ := h.obj
  exact ⟨h.width, Nat.lt_of_lt_of_le h.lt hb.size, A, c, ws, rest, h1, h2, hb.blk h3 (.inr (fun e => n2 e.symm)), fun h0 => ⟨(h4 h0).1, hb.blk (h4 h0).2 (.inr (fun e => n1 e.symm))⟩⟩

/-- what the answer of a row of numbers is: it lies in new memory -/
def NumsNew (w : World) (l : List Int) (e : Ending) (w' : World) : Prop :=
  ∃ A n c, e = .returned (.slice A n c) ∧ Hid (n = l.length) ∧ n ≤ c ∧ Rd w' (fun b => w.heap.size ≤ b ∧ b < w'.heap.size) A (ic l) ∧ Below w.heap.size w w'

/-- the library's table of places lies in its variable -/
def Env (w : World) : Prop := ∀ j, j < 64 → w.cell? ⟨0, j, none⟩ = some (.int .u8 (Lib.deBruijn64tab.getD j 0))
theorem Env.lt {w : World} (h : Env w) : 0 < w.heap.size := by
  have := World.block_lt_of_cell? w _ (h 0 (by omega)); simpa using this
theorem Env.below {B : Nat} {w w' : World} (h : Env w) (hb : Below B w w') (hB : 0 < B) : Env w' := fun j hj => (World.cell?_of_block (hb.block _ hB)).trans (h j hj)
theorem Env.after {w w' : World} (h : Env w) (hb : Below w.heap.size w w') : Env w' := h.below hb h.lt
end Go.Proofs.YtffphlbbophjfaaDoor.Bs
