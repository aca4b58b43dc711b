/- Words for package order: rows of numbers and of keys as they lie in memory; what keeps them; the lists that the contracts speak of. -/
import Derived.Test.YtcjpimocbgeheaaRows
import Derived.WalkKit
import Derived.ProofKit
import Derived.OpenShut
import Derived.Handy
import Derived.Lib.Hide
import Derived.RegionTactic
import Derived.BigRegion
import Derived.ChangeAlike
import Derived.LoopTactic
import Derived.Deep.Draws
import Derived.Deep.QuietTactic
import Derived.BigQuiet
import Derived.Laws.OwnMore
import Derived.Laws.Rows
import Derived.Maps.AppendAt
import Derived.Deep.AppendLies
import Derived.Deep.LoopGhost
namespace Go.Proofs.Ytcjpimocbgeheaa.Od
open Go.ChangeShapes Go.WideShapes Go.ChangeAt Go.RowKit
set_option linter.unusedVariables false

/-- a key: its number and its place -/
abbrev Key := Int × Int
/-- the cells of keys -/
def kc (l : List Key) : List Value := l.flatMap fun p => [.int .i64 p.1, .int .i64 p.2]
/-- the cells of numbers -/
def ic (l : List Int) : List Value := l.map (Value.int .i64)
theorem kc_nil : kc [] = [] := rfl
theorem kc_cons (p : Key) (l : List Key) : kc (p :: l) = .int .i64 p.1 :: .int .i64 p.2 :: kc l := rfl
theorem kc_append (a b : List Key) : kc (a ++ b) = kc a ++ kc b := by simp [kc]
theorem kc_length (l : List Key) : (kc l).length = l.length * 2 := by
  induction l with
  | nil => rfl
  | cons p l ih => rw [kc_cons]; simp [ih]; omega
theorem ic_length (l : List Int) : (ic l).length = l.length := by simp [ic]
theorem kc_at (l : List Key) (k : Nat) (p : Key) (h : l[k]? = some p) : (kc l)[k * 2]? = some (.int .i64 p.1) ∧ (kc l)[k * 2 + 1]? = some (.int .i64 p.2) := by
  induction l generalizing k with
  | nil => simp at h
  | cons q l ih =>
    cases k with
    | zero => simp at h; subst h; simp [kc_cons]
    | succ k => simp at h; have := ih k h; rw [kc_cons]; have e : (k + 1) * 2 = k * 2 + 2 := by omega
                rw [e]; exact ⟨by simpa using this.1, by simpa using this.2⟩

theorem block_of_add (a : Addr) (n : Nat) : (a.add n).block = a.block := by unfold Addr.add; split <;> rfl
theorem add_of_add (a : Addr) (i j : Nat) : (a.add i).add j = a.add (i + j) := by
  unfold Addr.add
  by_cases hi : i = 0 <;> by_cases hj : j = 0 <;> simp [hi, hj, Nat.add_assoc]

/-- the cells xs lie from A on, in a block of S -/
def Rd (w : World) (S : Nat → Prop) (A : Option Addr) (xs : List Value) : Prop :=
  0 < xs.length → ∃ ad, A = some ad ∧ S ad.block ∧ ∀ j u, xs[j]? = some u → w.cell? (ad.add j) = some u
section
variable {w w' : World} {S S' : Nat → Prop} {A : Option Addr} {xs : List Value}
theorem Rd.none_ : Rd w S A [] := fun h => absurd h (by simp)
theorem Rd.keep (h : Rd w S A xs) (hk : ∀ b, S b → w'.heap[b]? = w.heap[b]?) : Rd w' S A xs := fun hn => by
  obtain ⟨ad, e, hb, hc⟩ := h hn
  exact ⟨ad, e, hb, fun j u hu => (World.cell?_of_block (hk _ (by rw [block_of_add]; exact hb))).trans (hc j u hu)⟩
theorem Rd.more (h : Rd w S A xs) (hs : ∀ b, S b → S' b) : Rd w S' A xs := fun hn => by
  obtain ⟨ad, e, hb, hc⟩ := h hn
  exact ⟨ad, e, hs _ hb, hc⟩
theorem Rd.below {B : Nat} (h : Rd w (· < B) A xs) (hb : Below B w w') : Rd w' (· < B) A xs := h.keep fun b hl => hb.block b hl
theorem Rd.drop (h : Rd w S A xs) {k : Nat} {c : Prop} [Decidable c] (hc : k < xs.length → ¬ c) : Rd w S (if c then A else A.map (·.add k)) (xs.drop k) := fun hn => by
  obtain ⟨ad, rfl, hb, hcell⟩ := h (by simp at hn; omega)
  rw [if_neg (hc (by simp at hn; omega))]
  refine ⟨ad.add k, rfl, by rw [block_of_add]; exact hb, fun j u hu => ?_⟩
  rw [add_of_add]
  exact hcell _ u (by rw [← hu, List.getElem?_drop])
theorem Rd.take (h : Rd w S A xs) (k : Nat) : Rd w S A (xs.take k) := fun hn => by
  obtain ⟨ad, e, hb, hcell⟩ := h (by simp at hn; omega)
  refine ⟨ad, e, hb, fun j u hu => hcell j u ?_⟩
  rw [List.getElem?_take] at hu
  split at hu
  · exact hu
  · cases hu
end

/-- block g is the cells l, none frozen -/
def Blk (w : World) (g : Nat) (t : TypeId) (l : List Value) : Prop := w.heap[g]? = some (.cells l.toArray t (0, 0))
section
variable {w w' : World} {g : Nat} {t : TypeId} {l : List Value}
theorem Blk.lt (h : Blk w g t l) : g < w.heap.size := by
  rcases Nat.lt_or_ge g w.heap.size with hlt | hge
  · exact hlt
  · unfold Blk at h; rw [Array.getElem?_eq_none hge] at h; cases h
theorem Blk.cell (h : Blk w g t l) (i : Nat) : w.cell? ⟨g, i, none⟩ = l[i]? := by
  have := cell_of_row w g i l.toArray t (0, 0) h
  simpa using this
theorem Blk.frozen (h : Blk w g t l) (i : Nat) : w.frozen? ⟨g, i, none⟩ = false := by
  unfold Blk at h
  simp [World.frozen?, h]
theorem Blk.new (w : World) (t : TypeId) (l : List Value) : Blk (w.alloc (.cells l.toArray t)) w.heap.size t l := heap_alloc_new w _
theorem Blk.alloc (h : Blk w g t l) (o : Obj) : Blk (w.alloc o) g t l := (Below.heap_alloc w o g h.lt).trans h
theorem Blk.set_ (h : Blk w g t l) (i : Nat) (u : Value) : Blk (w.setCell ⟨g, i, none⟩ u) g t (l.set i u) := by
  unfold Blk at h ⊢
  simp [World.setCell, Array.getElem?_modify, h]
theorem Blk.far (h : Blk w g t l) {p : Addr} (hp : g ≠ p.block) (u : Value) : Blk (w.setCell p u) g t l := (Below.heap_setCell w p u g hp).trans h
theorem Blk.below {B : Nat} (h : Blk w g t l) (hb : Below B w w') (hg : g < B) : Blk w' g t l := (hb.block g hg).trans h
theorem Blk.grown {row : Option Nat} (h : Blk w g t l) (hb : w.grownBy w' row) (hg : some g ≠ row) : Blk w' g t l := (hb.block g h.lt hg).trans h
theorem Blk.rd (h : Blk w g t l) {S : Nat → Prop} (hS : S g) (off : Nat) : Rd w S (some ⟨g, off, none⟩) (l.drop off) := fun _ =>
  ⟨_, rfl, hS, fun j u hu => by
    have e : (⟨g, off, none⟩ : Addr).add j = ⟨g, off + j, none⟩ := by
      unfold Addr.add; split
      · subst_vars; rfl
      · rfl
    rw [e, h.cell, ← hu, List.getElem?_drop]⟩
end

theorem only_drew {a w : World} {row : Option Nat} (h : a.grownBy w row) : a.grownBy w.drew row := ⟨h.os, h.tape, h.output, h.size, h.block⟩
theorem only_drewN {a w : World} {row : Option Nat} (h : a.grownBy w row) (n : Nat) : a.grownBy (w.drewN n) row := ⟨h.os, h.tape, h.output, h.size, h.block⟩
theorem only_alloc {a w : World} {row : Option Nat} (h : a.grownBy w row) (o : Obj) : a.grownBy (w.alloc o) row :=
  ⟨h.os, h.tape, h.output, Nat.le_trans h.size (by simp), fun i hi hne => (Below.heap_alloc w o i (Nat.lt_of_lt_of_le hi h.size)).trans (h.block i hi hne)⟩
theorem only_setCell {a w : World} {g : Nat} (h : a.grownBy w (some g)) {p : Addr} (hp : p.block = g ∨ a.heap.size ≤ p.block) (u : Value) : a.grownBy (w.setCell p u) (some g) :=
  ⟨h.os, h.tape, h.output, by simpa [World.setCell] using h.size, fun i hi hne => (Below.heap_setCell w p u i (by
    rintro rfl
    rcases hp with hp | hp
    · exact hne (by rw [hp])
    · omega)).trans (h.block i hi hne)⟩
theorem only_trans {a b c : World} {row : Option Nat} (h : a.grownBy b row) (k : b.grownBy c row) : a.grownBy c row :=
  ⟨k.os.trans h.os, k.tape.trans h.tape, k.output.trans h.output, Nat.le_trans h.size k.size, fun i hi hne => (k.block i (Nat.lt_of_lt_of_le hi h.size) hne).trans (h.block i hi hne)⟩
theorem only_refl (a : World) (row : Option Nat) : a.grownBy a row := ⟨rfl, rfl, rfl, Nat.le_refl _, fun _ _ _ => rfl⟩
theorem below_drewN {B : Nat} {a w : World} (h : Below B a w) (n : Nat) : Below B a (w.drewN n) := ⟨h.os, h.tape, h.output, h.size, h.block⟩
theorem keep_trans {a b c : World} (h1 : Below a.heap.size a b) (h2 : Below b.heap.size b c) : Below a.heap.size a c :=
  h1.trans (h2.mono h1.size)
theorem below_grown {B : Nat} {a w w' : World} {g : Nat} (h : Below B a w) (hg : w.grownBy w' (some g)) (hB : B ≤ w.heap.size) (hr : B ≤ g) : Below B a w' :=
  h.grown hg hB (fun k e => by injection e with e; omega)

theorem ret_b {a b : Bool} (h : a = b) : Ending.returned (.bool b) = .returned (.bool a) := by rw [h]
theorem ret_i {k : IntKind} {a b : Int} (h : a = b) : Ending.returned (.int k a) = .returned (.int k b) := by rw [h]

/-- merged: of the same number what is of the first one stands ahead -/
def mg : List Key → List Key → List Key
  | [], b => b
  | a :: s, [] => a :: s
  | a :: s, b :: t => if b.1 < a.1 then b :: mg (a :: s) t else a :: mg s (b :: t)
termination_by a b => a.length + b.length
theorem mg_nil_l (b : List Key) : mg [] b = b := by unfold mg; rfl
theorem mg_nil_r (a : List Key) : mg a [] = a := by cases a <;> (unfold mg; rfl)
theorem mg_lt {a b : Key} {s t : List Key} (h : b.1 < a.1) : mg (a :: s) (b :: t) = b :: mg (a :: s) t := by rw [mg, if_pos h]
theorem mg_ge {a b : Key} {s t : List Key} (h : ¬ b.1 < a.1) : mg (a :: s) (b :: t) = a :: mg s (b :: t) := by rw [mg, if_neg h]
theorem mg_length (a b : List Key) : (mg a b).length = a.length + b.length := by
  induction a, b using mg.induct with
  | case1 b => rw [mg_nil_l]; simp
  | case2 a s => rw [mg_nil_r]; simp
  | case3 a s b t h ih => rw [mg_lt h]; simp [ih]; omega
  | case4 a s b t h ih => rw [mg_ge h]; simp [ih]; omega
end Go.Proofs.Ytcjpimocbgeheaa.Od
