/- Names and their numbers: what the document's words say of a table as plain functions; a map from names to numbers as it lies; a table as it lies. No conditions. -/
import Derived.Test.YtceamidobdfhbaaInKit
import Derived.Maps.OwnSet
import Derived.Sort.KeysCollected
namespace Go.Proofs.Ytceamidobdfhbaa.It
open Go.ChangeShapes Go.WideShapes Go.ChangeAt Go.RowKit Go.Maps
open Lx Sh
set_option linter.unusedVariables false
set_option linter.unusedSimpArgs false

abbrev Nm := List UInt8
/-- the error of one name more -/
def addE (L : List Nm) (x : Nm) : Nat := if nameB x = false then 7 else if x ∈ L then 6 else if 4096 ≤ L.length then 3 else 0
def addL (L : List Nm) (x : Nm) : List Nm := if addE L x = 0 then L ++ [x] else L
def addN (L : List Nm) (x : Nm) : Nat := if addE L x = 0 then L.length else 0
/-- the first error of many names -/
def newE : List Nm → List Nm → Nat
  | _, [] => 0
  | L, x :: r => if addE L x = 0 then newE (L ++ [x]) r else addE L x
def Good (L : List Nm) : Prop := L.Nodup ∧ (∀ x ∈ L, nameB x = true) ∧ L.length ≤ 4096
theorem good_nil : Good [] := ⟨List.nodup_nil, by simp, by simp⟩
theorem add_cases (L : List Nm) (x : Nm) : (addE L x = 0 ∧ nameB x = true ∧ x ∉ L ∧ L.length < 4096) ∨ (addE L x = 7 ∧ nameB x = false) ∨ (addE L x = 6 ∧ nameB x = true ∧ x ∈ L) ∨ (addE L x = 3 ∧ nameB x = true ∧ x ∉ L ∧ 4096 ≤ L.length) := by
  unfold addE
  by_cases h1 : nameB x = false
  · simp [h1]
  · have h1' : nameB x = true := by simpa using h1
    by_cases h2 : x ∈ L
    · simp [h1', h2]
    · by_cases h3 : 4096 ≤ L.length
      · simp [h1', h2, h3]
      · simp [h1', h2, h3]; omega
theorem Good.add {L : List Nm} (h : Good L) (x : Nm) : Good (addL L x) := by
  unfold addL
  rcases add_cases L x with ⟨h0, h1, h2, h3⟩ | ⟨h0, h1⟩ | ⟨h0, h1, h2⟩ | ⟨h0, h1, h2, h3⟩
  · rw [if_pos h0]
    refine ⟨?_, ?_, ?_⟩
    · rw [List.nodup_append]
      exact ⟨h.1, by simp, by intro a ha b hb; simp at hb; subst hb; rintro rfl; exact h2 ha⟩
    · intro y hy
      rcases List.mem_append.1 hy with hy | hy
      · exact h.2.1 y hy
      · simp at hy; subst hy; exact h1
    · rw [List.length_append, List.length_singleton]; omega
  all_goals rw [if_neg (by omega)]; exact h
theorem maxLen_big : 140737488355328 ≤ maxLen := by unfold maxLen; omega
theorem name_short {x : Nm} (h : nameB x = true) : x.length ≤ 24 := by
  unfold nameB at h
  simp only [Bool.and_eq_true, decide_eq_true_eq] at h
  exact h.1
/-! ### the map -/
theorem lawStr : Keyed Try.prog 9 := string_keyed Try.underlying9
theorem zeroInt (w : World) : (zeroValue 3).run Try.prog w = .ok (.int .i64 0) w := by kernel_rfl
theorem keyStr (s : ByteArray) (hs : s.size ≤ maxLen) : keyOf Try.prog 9 (.string s) = some (.string s.data.toList) := by
  have h : s.data.size ≤ maxLen := hs
  simp [keyOf, Try.underlying9, mapKey, hs]
theorem nat_wf (i : Nat) (hi : i ≤ 1000000) : (Lit.int .i64 (i : Int)).wf = true := WalkArith.wf_i64 (n := (i : Int)) (by omega)
theorem lit_inj {H : Type} {a b : Int} (h : (DataW.lit (.int .i64 a) : DataW H) = .lit (.int .i64 b)) : a = b := by
  injection h with h
  injection h with _ h
/-- block b is a map from the names of L to their places -/
def MapAt (w : World) (b : Nat) (L : List Nm) : Prop := ∃ D : DataW Unit, w.ownsMap Try.prog 9 (plainElem Try.prog 3) b L.length D ∧ (∀ x, has D (.string x) = decide (x ∈ L)) ∧ ∀ (i : Nat) x, L[i]? = some x → ∀ z, D.atKey (.string x) z = .lit (.int .i64 (i : Int))
theorem MapAt.look_out {w : World} {b : Nat} {L : List Nm} (h : MapAt w b L) (s : ByteArray) (hs : s.size ≤ maxLen) (hx : s.data.toList ∉ L) : (Instr.lookup 53 (.map (some b)) (.string s) true).run Try.prog w = .ok (.tuple #[.int .i64 0, .bool false]) w := by
  obtain ⟨D, hown, hD, _⟩ := h
  obtain ⟨v, ps, hrun, hv⟩ := hown.look_ok lawStr Try.underlying53 (zeroInt _) (plainElem_int Try.underlying3 (a := 0) (by decide)) (keyStr s hs)
  have hh : has D (.string s.data.toList) = false := by rw [hD]; exact decide_eq_false hx
  rw [atKey_of_not_has hh] at hv
  obtain ⟨c, rfl, hc, hwc⟩ := plainElem_int_inv Try.underlying3 hv
  have e := lit_inj (congrArg Prod.fst hc)
  rw [hrun, hh, ← e]
theorem MapAt.look_in {w : World} {b : Nat} {L : List Nm} (h : MapAt w b L) (s : ByteArray) (hs : s.size ≤ maxLen) (i : Nat) (hx : L[i]? = some s.data.toList) : (Instr.lookup 53 (.map (some b)) (.string s) true).run Try.prog w = .ok (.tuple #[.int .i64 (i : Int), .bool true]) w := by
  obtain ⟨D, hown, hD, hat⟩ := h
  obtain ⟨v, ps, hrun, hv⟩ := hown.look_ok lawStr Try.underlying53 (zeroInt _) (plainElem_int Try.underlying3 (a := 0) (by decide)) (keyStr s hs)
  have hh : has D (.string s.data.toList) = true := by rw [hD]; exact decide_eq_true (List.mem_of_getElem? hx)
  rw [hat i _ hx] at hv
  obtain ⟨c, rfl, hc, hwc⟩ := plainElem_int_inv Try.underlying3 hv
  have e := lit_inj (congrArg Prod.fst hc)
  rw [hrun, hh, ← e]
theorem MapAt.store {w : World} {b : Nat} {L : List Nm} (h : MapAt w b L) (hn : L.length ≤ 4096) (s : ByteArray) (hs : s.size ≤ maxLen) (hx : s.data.toList ∉ L) : ∃ w', (Instr.mapUpdate 53 (.map (some b)) (.string s) (.int .i64 (L.length : Int))).run Try.prog w = .ok () w' ∧ MapAt w' b (L ++ [s.data.toList]) ∧ w.grownBy w' (some b) := by
  obtain ⟨D, hown, hD, hat⟩ := h
  obtain ⟨w', hrun, hown', hg⟩ := hown.update lawStr Try.underlying53 (by have := maxLen_big; omega) (keyStr s hs) (plainElem_int Try.underlying3 (a := (L.length : Int)) (nat_wf _ (by omega)))
  have hm : IsMap D := by obtain ⟨es, _, _, _, _, rfl⟩ := hown; exact ⟨_, rfl⟩
  have hkl : WideAt.IsKeyLit (.string s.data.toList) := trivial
  refine ⟨w', hrun, ⟨_, by rw [List.length_append, List.length_singleton]; exact hown', fun x => ?_, fun i x hi z => ?_⟩, hg⟩
  · by_cases e : x = s.data.toList
    · subst e
      rw [has_put_same hm hkl]
      simp
    · rw [has_put_other (by intro h; injection h with h; exact e h), hD x]
      simp [e]
  · rw [List.getElem?_append] at hi
    split at hi
    · have hxl : x ∈ L := List.mem_of_getElem? hi
      rw [atKey_put_other (by intro h; injection h with h; subst h; exact hx hxl)]
      exact hat i x hi z
    · rename_i hlt
      have hz : i - L.length = 0 := by
        rcases Nat.eq_zero_or_pos (i - L.length) with h0 | h0
        · exact h0
        · rw [List.getElem?_eq_none (by simp; omega)] at hi; cases hi
      rw [hz] at hi
      simp at hi
      subst hi
      rw [atKey_put_same hm hkl]
      have : i = L.length := by omega
      rw [this]
theorem MapAt.is {w : World} {b : Nat} {L : List Nm} (h : MapAt w b L) : ∃ es c, w.heap[b]? = some (.map es c) := by
  obtain ⟨D, ⟨es, c, hb, _⟩, _⟩ := h
  exact ⟨es, c, hb⟩
theorem MapAt.keep {w w' : World} {b : Nat} {L : List Nm} (h : MapAt w b L) (hk : w'.heap[b]? = w.heap[b]?) : MapAt w' b L := by
  obtain ⟨D, ⟨es, c, hb, h1, h2, h3⟩, hD⟩ := h
  exact ⟨D, ⟨es, c, hk.trans hb, h1, h2, h3⟩, hD⟩
theorem MapAt.lt {w : World} {b : Nat} {L : List Nm} (h : MapAt w b L) : b < w.heap.size := by
  obtain ⟨es, c, hb⟩ := h.is
  exact (Array.getElem?_eq_some_iff.1 hb).1
theorem MapAt.made (w : World) : MapAt (w.alloc (.map #[] 0)) w.heap.size [] := ⟨_, World.ownsMap_made _ _ _ _, fun x => rfl, fun i x h => by simp at h⟩
theorem MapAt.ne_blk {w : World} {b g : Nat} {t : TypeId} {l : List Value} {L : List Nm} (h : MapAt w b L) (hg : Blk w g t l) : b ≠ g := by
  rintro rfl
  obtain ⟨es, c, hb⟩ := h.is
  unfold Blk at hg; rw [hb] at hg; cases hg
theorem MapAt.ne_own {w : World} {b base e size n : Nat} {v : Value} {xs : List Value} {L : List Nm} (h : MapAt w b L) (ho : w.ownsRow base e size v n xs) : v.ownBlock ≠ some b := by
  intro hk
  obtain ⟨es, c, hb⟩ := h.is
  rcases ho.2 with ⟨rfl, _⟩ | ⟨g, cap, cur, rfl, _, hg, _⟩
  · cases hk
  · simp [Value.ownBlock] at hk
    subst hk
    rw [hb] at hg; cases hg
/-! ### the table -/
/-- the cells of a table in block T: its map m, its row v, itself -/
def tabC (m : Nat) (v : Value) (T : Nat) : List Value := [.map (some m), v, .pointer (some ⟨T, 0, none⟩)]
/-- a table of the names L: in block T, its map in block m, its row v, all of it in blocks of X -/
structure Tab (w : World) (X : Nat → Prop) (T m : Nat) (v : Value) (L : List Nm) : Prop where
  xT : X T
  xm : X m
  xv : ∀ k, v.ownBlock = some k → X k
  lt : ∀ k, X k → k < w.heap.size
  blk : Blk w T 57 (tabC m v T)
  map : MapAt w m L
  row : w.ownsRow 0 9 1 v L.length (cs strC L)
  good : Good L
def TabAt (w : World) (X : Nat → Prop) (T : Nat) (L : List Nm) : Prop := ∃ m v, Tab w X T m v L
section
variable {X Y : Nat → Prop} {w w' : World} {T m : Nat} {v : Value} {L : List Nm}
theorem Tab.keep (h : Tab w X T m v L) (hk : ∀ k, X k → w'.heap[k]? = w.heap[k]?) (hs : w.heap.size ≤ w'.heap.size) : Tab w' X T m v L := by
  refine ⟨h.xT, h.xm, h.xv, fun k hx => Nat.lt_of_lt_of_le (h.lt k hx) hs, (hk _ h.xT).trans h.blk, h.map.keep (hk _ h.xm), ⟨h.row.1, ?_⟩, h.good⟩
  rcases h.row.2 with hn | ⟨g, cap, cur, rfl, hb, hg, rest⟩
  · exact .inl hn
  · exact .inr ⟨g, cap, cur, rfl, hb, (hk g (h.xv g rfl)).trans hg, rest⟩
theorem TabAt.keep (h : TabAt w X T L) (hk : ∀ k, X k → w'.heap[k]? = w.heap[k]?) (hs : w.heap.size ≤ w'.heap.size) : TabAt w' X T L := by
  obtain ⟨m, v, h⟩ := h; exact ⟨m, v, h.keep hk hs⟩
theorem TabAt.after (h : TabAt w X T L) (hb : Below w.heap.size w w') : TabAt w' X T L := by
  obtain ⟨m, v, h'⟩ := h; exact ⟨m, v, h'.keep (fun k hx => hb.block k (h'.lt k hx)) hb.size⟩
/-- another thing was changed -/
theorem TabAt.far (h : TabAt w X T L) (hc : Ch Y w w') (hd : ∀ k, X k → ¬ Y k) : TabAt w' X T L := by
  obtain ⟨m, v, h'⟩ := h; exact ⟨m, v, h'.keep (fun k hx => hc.block k (h'.lt k hx) (hd k hx)) hc.size⟩
theorem TabAt.lt (h : TabAt w X T L) : ∀ k, X k → k < w.heap.size := by obtain ⟨m, v, h⟩ := h; exact h.lt
theorem TabAt.good (h : TabAt w X T L) : Good L := by obtain ⟨m, v, h⟩ := h; exact h.good
end
/-- X, and what was made since -/
def Grow (X : Nat → Prop) (w w' : World) (k : Nat) : Prop := X k ∨ (w.heap.size ≤ k ∧ k < w'.heap.size)
end Go.Proofs.Ytceamidobdfhbaa.It
