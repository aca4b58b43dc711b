/- Names and their numbers: what the document's words say of a table as plain functions; a map from names to numbers as it lies; a table as it lies. No conditions. · Package intern's calls: what each answers of a table as it lies, and what it changes; proved by walking their texts, and by the library's contracts. Conditions: the table lies as TabAt says; a name has at most as many bytes as a string can have. · Package intern's calls: what each answers of a table as it lies, and what it changes; proved by walking their texts, and by the library's contracts. Conditions: the table lies as TabAt says; a name has at most as many bytes as a string can have. · Package intern's calls: what each answers of a table as it lies, and what it changes; proved by walking their texts, and by the library's contracts. Conditions: the table lies as TabAt says; a name has at most as many bytes as a string can have. · Package intern's calls: what each answers of a table as it lies, and what it changes; proved by walking their texts, and by the library's contracts. Conditions: the table lies as TabAt says; a name has at most as many bytes as a string can have. -/
import Derived.Test.YtfefnfifeaihhaaGreatBaF
import Derived.Test.YtfefnfifeaihhaaGreatShelf
import Derived.Maps.OwnSet
import Derived.Sort.KeysCollected
import Derived.Shelf.SortM.Plain
import Derived.Shelf.SortM.SortNone
set_option linter.unusedVariables false
set_option linter.unusedSimpArgs false
set_option maxHeartbeats 1000000
set_option maxRecDepth 100000
namespace Go.Proofs.YtfefnfifeaihhaaGreat.It
open Go.ChangeShapes Go.WideShapes Go.ChangeAt Go.RowKit Go.Maps
open Lx Sh
abbrev Nm := List UInt8
/-- the error of one name more -/
def addE (L : List Nm) (x : Nm) : Nat := if nameB x = false then 7 else if x ∈ L then 6 else if 4096 ≤ L.length then 3 else 0
def addL (L : List Nm) (x : Nm) : List Nm := if addE L x = 0 then L ++ [x] else L
def addN (L : List Nm) (x : Nm) : Nat := if addE L x = 0 then L.length else 0
/-- the first error of many names -/
def newE : List Nm → List Nm → Nat
  | _, [] => 0
  | L, x :: r => if addE L x = 0 then newE (L ++ [x]) r else addE L x
def Good (L : List Nm) : Prop := L.Nodup ∧ (∀ x ∈ L, nameB x = true) ∧ L.length ≤ 4096
theorem good_nil : Good [] := ⟨List.nodup_nil, by simp, by simp⟩
theorem add_cases (L : List Nm) (x : Nm) : (addE L x = 0 ∧ nameB x = true ∧ x ∉ L ∧ L.length < 4096) ∨ (addE L x = 7 ∧ nameB x = false) ∨ (addE L x = 6 ∧ nameB x = true ∧ x ∈ L) ∨ (addE L x = 3 ∧ nameB x = true ∧ x ∉ L ∧ 4096 ≤ L.length) := by
  unfold addE
  by_cases h1 : nameB x = false
  · simp [h1]
  · have h1' : nameB x = true := by simpa using h1
    by_cases h2 : x ∈ L
    · simp [h1', h2]
    · by_cases h3 : 4096 ≤ L.length
      · simp [h1', h2, h3]
      · simp [h1', h2, h3]; omega
theorem Good.add {L : List Nm} (h : Good L) (x : Nm) : Good (addL L x) := by
  unfold addL
  rcases add_cases L x with ⟨h0, h1, h2, h3⟩ | ⟨h0, h1⟩ | ⟨h0, h1, h2⟩ | ⟨h0, h1, h2, h3⟩
  · rw [if_pos h0]
    refine ⟨?_, ?_, ?_⟩
    · rw [List.nodup_append]
      exact ⟨h.1, by simp, by intro a ha b hb; simp at hb; subst hb; rintro rfl; exact h2 ha⟩
    · intro y hy
      rcases List.mem_append.1 hy with hy | hy
      · exact h.2.1 y hy
      · simp at hy; subst hy; exact h1
    · rw [List.length_append, List.length_singleton]; omega
  all_goals rw [if_neg (by omega)]; exact h
theorem maxLen_big : 140737488355328 ≤ maxLen := by unfold maxLen; omega
theorem name_short {x : Nm} (h : nameB x = true) : x.length ≤ 24 := by
  unfold nameB at h
  simp only [Bool.and_eq_true, decide_eq_true_eq] at h
  exact h.1
/-! ### the map -/
theorem lawStr : Keyed Tryz.prog 9 := string_keyed Tryz.underlying9
theorem zeroInt (w : World) : (zeroValue 3).run Tryz.prog w = .ok (.int .i64 0) w := by kernel_rfl
theorem keyStr (s : ByteArray) (hs : s.size ≤ maxLen) : keyOf Tryz.prog 9 (.string s) = some (.string s.data.toList) := by
  have h : s.data.size ≤ maxLen := hs
  simp [keyOf, Tryz.underlying9, mapKey, hs]
theorem nat_wf (i : Nat) (hi : i ≤ 1000000) : (Lit.int .i64 (i : Int)).wf = true := WalkArith.wf_i64 (n := (i : Int)) (by omega)
theorem lit_inj {H : Type} {a b : Int} (h : (DataW.lit (.int .i64 a) : DataW H) = .lit (.int .i64 b)) : a = b := by
  injection h with h
  injection h with _ h
/-- block b is a map from the names of L to their places -/
def MapAt (w : World) (b : Nat) (L : List Nm) : Prop := ∃ D : DataW Unit, w.ownsMap Tryz.prog 9 (plainElem Tryz.prog 3) b L.length D ∧ (∀ x, has D (.string x) = decide (x ∈ L)) ∧ ∀ (i : Nat) x, L[i]? = some x → ∀ z, D.atKey (.string x) z = .lit (.int .i64 (i : Int))
theorem MapAt.look_out {w : World} {b : Nat} {L : List Nm} (h : MapAt w b L) (s : ByteArray) (hs : s.size ≤ maxLen) (hx : s.data.toList ∉ L) : (Instr.lookup 194 (.map (some b)) (.string s) true).run Tryz.prog w = .ok (.tuple #[.int .i64 0, .bool false]) w := by
  obtain ⟨D, hown, hD, _⟩ := h
  obtain ⟨v, ps, hrun, hv⟩ := hown.look_ok lawStr Tryz.underlying194 (zeroInt _) (plainElem_int Tryz.underlying3 (a := 0) (by decide)) (keyStr s hs)
  have hh : has D (.string s.data.toList) = false := by rw [hD]; exact decide_eq_false hx
  rw [atKey_of_not_has hh] at hv
  obtain ⟨c, rfl, hc, hwc⟩ := plainElem_int_inv Tryz.underlying3 hv
  have e := lit_inj (congrArg Prod.fst hc)
  rw [hrun, hh, ← e]
theorem MapAt.look_in {w : World} {b : Nat} {L : List Nm} (h : MapAt w b L) (s : ByteArray) (hs : s.size ≤ maxLen) (i : Nat) (hx : L[i]? = some s.data.toList) : (Instr.lookup 194 (.map (some b)) (.string s) true).run Tryz.prog w = .ok (.tuple #[.int .i64 (i : Int), .bool true]) w := by
  obtain ⟨D, hown, hD, hat⟩ := h
  obtain ⟨v, ps, hrun, hv⟩ := hown.look_ok lawStr Tryz.underlying194 (zeroInt _) (plainElem_int Tryz.underlying3 (a := 0) (by decide)) (keyStr s hs)
  have hh : has D (.string s.data.toList) = true := by rw [hD]; exact decide_eq_true (List.mem_of_getElem? hx)
  rw [hat i _ hx] at hv
  obtain ⟨c, rfl, hc, hwc⟩ := plainElem_int_inv Tryz.underlying3 hv
  have e := lit_inj (congrArg Prod.fst hc)
  rw [hrun, hh, ← e]
theorem MapAt.store {w : World} {b : Nat} {L : List Nm} (h : MapAt w b L) (hn : L.length ≤ 4096) (s : ByteArray) (hs : s.size ≤ maxLen) (hx : s.data.toList ∉ L) : ∃ w', (Instr.mapUpdate 194 (.map (some b)) (.string s) (.int .i64 (L.length : Int))).run Tryz.prog w = .ok () w' ∧ MapAt w' b (L ++ [s.data.toList]) ∧ w.grownBy w' (some b) := by
  obtain ⟨D, hown, hD, hat⟩ := h
  obtain ⟨w', hrun, hown', hg⟩ := hown.update lawStr Tryz.underlying194 (by have := maxLen_big; omega) (keyStr s hs) (plainElem_int Tryz.underlying3 (a := (L.length : Int)) (nat_wf _ (by omega)))
  have hm : IsMap D := by obtain ⟨es, _, _, _, _, rfl⟩ := hown; exact ⟨_, rfl⟩
  have hkl : WideAt.IsKeyLit (.string s.data.toList) := trivial
  refine ⟨w', hrun, ⟨_, by rw [List.length_append, List.length_singleton]; exact hown', fun x => ?_, fun i x hi z => ?_⟩, hg⟩
  · by_cases e : x = s.data.toList
    · subst e
      rw [has_put_same hm hkl]
      simp
    · rw [has_put_other (by intro h; injection h with h; exact e h), hD x]
      simp [e]
  · rw [List.getElem?_append] at hi
    split at hi
    · have hxl : x ∈ L := List.mem_of_getElem? hi
      rw [atKey_put_other (by intro h; injection h with h; subst h; exact hx hxl)]
      exact hat i x hi z
    · rename_i hlt
      have hz : i - L.length = 0 := by
        rcases Nat.eq_zero_or_pos (i - L.length) with h0 | h0
        · exact h0
        · rw [List.getElem?_eq_none (by simp; omega)] at hi; cases hi
      rw [hz] at hi
      simp at hi
      subst hi
      rw [atKey_put_same hm hkl]
      have : i = L.length := by omega
      rw [this]
theorem MapAt.is {w : World} {b : Nat} {L : List Nm} (h : MapAt w b L) : ∃ es c, w.heap[b]? = some (.map es c) := by
  obtain ⟨D, ⟨es, c, hb, _⟩, _⟩ := h
  exact ⟨es, c, hb⟩
theorem MapAt.keep {w w' : World} {b : Nat} {L : List Nm} (h : MapAt w b L) (hk : w'.heap[b]? = w.heap[b]?) : MapAt w' b L := by
  obtain ⟨D, ⟨es, c, hb, h1, h2, h3⟩, hD⟩ := h
  exact ⟨D, ⟨es, c, hk.trans hb, h1, h2, h3⟩, hD⟩
theorem MapAt.lt {w : World} {b : Nat} {L : List Nm} (h : MapAt w b L) : b < w.heap.size := by
  obtain ⟨es, c, hb⟩ := h.is
  exact (Array.getElem?_eq_some_iff.1 hb).1
theorem MapAt.made (w : World) : MapAt (w.alloc (.map #[] 0)) w.heap.size [] := ⟨_, World.ownsMap_made _ _ _ _, fun x => rfl, fun i x h => by simp at h⟩
theorem MapAt.ne_blk {w : World} {b g : Nat} {t : TypeId} {l : List Value} {L : List Nm} (h : MapAt w b L) (hg : Blk w g t l) : b ≠ g := by
  rintro rfl
  obtain ⟨es, c, hb⟩ := h.is
  unfold Blk at hg; rw [hb] at hg; cases hg
theorem MapAt.ne_own {w : World} {b base e size n : Nat} {v : Value} {xs : List Value} {L : List Nm} (h : MapAt w b L) (ho : w.ownsRow base e size v n xs) : v.ownBlock ≠ some b := by
  intro hk
  obtain ⟨es, c, hb⟩ := h.is
  rcases ho.2 with ⟨rfl, _⟩ | ⟨g, cap, cur, rfl, _, hg, _⟩
  · cases hk
  · simp [Value.ownBlock] at hk
    subst hk
    rw [hb] at hg; cases hg
/-! ### the table -/
/-- the cells of a table in block T: its map m, its row v, itself -/
def tabC (m : Nat) (v : Value) (T : Nat) : List Value := [.map (some m), v, .pointer (some ⟨T, 0, none⟩)]
/-- a table of the names L: in block T, its map in block m, its row v, all of it in blocks of X -/
structure Tab (w : World) (X : Nat → Prop) (T m : Nat) (v : Value) (L : List Nm) : Prop where
  xT : X T
  xm : X m
  xv : ∀ k, v.ownBlock = some k → X k
  lt : ∀ k, X k → k < w.heap.size
  blk : Blk w T 228 (tabC m v T)
  map : MapAt w m L
  row : w.ownsRow 0 9 1 v L.length (cs strC L)
  good : Good L
def TabAt (w : World) (X : Nat → Prop) (T : Nat) (L : List Nm) : Prop := ∃ m v, Tab w X T m v L
section
variable {X Y : Nat → Prop} {w w' : World} {T m : Nat} {v : Value} {L : List Nm}
theorem Tab.keep (h : Tab w X T m v L) (hk : ∀ k, X k → w'.heap[k]? = w.heap[k]?) (hs : w.heap.size ≤ w'.heap.size) : Tab w' X T m v L := by
  refine ⟨h.xT, h.xm, h.xv, fun k hx => Nat.lt_of_lt_of_le (h.lt k hx) hs, (hk _ h.xT).trans h.blk, h.map.keep (hk _ h.xm), ⟨h.row.1, ?_⟩, h.good⟩
  rcases h.row.2 with hn | ⟨g, cap, cur, rfl, hb, hg, rest⟩
  · exact .inl hn
  · exact .inr ⟨g, cap, cur, rfl, hb, (hk g (h.xv g rfl)).trans hg, rest⟩
theorem TabAt.after (h : TabAt w X T L) (hb : Below w.heap.size w w') : TabAt w' X T L := by
  obtain ⟨m, v, h'⟩ := h; exact ⟨m, v, h'.keep (fun k hx => hb.block k (h'.lt k hx)) hb.size⟩
/-- another thing was changed -/
theorem TabAt.far (h : TabAt w X T L) (hc : Ch Y w w') (hd : ∀ k, X k → ¬ Y k) : TabAt w' X T L := by
  obtain ⟨m, v, h'⟩ := h; exact ⟨m, v, h'.keep (fun k hx => hc.block k (h'.lt k hx) (hd k hx)) hc.size⟩
theorem TabAt.lt (h : TabAt w X T L) : ∀ k, X k → k < w.heap.size := by obtain ⟨m, v, h⟩ := h; exact h.lt
theorem TabAt.good (h : TabAt w X T L) : Good L := by obtain ⟨m, v, h⟩ := h; exact h.good
end
/-- X, and what was made since -/
def Grow (X : Nat → Prop) (w w' : World) (k : Nat) : Prop := X k ∨ (w.heap.size ≤ k ∧ k < w'.heap.size)
end Go.Proofs.YtfefnfifeaihhaaGreat.It
namespace Go.Proofs.YtfefnfifeaihhaaGreat.It
open Go.ChangeShapes Go.WideShapes Go.ChangeAt Go.RowKit Go.Maps
open Lx Sh
theorem eq_self (a : Addr) (w : World) : (binOp .eql 171 (.pointer (some a)) (.pointer (some a))).run Tryz.prog w = .ok (.bool true) w := by
  obtain ⟨j, hj⟩ := Option.isSome_iff_exists.1 (show (Tryz.prog.info? 228).isSome = true by kernel_rfl)
  exact run_eql_ptr_same w a Tryz.underlying171 hj
theorem table_any (m : Nat) (A : Option Addr) (n c : Nat) (w : World) :
    Calls Tryz.prog 140 #[.agg #[.map (some m), .slice A n c]] w fun e w' => e = .returned (.pointer (some ⟨w.heap.size + 1, 0, none⟩)) ∧ Hid (Blk w' (w.heap.size + 1) 228 (tabC m (.slice A n c) (w.heap.size + 1))) ∧ Below w.heap.size w w' ∧ w'.heap.size = w.heap.size + 2 := by
  go_enter Tryz.func140, Tryz.ntmps140
  go_wp2
  go_ret
  refine ⟨rfl, HH ?_, two_box _ _ _, by simp⟩
  have := Blk.new (w.alloc (.cells #[.map (some m), .slice A n c] 196)) 228 (tabC m (.slice A n c) (w.heap.size + 1))
  rwa [World.size_alloc] at this
theorem made_any {w : World} {X : Nat → Prop} {T : Nat} {L : List Nm} (h : TabAt w X T L) :
    Calls Tryz.prog 178 #[.pointer (some ⟨T, 0, none⟩)] w fun e w' => e = .returned (.bool true) ∧ w = w' := by
  obtain ⟨m, v, h⟩ := h
  have c2 : w.cell? ⟨T, 2, none⟩ = some (.pointer (some ⟨T, 0, none⟩)) := h.blk.cell 2
  have heq := eq_self ⟨T, 0, none⟩
  clear h
  go_enter Tryz.func178, Tryz.ntmps178
  go_wp2
  go_ret
  exact ⟨rfl, rfl⟩
/-- a name is laid into the map -/
theorem wpList_put {w : World} {ops : Array Oper} {rest : List Oper} {o : Oper} {a : Act} {Q : Exit → Act → World → Prop} (hg : o.guard = none) (m x v : Operand) (hop : o.op = Op.mapUpdate 194 m x v)
    (b : Nat) (L : List Nm) (h : Hid (MapAt w b L)) (hn : L.length ≤ 4096) (s : ByteArray) (hs : s.size ≤ maxLen) (hx : s.data.toList ∉ L) (em : a.eval m = .map (some b)) (ex : a.eval x = .string s) (ev : a.eval v = .int .i64 (L.length : Int))
    (hK : ∀ w', Hid (MapAt w' b (L ++ [s.data.toList])) → Hid (w.grownBy w' (some b)) → wpList Tryz.prog ops Q rest (a.put o.dst undef) w') : wpList Tryz.prog ops Q (o :: rest) a w := by
  refine wpList_plain hg fun K' hK' => ?_
  obtain ⟨w', hrun, r1, r2⟩ := h.out.store hn s hs hx
  unfold Oper.wp
  simp [execOp, hop, em, ex, ev, hrun, Result.andThen]
  exact hK' _ _ (hK w' (HH r1) (HH r2))
theorem clone_str (s : ByteArray) (w : World) (hs : s.size ≤ 65536) : Calls Tryz.prog 194 #[.string s] w fun e w' => e = .returned (.string s) ∧ Below w.heap.size w w' := by
  go_enter Tryz.func194, Tryz.ntmps194
  go_wp2_with (go_at_call 200; refine (Tryz.stringslite_Clone s _ (by omega)).mono ?_; rintro e w1 ⟨rfl, hb⟩)
  go_ret
  exact ⟨rfl, hb⟩
theorem put_fin {w w1 w2 w3 : World} {o : Obj} {X : Nat → Prop} {T m : Nat} {v v3 : Value} {L : List Nm} {x : Nm} (h : Tab w X T m v L) (b1 : Below w.heap.size w w1) (c2 : Ch (· = m) w1 w2) (m2 : MapAt w2 m (L ++ [x])) (k3 : Blk w3 T 228 (tabC m v T))
    (r3 : w3.ownsRow 0 9 1 v3 (L.length + 1) (cs strC L ++ strC x)) (g3 : (w2.alloc o).grownBy w3 v.ownBlock) (e3 : v3.ownBlock = v.ownBlock ∨ v3.ownBlock = some (w2.alloc o).heap.size) (hg : Good (L ++ [x])) :
    TabAt (w3.setCell ⟨T, 1, none⟩ v3) (Grow X w (w3.setCell ⟨T, 1, none⟩ v3)) T (L ++ [x]) ∧ Ch X w (w3.setCell ⟨T, 1, none⟩ v3) := by
  have s4 : (w3.setCell ⟨T, 1, none⟩ v3).heap.size = w3.heap.size := by simp [World.setCell]
  have hs1 := b1.size
  have hs2 := c2.size
  have hs3 := g3.size
  rw [World.size_alloc] at hs3
  have hc1 : Ch X w w1 := .of_below b1
  have hc2 : Ch X w w2 := hc1.trans' c2 (fun i _ e => by have e' : i = m := e; subst e'; exact h.xm)
  have hc3 : Ch X w w3 := (hc2.alloc o).trans' (.of_grown g3 (X := fun k => v.ownBlock = some k) (fun k e => e.symm)) (fun i _ e => h.xv i e)
  have hc4 := hc3.setCell (p := ⟨T, 1, none⟩) (.inl h.xT) v3
  have hmT : m ≠ T := h.map.ne_blk h.blk
  have hmv : v.ownBlock ≠ some m := h.map.ne_own h.row
  have hm3 : MapAt w3 m (L ++ [x]) := m2.keep ((g3.block m (by rw [World.size_alloc]; have := m2.lt; omega) (fun e => hmv e.symm)).trans (Below.heap_alloc _ _ _ m2.lt))
  have hm4 : MapAt (w3.setCell ⟨T, 1, none⟩ v3) m (L ++ [x]) := hm3.keep (Below.heap_setCell _ _ _ _ hmT)
  have hr4 : (w3.setCell ⟨T, 1, none⟩ v3).ownsRow 0 9 1 v3 (L.length + 1) (cs strC L ++ strC x) := (ch_set w3 T 1 v3).own r3 (fun k hk e => own_ne_blk r3 k3 (by decide) k hk e)
  refine ⟨⟨m, v3, .inl h.xT, .inl h.xm, fun k hk => ?_, fun k hk => ?_, k3.set_ 1 v3, hm4, ?_, hg⟩, hc4⟩
  · rcases e3 with e | e
    · exact .inl (h.xv k (by rw [← e]; exact hk))
    · have hlt := (hr4.lt k hk).2
      rw [e, World.size_alloc] at hk
      injection hk with hk
      exact .inr ⟨by omega, hlt⟩
  · rcases hk with hk | hk
    · have := h.lt k hk; omega
    · exact hk.2
  · rw [List.length_append, List.length_singleton]
    have e : cs strC (L ++ [x]) = cs strC L ++ strC x := by simp [cs]
    rw [e]; exact hr4
theorem put_any {w : World} {X : Nat → Prop} {T m : Nat} {v : Value} {L : List Nm} (h : Tab w X T m v L) (x : Nm) (hx : addE L x = 0) :
    Calls Tryz.prog 180 #[.pointer (some ⟨T, 0, none⟩), .string ⟨x.toArray⟩] w fun e w' => e = .returned (.int .i64 (L.length : Int)) ∧ TabAt w' (Grow X w w') T (L ++ [x]) ∧ Ch X w w' := by
  obtain ⟨B, d, rfl, hnd, hrd⟩ := own_form h.row
  have HG := h.good
  have hxs : nameB x = true ∧ x ∉ L ∧ L.length < 4096 := by
    rcases add_cases L x with ⟨_, h1, h2, h3⟩ | ⟨h0, _⟩ | ⟨h0, _⟩ | ⟨h0, _⟩ <;> first | exact ⟨h1, h2, h3⟩ | omega
  have H := HH h
  have hsz : (⟨x.toArray⟩ : ByteArray).size ≤ 24 := by rw [Lib.size_eq]; exact name_short hxs.1
  have HX := HH hxs
  have hlen : L.length ≤ 4096 := HG.2.2
  have HGx : Good (L ++ [x]) := by
    have := HG.add x
    unfold addL at this
    rwa [if_pos hx] at this
  clear h hnd hrd HG hxs
  go_enter Tryz.func180, Tryz.ntmps180
  go_wp2_with (first
    | (go_at_call 194; refine (clone_str _ _ (by omega)).mono ?_; rintro e w1 ⟨rfl, hb1⟩
       have B1 := HH hb1
       have c0 : w1.cell? ⟨T, 0, none⟩ = some (.map (some m)) := (H.out.blk.after B1.out).cell 0
       have c1 : w1.cell? ⟨T, 1, none⟩ = some (.slice B L.length d) := (H.out.blk.after B1.out).cell 1
       clear hb1)
    | (at_mapUpdate; refine wpList_put rfl _ _ _ rfl m L (HH (H.out.map.keep (B1.out.block _ H.out.map.lt))) hlen ⟨x.toArray⟩ (by have := maxLen_big; omega) HX.out.2.1 rfl rfl rfl ?_; intro w2 hm2 hg2
       have C2 : Hid (Ch (· = m) w1 w2) := HH (Ch.of_grown hg2.out (fun k e => by injection e))
       have K2 : Hid (Blk w2 T 228 (tabC m (.slice B L.length d) T)) := HH (C2.out.blk (H.out.blk.after B1.out) (fun e => H.out.map.ne_blk H.out.blk e.symm))
       have R2 : Hid (w2.ownsRow 0 9 1 (.slice B L.length d) L.length (cs strC L)) := HH (C2.out.own (own_after H.out.row B1.out) (fun k hk e => H.out.map.ne_own H.out.row (by rw [hk, e])))
       have c1 : w2.cell? ⟨T, 1, none⟩ = some (.slice B L.length d) := K2.out.cell 1
       clear hg2)
    | (at_builtin; refine wpList_append_ch rfl (.tmp 23) (.tmp 25) 28 rfl 0 9 _ 1 16 Tryz.underlying28 info_Str rfl (by omega) (by omega) (.slice B L.length d) L.length (cs strC L) rfl (R2.out.alloc _) (fun _ => True) (some ⟨w2.heap.size, 0, none⟩) 1 1 (strC x) rfl rfl ((lit_at w2 _ _ _ (strC x) rfl rfl).more (fun _ _ => trivial)) (str_one x) (by omega) (Nat.zero_le _) ?_; intro v3 w3 hown3 hg3 hv3
       have K3 : Hid (Blk w3 T 228 (tabC m (.slice B L.length d) T)) := HH ((K2.out.alloc _).grown hg3.out (fun e => own_ne_blk R2.out K2.out (by decide) T e.symm rfl))
       obtain ⟨B3, d3, e3, hn3, hr3⟩ := own_form hown3.out
       subst e3
       have f3 : w3.frozen? ⟨T, 1, none⟩ = false := K3.out.frozen 1
       have c3 : w3.cell? ⟨T, 1, none⟩ = some (.slice B L.length d) := K3.out.cell 1
       clear hr3 hn3))
  go_ret
  exact ⟨rfl, put_fin H.out B1.out C2.out hm2.out K3.out hown3.out hg3.out hv3.out HGx⟩
theorem TabAt.more {w : World} {X Y : Nat → Prop} {T : Nat} {L : List Nm} (h : TabAt w X T L) (hy : ∀ k, X k → Y k) (hlt : ∀ k, Y k → k < w.heap.size) : TabAt w Y T L := by
  obtain ⟨m, v, h⟩ := h
  exact ⟨m, v, hy _ h.xT, hy _ h.xm, fun k hk => hy _ (h.xv k hk), hlt, h.blk, h.map, h.row, h.good⟩
theorem grow_lt {w w' : World} {X : Nat → Prop} (hx : ∀ k, X k → k < w.heap.size) (hs : w.heap.size ≤ w'.heap.size) : ∀ k, Grow X w w' k → k < w'.heap.size := by
  intro k hk
  rcases hk with hk | hk
  · have := hx k hk; omega
  · exact hk.2
/-- what Add leaves -/
def AddPost (w : World) (X : Nat → Prop) (T : Nat) (L : List Nm) (x : Nm) (e : Ending) (w' : World) : Prop :=
  e = .returned (.tuple #[.int .i64 (addN L x : Nat), .int .i64 (addE L x : Nat)]) ∧ Hid (TabAt w' (Grow X w w') T (addL L x)) ∧ Hid (Ch X w w')
theorem add_same {w w1 : World} {X : Nat → Prop} {T : Nat} {L : List Nm} {x : Nm} (h : TabAt w X T L) (hE : addE L x ≠ 0) (b : Below w.heap.size w w1) (n : Int) (hn : n = (addE L x : Nat)) : AddPost w X T L x (.returned (.tuple #[.int .i64 0, .int .i64 n])) w1 := by
  refine ⟨?_, HH ?_, HH (.of_below b)⟩
  · unfold addN; rw [if_neg hE, hn]; rfl
  · unfold addL; rw [if_neg hE]
    exact (h.after b).more (fun k hk => .inl hk) (grow_lt h.lt b.size)
theorem add_any {w : World} {X : Nat → Prop} {T : Nat} {L : List Nm} (h : TabAt w X T L) (x : Nm) (hx : x.length ≤ maxLen) :
    Calls Tryz.prog 141 #[.pointer (some ⟨T, 0, none⟩), .string ⟨x.toArray⟩] w (AddPost w X T L x) := by
  have H := HH h
  have hsz : (⟨x.toArray⟩ : ByteArray).size ≤ maxLen := by rw [Lib.size_eq]; exact hx
  rcases add_cases L x with ⟨h0, h1, h2, h3⟩ | ⟨h0, h1⟩ | ⟨h0, h1, h2⟩ | ⟨h0, h1, h2, h3⟩
  · obtain ⟨m, v, h⟩ := h
    obtain ⟨B, d, rfl, hnd, hrd⟩ := own_form h.row
    have HT := HH h
    have c : ((L.length : Nat) : Int) < 4096 := by omega
    have cc : decide ((4096 : Int) ≤ (L.length : Nat)) = false := decide_eq_false (by omega)
    clear h hnd hrd
    go_enter Tryz.func141, Tryz.ntmps141
    go_wp2_with (first
      | (go_at_call 178; refine (made_any H.out).mono ?_; rintro e w1 ⟨rfl, rfl⟩)
      | (go_at_call 179; refine (name_any _ _).mono ?_; rintro e w1 ⟨rfl, hb1⟩; change Below _ _ _ at hb1
         have B1 := HH hb1
         have T1 : Hid (Tab w1 X T m (.slice B L.length d) L) := HH (HT.out.keep (fun k hk => B1.out.block k (HT.out.lt k hk)) B1.out.size)
         have c0 : w1.cell? ⟨T, 0, none⟩ = some (.map (some m)) := T1.out.blk.cell 0
         have c1 : w1.cell? ⟨T, 1, none⟩ = some (.slice B L.length d) := T1.out.blk.cell 1
         have lk := T1.out.map.look_out ⟨x.toArray⟩ hsz h2
         clear hb1)
      | (go_at_call 180; refine (put_any T1.out x h0).mono ?_; rintro e w2 ⟨rfl, ht2, hc2⟩
         have T2 := HH ht2
         have C2 := HH hc2
         clear ht2 hc2))
    go_ret2
    refine ⟨?_, HH ?_, HH ((Ch.of_below B1.out).trans C2.out)⟩
    · unfold addN; rw [if_pos h0, h0]; rfl
    · unfold addL; rw [if_pos h0]
      refine T2.out.more (fun k hk => ?_) (grow_lt H.out.lt (Nat.le_trans B1.out.size C2.out.size))
      have hb := B1.out.size
      rcases hk with hk | hk
      · exact .inl hk
      · exact .inr ⟨by omega, hk.2⟩
  · go_enter Tryz.func141, Tryz.ntmps141
    go_wp2_with (first
      | (go_at_call 178; refine (made_any H.out).mono ?_; rintro e w1 ⟨rfl, rfl⟩)
      | (go_at_call 179; refine (name_any _ _).mono ?_; rintro e w1 ⟨rfl, hb1⟩; change Below _ _ _ at hb1
         have B1 := HH hb1
         clear hb1))
    go_ret2
    exact add_same H.out (by omega) B1.out 7 (by rw [h0]; rfl)
  · obtain ⟨m, v, h⟩ := h
    obtain ⟨B, d, rfl, hnd, hrd⟩ := own_form h.row
    have HT := HH h
    obtain ⟨i, hi⟩ := List.getElem?_of_mem h2
    have HI := HH hi
    clear h hnd hrd hi
    go_enter Tryz.func141, Tryz.ntmps141
    go_wp2_with (first
      | (go_at_call 178; refine (made_any H.out).mono ?_; rintro e w1 ⟨rfl, rfl⟩)
      | (go_at_call 179; refine (name_any _ _).mono ?_; rintro e w1 ⟨rfl, hb1⟩; change Below _ _ _ at hb1
         have B1 := HH hb1
         have T1 : Hid (Tab w1 X T m (.slice B L.length d) L) := HH (HT.out.keep (fun k hk => B1.out.block k (HT.out.lt k hk)) B1.out.size)
         have c0 : w1.cell? ⟨T, 0, none⟩ = some (.map (some m)) := T1.out.blk.cell 0
         have c1 : w1.cell? ⟨T, 1, none⟩ = some (.slice B L.length d) := T1.out.blk.cell 1
         have lk := T1.out.map.look_in ⟨x.toArray⟩ hsz i HI.out
         clear hb1))
    go_ret2
    exact add_same H.out (by omega) B1.out 6 (by rw [h0]; rfl)
  · obtain ⟨m, v, h⟩ := h
    obtain ⟨B, d, rfl, hnd, hrd⟩ := own_form h.row
    have HT := HH h
    have c : ¬ ((L.length : Nat) : Int) < 4096 := by omega
    have cc : decide ((4096 : Int) ≤ (L.length : Nat)) = true := decide_eq_true (by omega)
    clear h hnd hrd
    go_enter Tryz.func141, Tryz.ntmps141
    go_wp2_with (first
      | (go_at_call 178; refine (made_any H.out).mono ?_; rintro e w1 ⟨rfl, rfl⟩)
      | (go_at_call 179; refine (name_any _ _).mono ?_; rintro e w1 ⟨rfl, hb1⟩; change Below _ _ _ at hb1
         have B1 := HH hb1
         have T1 : Hid (Tab w1 X T m (.slice B L.length d) L) := HH (HT.out.keep (fun k hk => B1.out.block k (HT.out.lt k hk)) B1.out.size)
         have c0 : w1.cell? ⟨T, 0, none⟩ = some (.map (some m)) := T1.out.blk.cell 0
         have c1 : w1.cell? ⟨T, 1, none⟩ = some (.slice B L.length d) := T1.out.blk.cell 1
         have lk := T1.out.map.look_out ⟨x.toArray⟩ hsz h2
         clear hb1))
    go_ret2
    exact add_same H.out (by omega) B1.out 3 (by rw [h0]; rfl)
end Go.Proofs.YtfefnfifeaihhaaGreat.It
namespace Go.Proofs.YtfefnfifeaihhaaGreat.It
open Go.ChangeShapes Go.WideShapes Go.ChangeAt Go.RowKit Go.Maps
open Lx Sh
/-- what a table has -/
def Known (w : World) (m : Nat) (A : Option Addr) (n c : Nat) (e : Ending) (w' : World) : Prop := e = .returned (.agg #[.map (some m), .slice A n c]) ∧ Hid (Below w.heap.size w w')
theorem known_any {w : World} {X : Nat → Prop} {T m n d : Nat} {B : Option Addr} {L : List Nm} (h : Tab w X T m (.slice B n d) L) :
    Calls Tryz.prog 204 #[.pointer (some ⟨T, 0, none⟩)] w (Known w m B n d) := by
  have HT := HH h
  have H : Hid (TabAt w X T L) := HH ⟨_, _, h⟩
  have c0 : ∀ o, (w.alloc o).cell? ⟨T, 0, none⟩ = some (.map (some m)) := fun o => (h.blk.alloc o).cell 0
  have c1 : ∀ o, (w.alloc o).cell? ⟨T, 1, none⟩ = some (.slice B n d) := fun o => (h.blk.alloc o).cell 1
  clear h
  go_enter Tryz.func204, Tryz.ntmps204
  go_wp2_with (go_at_call 178; refine (made_any (H.out.after (one_box _ _))).mono ?_; rintro e w1 ⟨rfl, rfl⟩)
  refine bodyPost_ret (results_cell_row rfl _ _ w.heap.size 196 #[.map (some m), .slice B n d] (0, 0) _ rfl (heap_alloc_new _ _) Tryz.underlying196 rfl (by kernel_rfl)) rfl ?_
  exact ⟨rfl, HH (one_box _ _)⟩
/-- numbers of names -/
def NumPost (w : World) (i : Int) (b : Bool) (e : Ending) (w' : World) : Prop := e = .returned (.tuple #[.int .i64 i, .bool b]) ∧ Hid (Below w.heap.size w w')
theorem field_map (x : Option Nat) (y : Value) (w : World) : (Instr.field 196 (.agg #[.map x, y]) 0).run Tryz.prog w = .ok (.map x) w := by kernel_rfl
theorem num_out {w : World} {X : Nat → Prop} {T : Nat} {L : List Nm} (h : TabAt w X T L) (s : ByteArray) (hs : s.size ≤ maxLen) (hx : s.data.toList ∉ L) :
    Calls Tryz.prog 197 #[.pointer (some ⟨T, 0, none⟩), .string s] w (NumPost w 0 false) := by
  obtain ⟨m, v, h⟩ := h
  obtain ⟨B, d, rfl, hnd, hrd⟩ := own_form h.row
  have HT := HH h
  have HX := HH hx
  have ff := field_map (some m) (.slice B L.length d)
  clear h hnd hrd hx
  go_enter Tryz.func197, Tryz.ntmps197
  go_wp2_with (go_at_call 204; refine (known_any HT.out).mono ?_; rintro e w1 ⟨rfl, hb1⟩
               have lk := (HT.out.map.keep (hb1.out.block _ HT.out.map.lt)).look_out s hs HX.out)
  go_ret2
  exact ⟨rfl, hb1⟩
theorem num_in {w : World} {X : Nat → Prop} {T : Nat} {L : List Nm} (h : TabAt w X T L) (s : ByteArray) (hs : s.size ≤ maxLen) (i : Nat) (hx : L[i]? = some s.data.toList) :
    Calls Tryz.prog 197 #[.pointer (some ⟨T, 0, none⟩), .string s] w (NumPost w (i : Nat) true) := by
  obtain ⟨m, v, h⟩ := h
  obtain ⟨B, d, rfl, hnd, hrd⟩ := own_form h.row
  have HT := HH h
  have HX := HH hx
  have ff := field_map (some m) (.slice B L.length d)
  clear h hnd hrd hx
  go_enter Tryz.func197, Tryz.ntmps197
  go_wp2_with (go_at_call 204; refine (known_any HT.out).mono ?_; rintro e w1 ⟨rfl, hb1⟩
               have lk := (HT.out.map.keep (hb1.out.block _ HT.out.map.lt)).look_in s hs i HX.out)
  go_ret2
  exact ⟨rfl, hb1⟩
theorem own_base {w : World} {b b' e size n : Nat} {v : Value} {xs : List Value} (h : w.ownsRow b e size v n xs) (hb : b' ≤ b) : w.ownsRow b' e size v n xs := by
  refine ⟨h.1, ?_⟩
  rcases h.2 with hn | ⟨g, cap, cur, hv, hbg, rest⟩
  · exact .inl hn
  · exact .inr ⟨g, cap, cur, hv, Nat.le_trans hb hbg, rest⟩
end Go.Proofs.YtfefnfifeaihhaaGreat.It
namespace Go.Proofs.YtfefnfifeaihhaaGreat.It
open Go.ChangeShapes Go.WideShapes Go.ChangeAt Go.RowKit Go.Maps
open Lx Sh Go.Sort Go.Shelf
/-! ### Sorted -/
/-! ### Clone -/
/-- what was made since w -/
def Fresh (w w' : World) (k : Nat) : Prop := w.heap.size ≤ k ∧ k < w'.heap.size
/-- a table of L in new memory -/
def NewTab (w : World) (L : List Nm) (T : Nat) (w' : World) : Prop := Hid (TabAt w' (Fresh w w') T L) ∧ Hid (Below w.heap.size w w')
theorem tab_made {w w' w1 : World} {m c T : Nat} {A : Option Addr} {L : List Nm} (hg : Good L) (hm : MapAt w1 m L) (hmw : w.heap.size ≤ m) (hr : w1.ownsRow w.heap.size 9 1 (.slice A L.length c) L.length (cs strC L)) (b1 : Below w.heap.size w w1)
    (hT : w1.heap.size ≤ T) (hk : Blk w' T 228 (tabC m (.slice A L.length c) T)) (b2 : Below w1.heap.size w1 w') : NewTab w L T w' := by
  have h1 := b1.size
  have h2 := b2.size
  have h3 := hm.lt
  refine ⟨HH ⟨m, _, ⟨by omega, hk.lt⟩, ⟨hmw, by omega⟩, fun k hk' => ?_, fun k hk' => hk'.2, hk, hm.keep (b2.block _ h3), own_base (own_after hr b2) (Nat.zero_le _), hg⟩, HH (b1.trans (b2.mono h1))⟩
  have := hr.lt k hk'
  exact ⟨this.1, by omega⟩
end Go.Proofs.YtfefnfifeaihhaaGreat.It
namespace Go.Proofs.YtfefnfifeaihhaaGreat.It
open Go.ChangeShapes Go.WideShapes Go.ChangeAt Go.RowKit Go.Maps
open Lx Sh
/-! ### New -/
theorem newE_take (L : List Nm) : ∀ (l : List Nm) (i : Nat), newE L (l.take i) = 0 → newE L l = newE (L ++ l.take i) (l.drop i) := by
  intro l
  induction l generalizing L with
  | nil => intro i h; simp
  | cons x r ih =>
    intro i h
    cases i with
    | zero => simp
    | succ i =>
      rw [List.take_succ_cons] at h ⊢
      rw [List.drop_succ_cons]
      have e1 : ∀ r : List Nm, newE L (x :: r) = if addE L x = 0 then newE (L ++ [x]) r else addE L x := fun _ => rfl
      rw [e1] at h ⊢
      by_cases h0 : addE L x = 0
      · rw [if_pos h0] at h ⊢
        have := ih (L ++ [x]) i h
        rw [this, List.append_assoc]; rfl
      · rw [if_neg h0] at h; exact absurd h h0
theorem newE_more (L l : List Nm) (i : Nat) (x : Nm) (hx : l[i]? = some x) (h : newE L (l.take i) = 0) (h0 : addE (L ++ l.take i) x = 0) : newE L (l.take (i + 1)) = 0 := by
  have e : (l.take (i + 1)).take i = l.take i := by rw [List.take_take]; congr 1; omega
  have hl : i < l.length := (List.getElem?_eq_some_iff.1 hx).1
  have hd : (l.take (i + 1)).drop i = [x] := by
    rw [List.take_add_one, hx, List.drop_append, List.length_take, Nat.min_eq_left (by omega), Nat.sub_self, List.drop_of_length_le (by rw [List.length_take]; omega)]
    rfl
  rw [newE_take L (l.take (i + 1)) i (by rw [e]; exact h), e, hd]
  simp [newE, h0]
theorem newE_stop (L l : List Nm) (i : Nat) (x : Nm) (hx : l[i]? = some x) (h : newE L (l.take i) = 0) (h0 : addE (L ++ l.take i) x ≠ 0) : newE L l = addE (L ++ l.take i) x := by
  have hl : i < l.length := (List.getElem?_eq_some_iff.1 hx).1
  rw [newE_take L l i h, List.drop_eq_getElem_cons hl]
  have e : l[i] = x := by
    have := List.getElem?_eq_getElem hl
    rw [hx] at this; exact (Option.some.inj this).symm
  rw [e, newE, if_neg h0]
/-- what New answers: the table of the names, or none and the first error -/
def NewPost (w : World) (l : List Nm) (e : Ending) (w' : World) : Prop :=
  (newE [] l = 0 ∧ ∃ T, e = .returned (.tuple #[.pointer (some ⟨T, 0, none⟩), .int .i64 0]) ∧ NewTab w l T w') ∨ (newE [] l ≠ 0 ∧ e = .returned (.tuple #[.pointer none, .int .i64 (newE [] l : Nat)]) ∧ Hid (Below w.heap.size w w'))
theorem add_ok {w : World} {X : Nat → Prop} {T : Nat} {L : List Nm} (h : TabAt w X T L) (x : Nm) (hx : x.length ≤ maxLen) (h0 : addE L x = 0) :
    Calls Tryz.prog 141 #[.pointer (some ⟨T, 0, none⟩), .string ⟨x.toArray⟩] w fun e w' => e = .returned (.tuple #[.int .i64 (L.length : Nat), .int .i64 0]) ∧ Hid (TabAt w' (Grow X w w') T (L ++ [x])) ∧ Hid (Ch X w w') := by
  refine (add_any h x hx).mono ?_
  rintro e w' ⟨rfl, h1, h2⟩
  unfold addL at h1
  rw [if_pos h0] at h1
  refine ⟨?_, h1, h2⟩
  unfold addN; rw [if_pos h0, h0]; rfl
theorem add_not {w : World} {X : Nat → Prop} {T : Nat} {L : List Nm} (h : TabAt w X T L) (x : Nm) (hx : x.length ≤ maxLen) (k : Nat) (hk : addE L x = k) (h0 : k ≠ 0) :
    Calls Tryz.prog 141 #[.pointer (some ⟨T, 0, none⟩), .string ⟨x.toArray⟩] w fun e w' => e = .returned (.tuple #[.int .i64 0, .int .i64 (k : Nat)]) ∧ Hid (TabAt w' (Grow X w w') T L) ∧ Hid (Ch X w w') := by
  subst hk
  refine (add_any h x hx).mono ?_
  rintro e w' ⟨rfl, h1, h2⟩
  unfold addL at h1
  rw [if_neg h0] at h1
  refine ⟨?_, h1, h2⟩
  unfold addN; rw [if_neg h0]; rfl
theorem fresh_grow {w w1 w2 : World} {T : Nat} {L : List Nm} (hb : w.heap.size ≤ w1.heap.size) (h : TabAt w2 (Grow (Fresh w w1) w1 w2) T L) (hc : Ch (Fresh w w1) w1 w2) : TabAt w2 (Fresh w w2) T L :=
  h.more (fun k hk => by
    have := hc.size
    rcases hk with hk | hk
    · exact ⟨hk.1, by have := hk.2; omega⟩
    · exact ⟨by omega, hk.2⟩) (fun k hk => hk.2)
theorem fresh_below {w w1 w2 : World} (hb : Below w.heap.size w w1) (hc : Ch (Fresh w w1) w1 w2) : Below w.heap.size w w2 :=
  hb.trans (hc.below hb.size (fun k hk => hk.1))
theorem new_any {w : World} {A : Option Addr} {n c : Nat} {l : List Nm} (hn : Hid (n = l.length)) (hN : n ≤ 1000000) (hx : Rd w (· < w.heap.size) A (cs strC l)) (hs : ∀ x ∈ l, x.length ≤ maxLen) :
    Calls Tryz.prog 120 #[.slice A n c] w (NewPost w l) := by
  have HX := HH hx
  have HS := HH hs
  have h0 : MapAt (w.alloc (.map #[] 0)) w.heap.size [] := MapAt.made w
  have H0 := HH h0
  clear hx hs h0
  go_enter Tryz.func120, Tryz.ntmps120
  have hmm := @run_makeMap Tryz.prog
  go_wp2_with (first
    | (go_at_call 140; refine (table_any w.heap.size none 0 0 (w.alloc (.map #[] 0))).mono ?_; rintro e w1 ⟨rfl, hk1, hb1, hs1⟩
       have N1 : Hid (NewTab w [] (w.heap.size + 1 + 1) w1) := HH (tab_made good_nil H0.out (Nat.le_refl _) (World.ownsRow_nil _ _ _ _) (one_box _ _) (by simp) (by have := hk1.out; rw [World.size_alloc] at this; exact this) hb1)
       clear hk1 hb1 hs1))
  generalize w.heap.size + 1 + 1 = T at N1 ⊢
  clear hmm
  go_loopw [14] (fun v wr => ∃ i : Nat, v = .int .i64 (i : Int) ∧ i ≤ n ∧ Hid (newE [] (l.take i) = 0) ∧ Hid (NewTab w (l.take i) T wr)) (fun v _ => n - (intOf v).toNat)
  case atStart => exact ⟨0, rfl, by omega, HH rfl, N1⟩
  case round =>
    obtain ⟨i, rfl, hi, HE, HN⟩ := hrel
    by_cases hlt : i < n
    · obtain ⟨x, hxi⟩ := at_in l hn hlt
      have HNB := HN.out.2
      obtain ⟨ad, rfl, hS, h0, hj⟩ := rd_at 1 (fun _ => rfl) (by omega) (HX.out.below HNB.out) hxi
      rw [Nat.mul_one] at h0
      have a0 : wr.cell? (ad.add i) = some (.string ⟨x.toArray⟩) := h0
      have hi1 : (i : Int) < (n : Int) := by omega
      have HXI := HH hxi
      have hxl : x.length ≤ maxLen := HS.out x (List.mem_of_getElem? hxi)
      clear h0 hj hxi
      by_cases hE : addE (l.take i) x = 0
      · have HEE := HH hE
        have HT : TabAt wr (Fresh w wr) T (l.take i) := HN.out.1
        have CA := HH (add_ok HT x hxl hE)
        clear hE HT
        go_wp2_with (go_at_call 141; with_reducible refine CA.out.mono ?_; rintro e w2 ⟨rfl, ht2, hc2⟩)
        go_roundw
        case rel =>
          refine ⟨i + 1, by go_num, by omega, HH (newE_more _ l i x HXI.out HE.out HEE.out), HH ⟨HH ?_, HH (fresh_below HNB.out hc2.out)⟩⟩
          rw [List.take_add_one, HXI.out]
          exact fresh_grow HNB.out.size ht2.out hc2.out
        case measure => simp [intOf]; omega
      · obtain ⟨k, hk⟩ : ∃ k, addE (l.take i) x = k := ⟨_, rfl⟩
        have hk0 : k ≠ 0 := by rw [← hk]; exact hE
        have HT : TabAt wr (Fresh w wr) T (l.take i) := HN.out.1
        have CA := HH (add_not HT x hxl k hk hk0)
        have hst : newE [] l = k := by rw [← hk]; exact newE_stop _ l i x HXI.out HE.out hE
        have HST := HH hst
        have hkb : ((k : Int) == 0) = false := beq_eq_false_iff_ne.2 (by omega)
        have hkn : ((k : Int) != 0) = true := by simp [bne, hkb]
        clear hE HT hk hst
        go_wp2_with (go_at_call 141; with_reducible refine CA.out.mono ?_; rintro e w2 ⟨rfl, ht2, hc2⟩)
        go_ret2
        refine .inr ⟨by rw [HST.out]; exact hk0, by rw [HST.out]; rfl, HH (fresh_below HNB.out hc2.out)⟩
    · have hin : i = n := by omega
      have hnl : ¬ ((i : Int) < (n : Int)) := by omega
      have ht : l.take i = l := List.take_of_length_le (by rw [hin, hn.out]; exact Nat.le_refl _)
      rw [ht] at HE HN
      go_wp2
      go_ret2
      exact .inl ⟨HE.out, T, rfl, HN.out⟩
end Go.Proofs.YtfefnfifeaihhaaGreat.It
