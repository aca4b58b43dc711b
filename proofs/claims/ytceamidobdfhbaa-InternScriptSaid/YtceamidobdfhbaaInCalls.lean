/- Package intern's calls: what each answers of a table as it lies, and what it changes; proved by walking their texts, and by the library's contracts. Conditions: the table lies as TabAt says; a name has at most as many bytes as a string can have. -/
import Derived.Test.YtceamidobdfhbaaInAdd
import Derived.Test.YtceamidobdfhbaaShelf
import Derived.Carry
namespace Go.Proofs.Ytceamidobdfhbaa.It
open Go.ChangeShapes Go.WideShapes Go.ChangeAt Go.RowKit Go.Maps
open Lx Sh
set_option linter.unusedVariables false
set_option linter.unusedSimpArgs false

/-- what a table has -/
def Known (w : World) (m : Nat) (A : Option Addr) (n c : Nat) (e : Ending) (w' : World) : Prop := e = .returned (.agg #[.map (some m), .slice A n c]) ∧ Hid (Below w.heap.size w w')
set_option maxRecDepth 100000 in
set_option maxHeartbeats 1000000 in
theorem known_any {w : World} {X : Nat → Prop} {T m n d : Nat} {B : Option Addr} {L : List Nm} (h : Tab w X T m (.slice B n d) L) :
    Calls Try.prog 32 #[.pointer (some ⟨T, 0, none⟩)] w (Known w m B n d) := by
  have HT := Lib.hid h
  have H : Hid (TabAt w X T L) := Lib.hid ⟨_, _, h⟩
  have c0 : ∀ o, (w.alloc o).cell? ⟨T, 0, none⟩ = some (.map (some m)) := fun o => (h.blk.alloc o).cell 0
  have c1 : ∀ o, (w.alloc o).cell? ⟨T, 1, none⟩ = some (.slice B n d) := fun o => (h.blk.alloc o).cell 1
  clear h
  go_enter Try.func32, Try.ntmps32
  go_wp2_with (go_at_call 29; refine (made_any (H.out.after (one_box _ _))).mono ?_; rintro e w1 ⟨rfl, rfl⟩)
  refine bodyPost_ret (results_cell_row rfl _ _ w.heap.size 55 #[.map (some m), .slice B n d] (0, 0) _ rfl (heap_alloc_new _ _) Try.underlying55 rfl (by kernel_rfl)) rfl ?_
  exact ⟨rfl, Lib.hid (one_box _ _)⟩
theorem known_nil (w : World) : Calls Try.prog 32 #[.pointer none] w fun e w' => e = .returned (.agg #[.map none, .slice none 0 0]) ∧ Hid (Below w.heap.size w w') := by
  go_enter Try.func32, Try.ntmps32
  go_wp2_with (go_at_call 29; refine (made_nil _).mono ?_; rintro e w1 ⟨rfl, rfl⟩)
  refine bodyPost_ret (results_cell_row rfl _ _ w.heap.size 55 #[.map none, .slice none 0 0] (0, 0) _ rfl (heap_alloc_new _ _) Try.underlying55 rfl (by kernel_rfl)) rfl ?_
  exact ⟨rfl, Lib.hid (one_box _ _)⟩
/-- numbers of names -/
def NumPost (w : World) (i : Int) (b : Bool) (e : Ending) (w' : World) : Prop := e = .returned (.tuple #[.int .i64 i, .bool b]) ∧ Hid (Below w.heap.size w w')
theorem look_nil (w : World) (s : ByteArray) (hs : s.size ≤ maxLen) : (Instr.lookup 53 (.map none) (.string s) true).run Try.prog w = .ok (.tuple #[.int .i64 0, .bool false]) w := by
  have := Maps.look_nil (w := w) true lawStr Try.underlying53 (zeroInt w) (keyStr s hs)
  simpa using this
theorem field_map (x : Option Nat) (y : Value) (w : World) : (Instr.field 55 (.agg #[.map x, y]) 0).run Try.prog w = .ok (.map x) w := by kernel_rfl
theorem field_row (x y : Value) (w : World) : (Instr.field 55 (.agg #[x, y]) 1).run Try.prog w = .ok y w := by kernel_rfl
set_option maxRecDepth 100000 in
set_option maxHeartbeats 1000000 in
theorem num_out {w : World} {X : Nat → Prop} {T : Nat} {L : List Nm} (h : TabAt w X T L) (s : ByteArray) (hs : s.size ≤ maxLen) (hx : s.data.toList ∉ L) :
    Calls Try.prog 11 #[.pointer (some ⟨T, 0, none⟩), .string s] w (NumPost w 0 false) := by
  obtain ⟨m, v, h⟩ := h
  obtain ⟨B, d, rfl, hnd, hrd⟩ := own_form h.row
  have HT := Lib.hid h
  have HX := Lib.hid hx
  have ff := field_map (some m) (.slice B L.length d)
  clear h hnd hrd hx
  go_enter Try.func11, Try.ntmps11
  go_wp2_with (go_at_call 32; refine (known_any HT.out).mono ?_; rintro e w1 ⟨rfl, hb1⟩
               have lk := (HT.out.map.keep (hb1.out.block _ HT.out.map.lt)).look_out s hs HX.out)
  go_ret2
  exact ⟨rfl, hb1⟩
set_option maxRecDepth 100000 in
set_option maxHeartbeats 1000000 in
theorem num_in {w : World} {X : Nat → Prop} {T : Nat} {L : List Nm} (h : TabAt w X T L) (s : ByteArray) (hs : s.size ≤ maxLen) (i : Nat) (hx : L[i]? = some s.data.toList) :
    Calls Try.prog 11 #[.pointer (some ⟨T, 0, none⟩), .string s] w (NumPost w (i : Nat) true) := by
  obtain ⟨m, v, h⟩ := h
  obtain ⟨B, d, rfl, hnd, hrd⟩ := own_form h.row
  have HT := Lib.hid h
  have HX := Lib.hid hx
  have ff := field_map (some m) (.slice B L.length d)
  clear h hnd hrd hx
  go_enter Try.func11, Try.ntmps11
  go_wp2_with (go_at_call 32; refine (known_any HT.out).mono ?_; rintro e w1 ⟨rfl, hb1⟩
               have lk := (HT.out.map.keep (hb1.out.block _ HT.out.map.lt)).look_in s hs i HX.out)
  go_ret2
  exact ⟨rfl, hb1⟩
set_option maxRecDepth 100000 in
set_option maxHeartbeats 1000000 in
theorem num_nil (w : World) (s : ByteArray) (hs : s.size ≤ maxLen) :
    Calls Try.prog 11 #[.pointer none, .string s] w (NumPost w 0 false) := by
  have ff := field_map none (.slice none 0 0)
  go_enter Try.func11, Try.ntmps11
  go_wp2_with (go_at_call 32; refine (known_nil _).mono ?_; rintro e w1 ⟨rfl, hb1⟩
               have lk := look_nil w1 s hs)
  go_ret2
  exact ⟨rfl, hb1⟩
/-- names of numbers -/
def NamPost (w : World) (s : ByteArray) (b : Bool) (e : Ending) (w' : World) : Prop := e = .returned (.tuple #[.string s, .bool b]) ∧ Hid (Below w.heap.size w w')
set_option maxRecDepth 100000 in
set_option maxHeartbeats 1000000 in
theorem name_in {w : World} {X : Nat → Prop} {T : Nat} {L : List Nm} (h : TabAt w X T L) (i : Nat) (x : Nm) (hx : L[i]? = some x) :
    Calls Try.prog 12 #[.pointer (some ⟨T, 0, none⟩), .int .i64 (i : Nat)] w (NamPost w ⟨x.toArray⟩ true) := by
  obtain ⟨m, v, h⟩ := h
  obtain ⟨B, d, rfl, hnd, hrd⟩ := own_form h.row
  have HT := Lib.hid h
  have ff := field_row (.map (some m)) (.slice B L.length d)
  have hi : i < L.length := (List.getElem?_eq_some_iff.1 hx).1
  have hl := h.good.2.2
  obtain ⟨ad, e, hab, hc⟩ := hrd (by rw [cs_length strC 1 (fun _ => rfl)]; omega)
  have hcell : w.cell? (ad.add i) = some (.string ⟨x.toArray⟩) := hc i _ (by rw [show i = i * 1 + 0 by omega]; exact cs_at strC 1 (fun _ => rfl) L i x hx 0 (by omega))
  subst e
  have HC := Lib.hid hcell
  have HA := Lib.hid hab
  clear h hrd hc hcell hab hx
  have c1 : decide ((i : Int) < 0) = false := decide_eq_false (by omega)
  have c2 : decide ((L.length : Int) ≤ (i : Int)) = false := decide_eq_false (by omega)
  go_enter Try.func12, Try.ntmps12
  go_wp2_with (go_at_call 32; refine (known_any HT.out).mono ?_; rintro e w1 ⟨rfl, hb1⟩
               have hc1 : w1.cell? (ad.add i) = some (.string ⟨x.toArray⟩) := (World.cell?_of_block (hb1.out.block _ (by rw [block_of_add]; exact HA.out.2))).trans HC.out)
  go_ret2
  exact ⟨rfl, hb1⟩
set_option maxRecDepth 100000 in
set_option maxHeartbeats 1000000 in
theorem name_out {w : World} {X : Nat → Prop} {T : Nat} {L : List Nm} (h : TabAt w X T L) (i : Int) (hx : i < 0 ∨ (L.length : Int) ≤ i) :
    Calls Try.prog 12 #[.pointer (some ⟨T, 0, none⟩), .int .i64 i] w (NamPost w ⟨#[]⟩ false) := by
  obtain ⟨m, v, h⟩ := h
  obtain ⟨B, d, rfl, hnd, hrd⟩ := own_form h.row
  have HT := Lib.hid h
  have ff := field_row (.map (some m)) (.slice B L.length d)
  clear h hrd
  by_cases c1 : i < 0
  · have c1' : decide (i < 0) = true := decide_eq_true c1
    go_enter Try.func12, Try.ntmps12
    go_wp2_with (go_at_call 32; refine (known_any HT.out).mono ?_; rintro e w1 ⟨rfl, hb1⟩)
    go_ret2
    exact ⟨rfl, hb1⟩
  · have c1' : decide (i < 0) = false := decide_eq_false (by omega)
    have c2 : decide ((L.length : Int) ≤ i) = true := decide_eq_true (by omega)
    go_enter Try.func12, Try.ntmps12
    go_wp2_with (go_at_call 32; refine (known_any HT.out).mono ?_; rintro e w1 ⟨rfl, hb1⟩)
    go_ret2
    exact ⟨rfl, hb1⟩
set_option maxRecDepth 100000 in
set_option maxHeartbeats 1000000 in
theorem name_nil (w : World) (i : Int) :
    Calls Try.prog 12 #[.pointer none, .int .i64 i] w (NamPost w ⟨#[]⟩ false) := by
  have ff := field_row (.map none) (.slice none 0 0)
  by_cases c1 : i < 0
  · have c1' : decide (i < 0) = true := decide_eq_true c1
    go_enter Try.func12, Try.ntmps12
    go_wp2_with (go_at_call 32; refine (known_nil _).mono ?_; rintro e w1 ⟨rfl, hb1⟩)
    go_ret2
    exact ⟨rfl, hb1⟩
  · have c1' : decide (i < 0) = false := decide_eq_false (by omega)
    have c2 : decide ((0 : Int) ≤ i) = true := decide_eq_true (by omega)
    go_enter Try.func12, Try.ntmps12
    go_wp2_with (go_at_call 32; refine (known_nil _).mono ?_; rintro e w1 ⟨rfl, hb1⟩)
    go_ret2
    exact ⟨rfl, hb1⟩
def IntPost (w : World) (i : Int) (e : Ending) (w' : World) : Prop := e = .returned (.int .i64 i) ∧ Hid (Below w.heap.size w w')
set_option maxRecDepth 100000 in
set_option maxHeartbeats 1000000 in
theorem len_any {w : World} {X : Nat → Prop} {T : Nat} {L : List Nm} (h : TabAt w X T L) :
    Calls Try.prog 14 #[.pointer (some ⟨T, 0, none⟩)] w (IntPost w (L.length : Nat)) := by
  obtain ⟨m, v, h⟩ := h
  obtain ⟨B, d, rfl, hnd, hrd⟩ := own_form h.row
  have HT := Lib.hid h
  have ff := field_row (.map (some m)) (.slice B L.length d)
  clear h hrd
  go_enter Try.func14, Try.ntmps14
  go_wp2_with (go_at_call 32; refine (known_any HT.out).mono ?_; rintro e w1 ⟨rfl, hb1⟩)
  go_ret
  exact ⟨rfl, hb1⟩
theorem len_nil (w : World) :
    Calls Try.prog 14 #[.pointer none] w (IntPost w 0) := by
  have ff := field_row (.map none) (.slice none 0 0)
  go_enter Try.func14, Try.ntmps14
  go_wp2_with (go_at_call 32; refine (known_nil _).mono ?_; rintro e w1 ⟨rfl, hb1⟩)
  go_ret
  exact ⟨rfl, hb1⟩
/-- a row of n names in new memory -/
def RowNew (w : World) (L : List Nm) (e : Ending) (w' : World) : Prop :=
  ∃ A c, e = .returned (.slice A L.length c) ∧ Hid (w'.ownsRow w.heap.size 9 1 (.slice A L.length c) L.length (cs strC L)) ∧ Hid (Below w.heap.size w w')
theorem str_at {L : List Nm} {j : Nat} {x : Nm} (hx : L[j]? = some x) : (cs strC L)[j]? = some (.string ⟨x.toArray⟩) := by
  rw [show j = j * 1 + 0 by omega]; exact cs_at strC 1 (fun _ => rfl) L j x hx 0 (by omega)
theorem own_base {w : World} {b b' e size n : Nat} {v : Value} {xs : List Value} (h : w.ownsRow b e size v n xs) (hb : b' ≤ b) : w.ownsRow b' e size v n xs := by
  refine ⟨h.1, ?_⟩
  rcases h.2 with hn | ⟨g, cap, cur, hv, hbg, rest⟩
  · exact .inl hn
  · exact .inr ⟨g, cap, cur, hv, Nat.le_trans hb hbg, rest⟩
theorem cs_map (L : List Nm) : cs strC L = (L.map fun x => (⟨x.toArray⟩ : ByteArray)).map Value.string := by
  induction L with
  | nil => rfl
  | cons x r ih => rw [cs_cons, ih]; rfl
theorem rowsClone {w : World} {b : Nat} {A : Option Addr} {c n : Nat} {L : List Nm} (h : w.ownsRow b 9 1 (.slice A n c) L.length (cs strC L)) (hl : L.length ≤ 100000) :
    Calls Try.prog 34 #[.slice A n c] w (RowNew w L) := by
  rcases h.2 with ⟨e, h0⟩ | ⟨g, cap, cur, e, hbg, hg, hcap, hmax, hsz, htk⟩
  · injection e with e1 e2 e3
    subst e1; subst e2; subst e3
    have hL : L = [] := List.eq_nil_of_length_eq_zero h0
    subst hL
    refine (Try.slices_Clone_string_nil 0 0 w).mono ?_
    rintro e w' ⟨rfl, rfl⟩
    exact ⟨none, 0, rfl, Lib.hid (World.ownsRow_nil _ _ _ _), Lib.hid (Below.refl _ _)⟩
  · injection e with e1 e2 e3
    subst e1; subst e2; subst e3
    have hc := h.cells (g := g) rfl
    refine (Try.slices_Clone_string g 0 L.length c (L.map fun x => (⟨x.toArray⟩ : ByteArray)) w (by simp) (by omega) (fun j hj => ?_)).mono ?_
    · rw [List.length_map] at hj
      obtain ⟨x, hx⟩ : ∃ x, L[j]? = some x := ⟨_, List.getElem?_eq_getElem hj⟩
      have := hc j (.string ⟨x.toArray⟩) (str_at hx)
      have e : (⟨g, 0, none⟩ : Addr).add j = ⟨g, 0 + j, none⟩ := by
        unfold Addr.add; split
        · subst_vars; rfl
        · rfl
      rw [e] at this
      rw [List.getD_eq_getElem?_getD, List.getElem?_map, hx]
      exact this
    · rintro e w' ⟨v', rfl, hown, -, hb⟩
      rw [List.take_of_length_le (by simp), ← cs_map] at hown
      obtain ⟨A', c', rfl, -, -⟩ := own_form hown
      exact ⟨A', c', rfl, Lib.hid hown, Lib.hid hb⟩
set_option maxRecDepth 100000 in
set_option maxHeartbeats 1000000 in
theorem all_any {w : World} {X : Nat → Prop} {T : Nat} {L : List Nm} (h : TabAt w X T L) :
    Calls Try.prog 23 #[.pointer (some ⟨T, 0, none⟩)] w (RowNew w L) := by
  obtain ⟨m, v, h⟩ := h
  obtain ⟨B, d, rfl, hnd, hrd⟩ := own_form h.row
  have HT := Lib.hid h
  have ff := field_row (.map (some m)) (.slice B L.length d)
  have hlen := h.good.2.2
  clear h hrd
  go_enter Try.func23, Try.ntmps23
  go_wp2_with (first
    | (go_at_call 32; refine (known_any HT.out).mono ?_; rintro e w1 ⟨rfl, hb1⟩)
    | (go_at_call 34; refine (rowsClone (own_after HT.out.row hb1.out) (by omega)).mono ?_; rintro e w2 ⟨A, c, rfl, ho, hb2⟩))
  go_ret
  exact ⟨A, c, rfl, Lib.hid (own_base ho.out hb1.out.size), Lib.hid (hb1.out.trans (hb2.out.mono hb1.out.size))⟩
theorem all_nil (w : World) : Calls Try.prog 23 #[.pointer none] w (RowNew w []) := by
  have ff := field_row (.map none) (.slice none 0 0)
  go_enter Try.func23, Try.ntmps23
  go_wp2_with (first
    | (go_at_call 32; refine (known_nil _).mono ?_; rintro e w1 ⟨rfl, hb1⟩)
    | (go_at_call 34; refine (Try.slices_Clone_string_nil _ _ _).mono ?_; rintro e w2 ⟨rfl, rfl⟩))
  go_ret
  exact ⟨none, 0, rfl, Lib.hid (World.ownsRow_nil _ _ _ _), hb1⟩
end Go.Proofs.Ytceamidobdfhbaa.It
