/- Package intern's calls: what each answers of a table as it lies, and what it changes; proved by walking their texts, and by the library's contracts. Conditions: the table lies as TabAt says; a name has at most as many bytes as a string can have. -/
import Derived.Test.YtceamidobdfhbaaInTab
import Derived.Test.YtceamidobdfhbaaShelf
import Derived.Carry
namespace Go.Proofs.Ytceamidobdfhbaa.It
open Go.ChangeShapes Go.WideShapes Go.ChangeAt Go.RowKit Go.Maps
open Lx Sh
set_option linter.unusedVariables false
set_option linter.unusedSimpArgs false

theorem eq_self (a : Addr) (w : World) : (binOp .eql 22 (.pointer (some a)) (.pointer (some a))).run Try.prog w = .ok (.bool true) w := by
  obtain ⟨j, hj⟩ := Option.isSome_iff_exists.1 (show (Try.prog.info? 57).isSome = true by kernel_rfl)
  exact run_eql_ptr_same w a Try.underlying22 hj
set_option maxRecDepth 100000 in
set_option maxHeartbeats 1000000 in
theorem table_any (m : Nat) (A : Option Addr) (n c : Nat) (w : World) :
    Calls Try.prog 28 #[.agg #[.map (some m), .slice A n c]] w fun e w' => e = .returned (.pointer (some ⟨w.heap.size + 1, 0, none⟩)) ∧ Hid (Blk w' (w.heap.size + 1) 57 (tabC m (.slice A n c) (w.heap.size + 1))) ∧ Below w.heap.size w w' ∧ w'.heap.size = w.heap.size + 2 := by
  go_enter Try.func28, Try.ntmps28
  go_wp2
  go_ret
  refine ⟨rfl, Lib.hid ?_, two_box _ _ _, by simp⟩
  have := Blk.new (w.alloc (.cells #[.map (some m), .slice A n c] 55)) 57 (tabC m (.slice A n c) (w.heap.size + 1))
  rwa [World.size_alloc] at this
set_option maxRecDepth 100000 in
set_option maxHeartbeats 1000000 in
theorem made_any {w : World} {X : Nat → Prop} {T : Nat} {L : List Nm} (h : TabAt w X T L) :
    Calls Try.prog 29 #[.pointer (some ⟨T, 0, none⟩)] w fun e w' => e = .returned (.bool true) ∧ w = w' := by
  obtain ⟨m, v, h⟩ := h
  have c2 : w.cell? ⟨T, 2, none⟩ = some (.pointer (some ⟨T, 0, none⟩)) := h.blk.cell 2
  have heq := eq_self ⟨T, 0, none⟩
  clear h
  go_enter Try.func29, Try.ntmps29
  go_wp2
  go_ret
  exact ⟨rfl, rfl⟩
theorem made_nil (w : World) : Calls Try.prog 29 #[.pointer none] w fun e w' => e = .returned (.bool false) ∧ w = w' := by
  go_enter Try.func29, Try.ntmps29
  go_wp2
  go_ret
  exact ⟨rfl, rfl⟩
/-- a name is laid into the map -/
theorem wpList_put {w : World} {ops : Array Oper} {rest : List Oper} {o : Oper} {a : Act} {Q : Exit → Act → World → Prop} (hg : o.guard = none) (m x v : Operand) (hop : o.op = Op.mapUpdate 53 m x v)
    (b : Nat) (L : List Nm) (h : Hid (MapAt w b L)) (hn : L.length ≤ 4096) (s : ByteArray) (hs : s.size ≤ maxLen) (hx : s.data.toList ∉ L) (em : a.eval m = .map (some b)) (ex : a.eval x = .string s) (ev : a.eval v = .int .i64 (L.length : Int))
    (hK : ∀ w', Hid (MapAt w' b (L ++ [s.data.toList])) → Hid (w.grownBy w' (some b)) → wpList Try.prog ops Q rest (a.put o.dst undef) w') : wpList Try.prog ops Q (o :: rest) a w := by
  refine wpList_plain hg fun K' hK' => ?_
  obtain ⟨w', hrun, r1, r2⟩ := h.out.store hn s hs hx
  unfold Oper.wp
  simp [execOp, hop, em, ex, ev, hrun, Result.andThen]
  exact hK' _ _ (hK w' (Lib.hid r1) (Lib.hid r2))
theorem clone_str (s : ByteArray) (w : World) (hs : s.size ≤ 65536) : Calls Try.prog 42 #[.string s] w fun e w' => e = .returned (.string s) ∧ Below w.heap.size w w' := by
  go_enter Try.func42, Try.ntmps42
  go_wp2_with (go_at_call 51; refine (Try.stringslite_Clone s _ (by omega)).mono ?_; rintro e w1 ⟨rfl, hb⟩)
  go_ret
  exact ⟨rfl, hb⟩
theorem put_fin {w w1 w2 w3 : World} {o : Obj} {X : Nat → Prop} {T m : Nat} {v v3 : Value} {L : List Nm} {x : Nm} (h : Tab w X T m v L) (b1 : Below w.heap.size w w1) (c2 : Ch (· = m) w1 w2) (m2 : MapAt w2 m (L ++ [x])) (k3 : Blk w3 T 57 (tabC m v T))
    (r3 : w3.ownsRow 0 9 1 v3 (L.length + 1) (cs strC L ++ strC x)) (g3 : (w2.alloc o).grownBy w3 v.ownBlock) (e3 : v3.ownBlock = v.ownBlock ∨ v3.ownBlock = some (w2.alloc o).heap.size) (hg : Good (L ++ [x])) :
    TabAt (w3.setCell ⟨T, 1, none⟩ v3) (Grow X w (w3.setCell ⟨T, 1, none⟩ v3)) T (L ++ [x]) ∧ Ch X w (w3.setCell ⟨T, 1, none⟩ v3) := by
  have s4 : (w3.setCell ⟨T, 1, none⟩ v3).heap.size = w3.heap.size := by simp [World.setCell]
  have hs1 := b1.size
  have hs2 := c2.size
  have hs3 := g3.size
  rw [World.size_alloc] at hs3
  have hc1 : Ch X w w1 := .of_below b1
  have hc2 : Ch X w w2 := hc1.trans' c2 (fun i _ e => by have e' : i = m := e; subst e'; exact h.xm)
  have hc3 : Ch X w w3 := (hc2.alloc o).trans' (.of_grown g3 (X := fun k => v.ownBlock = some k) (fun k e => e.symm)) (fun i _ e => h.xv i e)
  have hc4 := hc3.setCell (p := ⟨T, 1, none⟩) (.inl h.xT) v3
  have hmT : m ≠ T := h.map.ne_blk h.blk
  have hmv : v.ownBlock ≠ some m := h.map.ne_own h.row
  have hm3 : MapAt w3 m (L ++ [x]) := m2.keep ((g3.block m (by rw [World.size_alloc]; have := m2.lt; omega) (fun e => hmv e.symm)).trans (Below.heap_alloc _ _ _ m2.lt))
  have hm4 : MapAt (w3.setCell ⟨T, 1, none⟩ v3) m (L ++ [x]) := hm3.keep (Below.heap_setCell _ _ _ _ hmT)
  have hr4 : (w3.setCell ⟨T, 1, none⟩ v3).ownsRow 0 9 1 v3 (L.length + 1) (cs strC L ++ strC x) := (ch_set w3 T 1 v3).own r3 (fun k hk e => own_ne_blk r3 k3 (by decide) k hk e)
  refine ⟨⟨m, v3, .inl h.xT, .inl h.xm, fun k hk => ?_, fun k hk => ?_, k3.set_ 1 v3, hm4, ?_, hg⟩, hc4⟩
  · rcases e3 with e | e
    · exact .inl (h.xv k (by rw [← e]; exact hk))
    · have hlt := (hr4.lt k hk).2
      rw [e, World.size_alloc] at hk
      injection hk with hk
      exact .inr ⟨by omega, hlt⟩
  · rcases hk with hk | hk
    · have := h.lt k hk; omega
    · exact hk.2
  · rw [List.length_append, List.length_singleton]
    have e : cs strC (L ++ [x]) = cs strC L ++ strC x := by simp [cs]
    rw [e]; exact hr4
set_option maxRecDepth 100000 in
set_option maxHeartbeats 1000000 in
theorem put_any {w : World} {X : Nat → Prop} {T m : Nat} {v : Value} {L : List Nm} (h : Tab w X T m v L) (x : Nm) (hx : addE L x = 0) :
    Calls Try.prog 31 #[.pointer (some ⟨T, 0, none⟩), .string ⟨x.toArray⟩] w fun e w' => e = .returned (.int .i64 (L.length : Int)) ∧ TabAt w' (Grow X w w') T (L ++ [x]) ∧ Ch X w w' := by
  obtain ⟨B, d, rfl, hnd, hrd⟩ := own_form h.row
  have HG := h.good
  have hxs : nameB x = true ∧ x ∉ L ∧ L.length < 4096 := by
    rcases add_cases L x with ⟨_, h1, h2, h3⟩ | ⟨h0, _⟩ | ⟨h0, _⟩ | ⟨h0, _⟩ <;> first | exact ⟨h1, h2, h3⟩ | omega
  have H := Lib.hid h
  have hsz : (⟨x.toArray⟩ : ByteArray).size ≤ 24 := by rw [Lib.size_eq]; exact name_short hxs.1
  have HX := Lib.hid hxs
  have hlen : L.length ≤ 4096 := HG.2.2
  have HGx : Good (L ++ [x]) := by
    have := HG.add x
    unfold addL at this
    rwa [if_pos hx] at this
  clear h hnd hrd HG hxs
  go_enter Try.func31, Try.ntmps31
  go_wp2_with (first
    | (go_at_call 42; refine (clone_str _ _ (by omega)).mono ?_; rintro e w1 ⟨rfl, hb1⟩
       have B1 := Lib.hid hb1
       have c0 : w1.cell? ⟨T, 0, none⟩ = some (.map (some m)) := (H.out.blk.after B1.out).cell 0
       have c1 : w1.cell? ⟨T, 1, none⟩ = some (.slice B L.length d) := (H.out.blk.after B1.out).cell 1
       clear hb1)
    | (at_mapUpdate; refine wpList_put rfl _ _ _ rfl m L (Lib.hid (H.out.map.keep (B1.out.block _ H.out.map.lt))) hlen ⟨x.toArray⟩ (by have := maxLen_big; omega) HX.out.2.1 rfl rfl rfl ?_; intro w2 hm2 hg2
       have C2 : Hid (Ch (· = m) w1 w2) := Lib.hid (Ch.of_grown hg2.out (fun k e => by injection e))
       have K2 : Hid (Blk w2 T 57 (tabC m (.slice B L.length d) T)) := Lib.hid (C2.out.blk (H.out.blk.after B1.out) (fun e => H.out.map.ne_blk H.out.blk e.symm))
       have R2 : Hid (w2.ownsRow 0 9 1 (.slice B L.length d) L.length (cs strC L)) := Lib.hid (C2.out.own (own_after H.out.row B1.out) (fun k hk e => H.out.map.ne_own H.out.row (by rw [hk, e])))
       have c1 : w2.cell? ⟨T, 1, none⟩ = some (.slice B L.length d) := K2.out.cell 1
       clear hg2)
    | (at_builtin; refine wpList_append_ch rfl (.tmp 23) (.tmp 25) 26 rfl 0 9 _ 1 16 Try.underlying26 info_Str rfl (by omega) (by omega) (.slice B L.length d) L.length (cs strC L) rfl (R2.out.alloc _) (fun _ => True) (some ⟨w2.heap.size, 0, none⟩) 1 1 (strC x) rfl rfl ((lit_at w2 _ _ _ (strC x) rfl rfl).more (fun _ _ => trivial)) (str_one x) (by omega) (Nat.zero_le _) ?_; intro v3 w3 hown3 hg3 hv3
       have K3 : Hid (Blk w3 T 57 (tabC m (.slice B L.length d) T)) := Lib.hid ((K2.out.alloc _).grown hg3.out (fun e => own_ne_blk R2.out K2.out (by decide) T e.symm rfl))
       obtain ⟨B3, d3, e3, hn3, hr3⟩ := own_form hown3.out
       subst e3
       have f3 : w3.frozen? ⟨T, 1, none⟩ = false := K3.out.frozen 1
       have c3 : w3.cell? ⟨T, 1, none⟩ = some (.slice B L.length d) := K3.out.cell 1
       clear hr3 hn3))
  go_ret
  exact ⟨rfl, put_fin H.out B1.out C2.out hm2.out K3.out hown3.out hg3.out hv3.out HGx⟩
theorem TabAt.grow {w w' : World} {X : Nat → Prop} {T : Nat} {L : List Nm} (h : TabAt w X T L) : TabAt w (Grow X w w) T L := by
  obtain ⟨m, v, h⟩ := h
  exact ⟨m, v, .inl h.xT, .inl h.xm, fun k hk => .inl (h.xv k hk), fun k hk => by rcases hk with hk | hk; exact h.lt k hk; omega, h.blk, h.map, h.row, h.good⟩
theorem TabAt.more {w : World} {X Y : Nat → Prop} {T : Nat} {L : List Nm} (h : TabAt w X T L) (hy : ∀ k, X k → Y k) (hlt : ∀ k, Y k → k < w.heap.size) : TabAt w Y T L := by
  obtain ⟨m, v, h⟩ := h
  exact ⟨m, v, hy _ h.xT, hy _ h.xm, fun k hk => hy _ (h.xv k hk), hlt, h.blk, h.map, h.row, h.good⟩
theorem grow_lt {w w' : World} {X : Nat → Prop} (hx : ∀ k, X k → k < w.heap.size) (hs : w.heap.size ≤ w'.heap.size) : ∀ k, Grow X w w' k → k < w'.heap.size := by
  intro k hk
  rcases hk with hk | hk
  · have := hx k hk; omega
  · exact hk.2
/-- what Add leaves -/
def AddPost (w : World) (X : Nat → Prop) (T : Nat) (L : List Nm) (x : Nm) (e : Ending) (w' : World) : Prop :=
  e = .returned (.tuple #[.int .i64 (addN L x : Nat), .int .i64 (addE L x : Nat)]) ∧ Hid (TabAt w' (Grow X w w') T (addL L x)) ∧ Hid (Ch X w w')
theorem add_same {w w1 : World} {X : Nat → Prop} {T : Nat} {L : List Nm} {x : Nm} (h : TabAt w X T L) (hE : addE L x ≠ 0) (b : Below w.heap.size w w1) (n : Int) (hn : n = (addE L x : Nat)) : AddPost w X T L x (.returned (.tuple #[.int .i64 0, .int .i64 n])) w1 := by
  refine ⟨?_, Lib.hid ?_, Lib.hid (.of_below b)⟩
  · unfold addN; rw [if_neg hE, hn]; rfl
  · unfold addL; rw [if_neg hE]
    exact (h.after b).more (fun k hk => .inl hk) (grow_lt h.lt b.size)
set_option maxRecDepth 100000 in
set_option maxHeartbeats 1000000 in
theorem add_any {w : World} {X : Nat → Prop} {T : Nat} {L : List Nm} (h : TabAt w X T L) (x : Nm) (hx : x.length ≤ maxLen) :
    Calls Try.prog 10 #[.pointer (some ⟨T, 0, none⟩), .string ⟨x.toArray⟩] w (AddPost w X T L x) := by
  have H := Lib.hid h
  have hsz : (⟨x.toArray⟩ : ByteArray).size ≤ maxLen := by rw [Lib.size_eq]; exact hx
  rcases add_cases L x with ⟨h0, h1, h2, h3⟩ | ⟨h0, h1⟩ | ⟨h0, h1, h2⟩ | ⟨h0, h1, h2, h3⟩
  · obtain ⟨m, v, h⟩ := h
    obtain ⟨B, d, rfl, hnd, hrd⟩ := own_form h.row
    have HT := Lib.hid h
    have c : ((L.length : Nat) : Int) < 4096 := by omega
    have cc : decide ((4096 : Int) ≤ (L.length : Nat)) = false := decide_eq_false (by omega)
    clear h hnd hrd
    go_enter Try.func10, Try.ntmps10
    go_wp2_with (first
      | (go_at_call 29; refine (made_any H.out).mono ?_; rintro e w1 ⟨rfl, rfl⟩)
      | (go_at_call 30; refine (name_any _ _).mono ?_; rintro e w1 ⟨rfl, hb1⟩; change Below _ _ _ at hb1
         have B1 := Lib.hid hb1
         have T1 : Hid (Tab w1 X T m (.slice B L.length d) L) := Lib.hid (HT.out.keep (fun k hk => B1.out.block k (HT.out.lt k hk)) B1.out.size)
         have c0 : w1.cell? ⟨T, 0, none⟩ = some (.map (some m)) := T1.out.blk.cell 0
         have c1 : w1.cell? ⟨T, 1, none⟩ = some (.slice B L.length d) := T1.out.blk.cell 1
         have lk := T1.out.map.look_out ⟨x.toArray⟩ hsz h2
         clear hb1)
      | (go_at_call 31; refine (put_any T1.out x h0).mono ?_; rintro e w2 ⟨rfl, ht2, hc2⟩
         have T2 := Lib.hid ht2
         have C2 := Lib.hid hc2
         clear ht2 hc2))
    go_ret2
    refine ⟨?_, Lib.hid ?_, Lib.hid ((Ch.of_below B1.out).trans C2.out)⟩
    · unfold addN; rw [if_pos h0, h0]; rfl
    · unfold addL; rw [if_pos h0]
      refine T2.out.more (fun k hk => ?_) (grow_lt H.out.lt (Nat.le_trans B1.out.size C2.out.size))
      have hb := B1.out.size
      rcases hk with hk | hk
      · exact .inl hk
      · exact .inr ⟨by omega, hk.2⟩
  · go_enter Try.func10, Try.ntmps10
    go_wp2_with (first
      | (go_at_call 29; refine (made_any H.out).mono ?_; rintro e w1 ⟨rfl, rfl⟩)
      | (go_at_call 30; refine (name_any _ _).mono ?_; rintro e w1 ⟨rfl, hb1⟩; change Below _ _ _ at hb1
         have B1 := Lib.hid hb1
         clear hb1))
    go_ret2
    exact add_same H.out (by omega) B1.out 7 (by rw [h0]; rfl)
  · obtain ⟨m, v, h⟩ := h
    obtain ⟨B, d, rfl, hnd, hrd⟩ := own_form h.row
    have HT := Lib.hid h
    obtain ⟨i, hi⟩ := List.getElem?_of_mem h2
    have HI := Lib.hid hi
    clear h hnd hrd hi
    go_enter Try.func10, Try.ntmps10
    go_wp2_with (first
      | (go_at_call 29; refine (made_any H.out).mono ?_; rintro e w1 ⟨rfl, rfl⟩)
      | (go_at_call 30; refine (name_any _ _).mono ?_; rintro e w1 ⟨rfl, hb1⟩; change Below _ _ _ at hb1
         have B1 := Lib.hid hb1
         have T1 : Hid (Tab w1 X T m (.slice B L.length d) L) := Lib.hid (HT.out.keep (fun k hk => B1.out.block k (HT.out.lt k hk)) B1.out.size)
         have c0 : w1.cell? ⟨T, 0, none⟩ = some (.map (some m)) := T1.out.blk.cell 0
         have c1 : w1.cell? ⟨T, 1, none⟩ = some (.slice B L.length d) := T1.out.blk.cell 1
         have lk := T1.out.map.look_in ⟨x.toArray⟩ hsz i HI.out
         clear hb1))
    go_ret2
    exact add_same H.out (by omega) B1.out 6 (by rw [h0]; rfl)
  · obtain ⟨m, v, h⟩ := h
    obtain ⟨B, d, rfl, hnd, hrd⟩ := own_form h.row
    have HT := Lib.hid h
    have c : ¬ ((L.length : Nat) : Int) < 4096 := by omega
    have cc : decide ((4096 : Int) ≤ (L.length : Nat)) = true := decide_eq_true (by omega)
    clear h hnd hrd
    go_enter Try.func10, Try.ntmps10
    go_wp2_with (first
      | (go_at_call 29; refine (made_any H.out).mono ?_; rintro e w1 ⟨rfl, rfl⟩)
      | (go_at_call 30; refine (name_any _ _).mono ?_; rintro e w1 ⟨rfl, hb1⟩; change Below _ _ _ at hb1
         have B1 := Lib.hid hb1
         have T1 : Hid (Tab w1 X T m (.slice B L.length d) L) := Lib.hid (HT.out.keep (fun k hk => B1.out.block k (HT.out.lt k hk)) B1.out.size)
         have c0 : w1.cell? ⟨T, 0, none⟩ = some (.map (some m)) := T1.out.blk.cell 0
         have c1 : w1.cell? ⟨T, 1, none⟩ = some (.slice B L.length d) := T1.out.blk.cell 1
         have lk := T1.out.map.look_out ⟨x.toArray⟩ hsz h2
         clear hb1))
    go_ret2
    exact add_same H.out (by omega) B1.out 3 (by rw [h0]; rfl)
end Go.Proofs.Ytceamidobdfhbaa.It
