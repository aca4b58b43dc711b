/- Package intern's calls: what each answers of a table as it lies, and what it changes; proved by walking their texts, and by the library's contracts. Conditions: the table lies as TabAt says; a name has at most as many bytes as a string can have. -/
import Derived.Test.YtceamidobdfhbaaInAddsMath
import Derived.Test.YtceamidobdfhbaaShelf
import Derived.Carry
namespace Go.Proofs.Ytceamidobdfhbaa.It
open Go.ChangeShapes Go.WideShapes Go.ChangeAt Go.RowKit Go.Maps
open Lx Sh
set_option linter.unusedVariables false
set_option linter.unusedSimpArgs false

theorem new_none (w : World) : Calls Try.prog 9 #[.slice none 0 0] w fun e w' => ∃ T, e = .returned (.tuple #[.pointer (some ⟨T, 0, none⟩), .int .i64 0]) ∧ Hid (TabAt w' (Fresh w w') T []) ∧ Hid (Below w.heap.size w w') :=
  new_ok (n := 0) (l := []) (Lib.hid rfl) (by omega) Rd.none_ (by simp) rfl
/-- what was changed in blocks that are new is nothing to what was there -/
theorem below_ch {w w1 w2 : World} {X : Nat → Prop} (hb : Below w.heap.size w w1) (hx : ∀ k, X k → w.heap.size ≤ k) (hc : Ch X w1 w2) : Below w.heap.size w w2 := hb.trans (hc.below hb.size hx)
theorem grow_from {w w1 w2 : World} {X : Nat → Prop} (hb : Below w.heap.size w w1) (hx : ∀ k, X k → w.heap.size ≤ k) : ∀ k, Grow X w1 w2 k → w.heap.size ≤ k := by
  intro k hk
  rcases hk with hk | hk
  · exact hx k hk
  · exact Nat.le_trans hb.size hk.1
/-- two tables, apart from each other, in new memory -/
def Two (w wr : World) (Ta Tb : Nat) (La Lb : List Nm) : Prop := ∃ X Y, TabAt wr X Ta La ∧ TabAt wr Y Tb Lb ∧ (∀ k, X k → ¬ Y k) ∧ (∀ k, X k → w.heap.size ≤ k) ∧ ∀ k, Y k → w.heap.size ≤ k
theorem Two.swap {w wr : World} {Ta Tb : Nat} {La Lb : List Nm} (h : Two w wr Ta Tb La Lb) : Two w wr Tb Ta Lb La := by
  obtain ⟨X, Y, h1, h2, h3, h4, h5⟩ := h
  exact ⟨Y, X, h2, h1, fun k hk hx => h3 k hx hk, h5, h4⟩
theorem Two.after {w wr w2 : World} {Ta Tb : Nat} {La Lb : List Nm} (h : Two w wr Ta Tb La Lb) (hb : Below wr.heap.size wr w2) : Two w w2 Ta Tb La Lb := by
  obtain ⟨X, Y, h1, h2, h3, h4, h5⟩ := h
  exact ⟨X, Y, h1.after hb, h2.after hb, h3, h4, h5⟩
theorem Two.fst {w wr : World} {Ta Tb : Nat} {La Lb : List Nm} (h : Two w wr Ta Tb La Lb) : ∃ X, TabAt wr X Ta La := by
  obtain ⟨X, Y, h1, _⟩ := h; exact ⟨X, h1⟩
theorem two_made {w w1 w2 : World} {Ta Tb : Nat} {X : Nat → Prop} {La Lb : List Nm} (hb : Below w.heap.size w w1) (h1 : TabAt w1 X Ta La) (hx : ∀ k, X k → w.heap.size ≤ k) (h2 : TabAt w2 (Fresh w1 w2) Tb Lb) (h : Below w1.heap.size w1 w2) : Two w w2 Ta Tb La Lb := by
  refine ⟨X, Fresh w1 w2, h1.after h, h2, fun k hk hf => ?_, hx, fun k hk => Nat.le_trans hb.size hk.1⟩
  have := h1.lt k hk
  have := hf.1
  omega
/-- a name more in the first of two tables -/
theorem two_add {w wr : World} {Ta Tb : Nat} {La Lb : List Nm} (h : Two w wr Ta Tb La Lb) (hb : Below w.heap.size w wr) (x : Nm) (hx : x.length ≤ maxLen) :
    Calls Try.prog 10 #[.pointer (some ⟨Ta, 0, none⟩), .string ⟨x.toArray⟩] wr fun e w' => e = .returned (.tuple #[.int .i64 (addN La x : Nat), .int .i64 (addE La x : Nat)]) ∧ Hid (Two w w' Ta Tb (addL La x) Lb) ∧ Hid (Below w.heap.size w w') := by
  obtain ⟨X, Y, h1, h2, h3, h4, h5⟩ := h
  refine (add_any h1 x hx).mono ?_
  rintro e w' ⟨he, ht, hc⟩
  refine ⟨he, Lib.hid ⟨_, Y, ht.out, h2.far hc.out (fun k hy hk => h3 k hk hy), fun k hk hy => ?_, grow_from hb h4, h5⟩, Lib.hid (below_ch hb h4 hc.out)⟩
  rcases hk with hk | hk
  · exact h3 k hk hy
  · have := h2.lt k hy
    have := hk.1
    omega
theorem num_b {w : World} {X : Nat → Prop} {T : Nat} {L : List Nm} (h : TabAt w X T L) (x : Nm) (hx : x.length ≤ maxLen) :
    Calls Try.prog 11 #[.pointer (some ⟨T, 0, none⟩), .string ⟨x.toArray⟩] w fun e w' => ∃ i : Nat, e = .returned (.tuple #[.int .i64 (i : Nat), .bool (decide (x ∈ L))]) ∧ Hid (Below w.heap.size w w') := by
  have hs : (⟨x.toArray⟩ : ByteArray).size ≤ maxLen := by rw [Lib.size_eq]; exact hx
  by_cases hm : x ∈ L
  · obtain ⟨i, hi⟩ := List.getElem?_of_mem hm
    refine (num_in h ⟨x.toArray⟩ hs i hi).mono ?_
    rintro e w' ⟨rfl, hb⟩
    exact ⟨i, by rw [decide_eq_true hm], hb⟩
  · refine (num_out h ⟨x.toArray⟩ hs hm).mono ?_
    rintro e w' ⟨rfl, hb⟩
    exact ⟨0, by rw [decide_eq_false hm]; rfl, hb⟩
set_option maxRecDepth 100000 in
set_option maxHeartbeats 2000000 in
theorem order_in (w : World) (A : Option Addr) (n c : Nat) (l : List Nm) (hn : Hid (n = l.length)) (hN : n ≤ 150) (hr : Rd w (· < w.heap.size) A (cs strC l)) (hs : ∀ x ∈ l, x.length ≤ maxLen) (b : Int) (hb0 : -9223372036854775808 ≤ b) (hb1 : b ≤ 9223372036854775807) :
    Calls Try.prog 8 #[.slice A n c, .int .i64 b] w (BPost w true) := by
  have HR := Lib.hid hr
  have HS := Lib.hid hs
  have h150 : ¬ ((150 : Int) < (n : Int)) := by omega
  clear hr hs
  go_enter Try.func8, Try.ntmps8
  go_wp2_with (first
    | (go_at_call 13; refine (lives_any _).mono ?_; rintro e w1 ⟨rfl, hb1⟩; have B1 := Lib.hid hb1; clear hb1)
    | (go_at_call 27; refine (pick_any b ((n : Int) + 1) _ hb0 hb1 (by omega) (by omega)).mono ?_; rintro e w2 ⟨k, rfl, hk, rfl⟩)
    | (go_at_call 9; have _t := B3; refine (new_none _).mono ?_; rintro e w4 ⟨Tb, rfl, ht4, hb4⟩; have N4 : Hid (Two w1 w4 Ta Tb [] []) := Lib.hid (two_made hb3.out ht3.out (fun k hk => hk.1) ht4.out hb4.out); have B4 : Hid (Below w1.heap.size w1 w4) := Lib.hid (keep_trans hb3.out hb4.out); clear ht3 ht4 hb3 hb4 B3)
    | (go_at_call 9; refine (new_none _).mono ?_; rintro e w3 ⟨Ta, rfl, ht3, hb3⟩; have B3 := hb3))
  have hkn : k ≤ n := by have := hk.out; omega
  clear hk
  go_loopw [9] (fun v wr => ∃ i : Nat, v = .int .i64 (i : Int) ∧ i ≤ n ∧ Hid (Two w1 wr Ta Tb (adds [] (l.take i)) (adds [] ((rot k l).take i))) ∧ Hid (Below w1.heap.size w1 wr)) (fun v _ => n - (intOf v).toNat)
  case atStart => exact ⟨0, rfl, by omega, N4, B4⟩
  case round =>
    obtain ⟨i, rfl, hi, HT, HB⟩ := hrel
    by_cases hlt : i < n
    · have hi1 : (i : Int) < (n : Int) := by omega
      obtain ⟨x, hxi⟩ := at_in l hn hlt
      have hjn : (i + k) % n < n := Nat.mod_lt _ (by omega)
      obtain ⟨y, hyi⟩ := at_in l hn hjn
      have HXI := Lib.hid hxi
      have HYI := Lib.hid hyi
      have HBW := Lib.hid (B1.out.trans (HB.out.mono B1.out.size))
      obtain ⟨ad, e, hS, h0, -⟩ := rd_at 1 (fun _ => rfl) (by omega) (HR.out.below HBW.out) hxi
      obtain ⟨ad', e', -, g0, -⟩ := rd_at 1 (fun _ => rfl) (by omega) HR.out hyi
      subst e
      injection e' with e'
      subst e'
      rw [Nat.mul_one] at h0 g0
      have a0 : wr.cell? (ad.add i) = some (.string ⟨x.toArray⟩) := h0
      have HY0 : Hid (w.cell? (ad.add ((i + k) % n)) = some (.string ⟨y.toArray⟩)) := Lib.hid g0
      have hxl : x.length ≤ maxLen := HS.out x (List.mem_of_getElem? hxi)
      have hyl : y.length ≤ maxLen := HS.out y (List.mem_of_getElem? hyi)
      have CA := Lib.hid (two_add HT.out HB.out x hxl)
      have hJ : ((i : Int) + (k : Int)) % (n : Int) = (((i + k) % n : Nat) : Int) := by push_cast; rfl
      obtain ⟨J, eJ⟩ : ∃ J, J = (i + k) % n := ⟨_, rfl⟩
      rw [← eJ] at hJ hjn HYI HY0
      have hJn : (J : Int) < (n : Int) := by omega
      have hik : 0 ≤ (i : Int) + (k : Int) := by omega
      have EJ := Lib.hid eJ
      have HSB := Lib.hid hS
      clear h0 g0 hxi hyi eJ hS
      go_wp2_with (first
        | (go_at_call 10; have _t := T2; refine (two_add T2.out.swap HB5.out y hyl).mono ?_; rintro e w6 ⟨rfl, ht6, hb6⟩)
        | (go_at_call 10; (with_reducible refine CA.out.mono ?_); rintro e w5 ⟨rfl, ht5, hb5⟩
           have T2 := ht5
           have HB5 := hb5
           have b0 : w5.cell? (ad.add J) = some (.string ⟨y.toArray⟩) := (World.cell?_of_block ((B1.out.trans (hb5.out.mono B1.out.size)).block _ (by rw [block_of_add]; exact HSB.out))).trans HY0.out))
      refine ⟨⟨i + 1, by go_num, by omega, Lib.hid ?_, hb6⟩, by simp [intOf]; omega⟩
      have e1 := adds_take [] l i x HXI.out
      have hkl : k ≤ l.length := by rw [← hn.out]; exact hkn
      have hil : i < l.length := by rw [← hn.out]; exact hlt
      have e2 := adds_take [] (rot k l) i y (by rw [rot_at hkl hil, ← hn.out, ← EJ.out]; exact HYI.out)
      rw [e1, e2]
      exact ht6.out.swap
    · have hi1 : ¬ ((i : Int) < (n : Int)) := by omega
      have et : l.take i = l := List.take_of_length_le (by rw [← hn.out]; omega)
      have et2 : (rot k l).take i = rot k l := List.take_of_length_le (by rw [rot_len, ← hn.out]; omega)
      rw [et, et2] at HT
      have HP : Hid ((adds [] l).Perm (adds [] (rot k l))) := Lib.hid (adds_rot k (by rw [← hn.out]; exact hN))
      generalize adds [] l = La at HT HP
      generalize adds [] (rot k l) = Lb at HT HP
      have HBW := Lib.hid (B1.out.trans (HB.out.mono B1.out.size))
      clear et et2
      obtain ⟨wa, rfl⟩ : ∃ wa, wa = wr := ⟨wr, rfl⟩
      go_wp2
      go_loopw [10] (fun v wq => ∃ j : Nat, v = .int .i64 (j : Int) ∧ j ≤ n ∧ Hid (Below wa.heap.size wa wq)) (fun v _ => n - (intOf v).toNat)
      case atStart => exact ⟨0, rfl, by omega, Lib.hid (Below.refl _ _)⟩
      case round =>
        obtain ⟨j, rfl, hj, HB2⟩ := hrel
        by_cases hlt : j < n
        · have hj1 : (j : Int) < (n : Int) := by omega
          obtain ⟨x, hxi⟩ := at_in l hn hlt
          obtain ⟨ad, e, hS, h0, -⟩ := rd_at 1 (fun _ => rfl) (by omega) ((HR.out.below HBW.out).below (HB2.out.mono HBW.out.size)) hxi
          subst e
          rw [Nat.mul_one] at h0
          have a0 : wr.cell? (ad.add j) = some (.string ⟨x.toArray⟩) := h0
          have hxl : x.length ≤ maxLen := HS.out x (List.mem_of_getElem? hxi)
          have H2 := Lib.hid (HT.out.after HB2.out)
          obtain ⟨Xa, ha⟩ := H2.out.fst
          obtain ⟨Xb, hb⟩ := H2.out.swap.fst
          have hq : decide (x ∈ Lb) = decide (x ∈ La) := by simp [HP.out.mem_iff]
          have CA := Lib.hid (num_b ha x hxl)
          have CB : Hid (∀ W, Below wr.heap.size wr W → Calls Try.prog 11 #[.pointer (some ⟨Tb, 0, none⟩), .string ⟨x.toArray⟩] W fun e w' => ∃ i : Nat, e = .returned (.tuple #[.int .i64 (i : Nat), .bool (decide (x ∈ La))]) ∧ Hid (Below W.heap.size W w')) := Lib.hid (fun W hW => by rw [← hq]; exact num_b (hb.after hW) x hxl)
          generalize decide (x ∈ La) = q at CA CB
          have HS2 := Lib.hid hS
          clear ha hb hq h0 hxi hS
          cases q
          all_goals
            go_wp2_with (first
              | (go_at_call 11; have _t := b0; (with_reducible refine (CB.out _ hb5.out).mono ?_); rintro e w6 ⟨i6, rfl, hb6⟩)
              | (go_at_call 11; (with_reducible refine CA.out.mono ?_); rintro e w5 ⟨i5, rfl, hb5⟩
                 have b0 : w5.cell? (ad.add j) = some (.string ⟨x.toArray⟩) := (World.cell?_of_block (hb5.out.block _ (by rw [block_of_add]; have := HS2.out; have := HBW.out.size; have := HB2.out.size; omega))).trans a0))
            exact ⟨⟨j + 1, by go_num, by omega, Lib.hid (keep_trans HB2.out (keep_trans hb5.out hb6.out))⟩, by simp [intOf]; omega⟩
        · have hj1 : ¬ ((j : Int) < (n : Int)) := by omega
          have H2 := Lib.hid (HT.out.after HB2.out)
          obtain ⟨Xa, ha⟩ := H2.out.fst
          obtain ⟨Xb, hb⟩ := H2.out.swap.fst
          have HA := Lib.hid ha
          have HBB := Lib.hid hb
          have eL : La.length = Lb.length := HP.out.length_eq
          have eS : srt Lb = srt La := (srt_perm HP.out).symm
          have EL := Lib.hid eL
          have ES := Lib.hid eS
          have hfew : La.length ≤ 1000000 := by have := ha.good.2.2; omega
          clear ha hb eL eS
          go_wp2_with (first
            | (go_at_call 14; have _t := B5; refine (len_any (HBB.out.after B5.out)).mono ?_; rintro e w6 ⟨rfl, hb6⟩; rw [← EL.out]; have B6 := Lib.hid (keep_trans B5.out hb6.out); clear B5)
            | (go_at_call 14; refine (len_any HA.out).mono ?_; rintro e w5 ⟨rfl, B5⟩)
            | (go_at_call 24; have _t := B7; refine (sorted_as (HBB.out.after B7.out) ES.out).mono ?_; rintro e w8 ⟨A8, c8, rfl, ho8, hb8⟩; have B8 := Lib.hid (keep_trans B7.out hb8.out); clear B7)
            | (go_at_call 24; refine (sorted_as (HA.out.after B6.out) rfl).mono ?_; rintro e w7 ⟨A7, c7, rfl, ho7, hb7⟩; have B7 := Lib.hid (keep_trans B6.out hb7.out))
            | (go_at_call 22; refine (same_str _ _ _ _ c7 c8 (srt La) (Lib.hid rfl) (by rw [srt_len]; exact hfew) (row_read ho7.out hb8.out) (row_read ho8.out (Below.refl _ _))).mono ?_; rintro e w9 ⟨rfl, hb9⟩; have HB9 := Lib.hid hb9; clear hb9))
          go_ret
          exact ⟨rfl, keep_trans HBW.out (keep_trans HB2.out (keep_trans B8.out HB9.out))⟩
set_option maxRecDepth 100000 in
set_option maxHeartbeats 1000000 in
theorem order_all (w : World) (A : Option Addr) (n c : Nat) (l : List Nm) (hn : Hid (n = l.length)) (hr : Rd w (· < w.heap.size) A (cs strC l)) (hs : ∀ x ∈ l, x.length ≤ maxLen) (b : Int) (hb0 : -9223372036854775808 ≤ b) (hb1 : b ≤ 9223372036854775807) :
    Calls Try.prog 8 #[.slice A n c, .int .i64 b] w (BPost w true) := by
  by_cases hN : n ≤ 150
  · exact order_in w A n c l hn hN hr hs b hb0 hb1
  · have h150 : (150 : Int) < (n : Int) := by omega
    clear hr hs hN
    go_enter Try.func8, Try.ntmps8
    go_wp2_with (go_at_call 13; refine (lives_any _).mono ?_; rintro e w1 ⟨rfl, hb1⟩; have B1 := Lib.hid hb1; clear hb1)
    go_ret
    exact ⟨rfl, B1.out⟩
end Go.Proofs.Ytceamidobdfhbaa.It
