/- Words for package sheet's looks at sheets: cells of a row's thing; answers that are bools; ticks. No conditions. · Package sheet's each, at each kind of things and each question, and the questions themselves, proved by walking their texts. Conditions: at most a million things. · Package sheet's each, at each kind of things and each question, and the questions themselves, proved by walking their texts. Conditions: at most a million things. · The kit's Pick, proved by walking its text. -/
import Derived.Test.YtcmlmfcnbmpajaaGreatDoorSheetPut
import Derived.Test.YtcmlmfcnbmpajaaGreatDoorLexTwo
namespace Go.Proofs.YtcmlmfcnbmpajaaGreatDoor.Sh
open Go.ChangeShapes Go.WideShapes Go.ChangeAt Go.RowKit
open Lx
set_option linter.unusedVariables false

def BPost (w : World) (b : Bool) (e : Ending) (w' : World) : Prop := e = .returned (.bool b) ∧ Below w.heap.size w w'
theorem rd_at {α : Type} {f : α → List Value} {w : World} {S : Nat → Prop} {A : Option Addr} {l : List α} (size : Nat) (hf : ∀ a, (f a).length = size) (hs : 0 < size) (h : Rd w S A (cs f l)) {k : Nat} {a : α} (ha : l[k]? = some a) :
    ∃ ad, A = some ad ∧ S ad.block ∧ w.cell? (ad.add (k * size)) = (f a)[0]? ∧ ∀ j, j < size → w.cell? ⟨(ad.add (k * size)).block, (ad.add (k * size)).off + j, none⟩ = (f a)[j]? ∨ j = 0 := by
  have hk : k < l.length := (List.getElem?_eq_some_iff.1 ha).1
  obtain ⟨ad, e, hb, hc⟩ := h (by rw [cs_length f size hf]; exact Nat.mul_pos (by omega) hs)
  have g : ∀ j, j < size → w.cell? (ad.add (k * size + j)) = (f a)[j]? := fun j hj => by
    have e2 := cs_at f size hf l k a ha j hj
    obtain ⟨u, hu⟩ : ∃ u, (f a)[j]? = some u := ⟨_, List.getElem?_eq_getElem (by rw [hf]; exact hj)⟩
    rw [hu]; exact hc _ u (by rw [e2, hu])
  refine ⟨ad, e, hb, g 0 hs, fun j hj => ?_⟩
  by_cases h0 : j = 0
  · exact .inr h0
  · left
    have e3 : (⟨(ad.add (k * size)).block, (ad.add (k * size)).off + j, none⟩ : Addr) = (ad.add (k * size)).add j := by
      conv => rhs; unfold Addr.add
      rw [if_neg h0]; rfl
    rw [e3, add_of_add]; exact g j hj
def tickB (n : Int) : Bool := decide (0 ≤ n) && decide (n ≤ 1099511627776)
theorem check_any (n : Int) (w : World) : Calls Tryz.prog 125 #[.int .i64 n] w fun e w' => e = .returned (.int .i64 (if tickB n then 0 else 9)) ∧ w = w' := by
  by_cases h0 : n < 0
  · have hq : tickB n = false := by unfold tickB; simp; omega
    rw [hq]
    go_enter Tryz.func125, Tryz.ntmps125
    go_wp2
    go_ret
    exact ⟨rfl, rfl⟩
  · by_cases h1 : 1099511627776 < n
    · have hq : tickB n = false := by unfold tickB; simp; omega
      rw [hq]
      go_enter Tryz.func125, Tryz.ntmps125
      go_wp2
      go_ret
      exact ⟨rfl, rfl⟩
    · have hq : tickB n = true := by unfold tickB; simp; omega
      rw [hq]
      go_enter Tryz.func125, Tryz.ntmps125
      go_wp2
      go_ret
      exact ⟨rfl, rfl⟩
theorem tick1_any (n : Int) (w : World) : Calls Tryz.prog 124 #[.int .i64 n] w (BPost w (tickB n)) := by
  have H := Lib.hid (fun w' => check_any n w')
  cases hq : tickB n with
  | true =>
    rw [hq, if_pos rfl] at H
    go_enter Tryz.func124, Tryz.ntmps124
    go_wp2_with (go_at_call 125; refine (H.out _).mono ?_; rintro e w1 ⟨rfl, rfl⟩)
    go_ret
    exact ⟨rfl, Below.refl _ _⟩
  | false =>
    rw [hq, if_neg (by decide)] at H
    go_enter Tryz.func124, Tryz.ntmps124
    go_wp2_with (go_at_call 125; refine (H.out _).mono ?_; rintro e w1 ⟨rfl, rfl⟩)
    go_ret
    exact ⟨rfl, Below.refl _ _⟩
theorem nameL_any (s : List UInt8) (w : World) : Calls Tryz.prog 122 #[.string ⟨s.toArray⟩] w (BPost w (nameB s)) := by
  have h := Lx.name_any ⟨s.toArray⟩ w
  rw [show (⟨s.toArray⟩ : ByteArray).data.toList = s from by simp] at h
  exact h
theorem all_take {α : Type} {g : α → Bool} {l : List α} {k : Nat} {a : α} (ha : l[k]? = some a) (h : (l.take k).all g = true) (hg : g a = true) : (l.take (k + 1)).all g = true := by
  rw [List.take_add_one, ha]; simp [h, hg]
theorem all_no {α : Type} {g : α → Bool} {l : List α} {k : Nat} {a : α} (ha : l[k]? = some a) (hg : g a = false) : l.all g = false := by
  rw [List.all_eq_false]; exact ⟨a, List.mem_of_getElem? ha, by simp [hg]⟩
theorem all_full {α : Type} {g : α → Bool} {l : List α} {k : Nat} (h : (l.take k).all g = true) (hk : l.length ≤ k) : l.all g = true := by rwa [List.take_of_length_le hk] at h
theorem at_in {α : Type} (l : List α) {k n : Nat} (hn : Hid (n = l.length)) (hk : k < n) : ∃ t, l[k]? = some t := ⟨_, List.getElem?_eq_getElem (by rw [← hn.out]; exact hk)⟩
end Go.Proofs.YtcmlmfcnbmpajaaGreatDoor.Sh
namespace Go.Proofs.YtcmlmfcnbmpajaaGreatDoor.Sh
open Go.ChangeShapes Go.WideShapes Go.ChangeAt Go.RowKit
open Lx
set_option linter.unusedVariables false
set_option linter.unusedSimpArgs false

theorem ask_str_name (s : List UInt8) (w : World) : Calls Tryz.prog 122 #[.string ⟨s.toArray⟩] w (BPost w (nameB s)) := nameL_any s w
theorem ask_int_tick (n : Int) (w : World) : Calls Tryz.prog 124 #[.int .i64 n] w (BPost w (tickB n)) := tick1_any n w
set_option maxRecDepth 100000 in
set_option maxHeartbeats 1000000 in
theorem each_str_name (w : World) (A : Option Addr) (n c : Nat) (l : List (List UInt8)) (hn : Hid (n = l.length)) (hN : n ≤ 1000000) (hx : Rd w (· < w.heap.size) A (cs strC l)) :
    Calls Tryz.prog 121 #[.slice A n c, .func (.func 122) #[] #[]] w (BPost w (l.all nameB)) := by
  have HX := Lib.hid hx
  have HF := Lib.hid (fun (a : List UInt8) w' => ask_str_name a w')
  clear hx
  go_enter Tryz.func121, Tryz.ntmps121
  go_wp2
  go_loopw [9] (fun v wr => ∃ k : Nat, v = .int .i64 k ∧ k ≤ n ∧ Hid ((l.take k).all nameB = true) ∧ Hid (Below w.heap.size w wr)) (fun v _ => n - (intOf v).toNat)
  case atStart => exact ⟨0, rfl, by omega, Lib.hid rfl, Lib.hid (Below.refl _ _)⟩
  case round =>
    obtain ⟨k, rfl, hk, HP, HB⟩ := hrel
    by_cases hlt : k < n
    · obtain ⟨a, ha⟩ := at_in l hn hlt
      obtain ⟨ad, rfl, hS, h0, hj⟩ := rd_at 1 (fun _ => rfl) (by omega) (HX.out.below HB.out) ha
      have HA := Lib.hid ha
      have HG : ∀ w', Calls Tryz.prog 122 #[.string ⟨a.toArray⟩] w' (BPost w' (nameB a)) := fun w' => HF.out a w'
      cases hg : nameB a with
      | true =>
        obtain ⟨x0, hx0⟩ : ∃ x0, x0 = a := ⟨_, rfl⟩
        subst hx0
        rw [Nat.mul_one] at h0
        have a0 : wr.cell? (ad.add k) = some (.string ⟨x0.toArray⟩) := h0
        rw [hg] at HG
        have HGG := Lib.hid HG
        have HGO := Lib.hid hg
        have hi : (k : Int) < (n : Int) := by omega
        clear ha h0 hj HG hg
        go_wp2_with (go_at_call 122; refine (HGG.out _).mono ?_; rintro e w2 ⟨rfl, hb⟩; have HB2 := Lib.hid hb; clear hb)
        go_roundw
        case rel => exact ⟨k + 1, by go_num, by omega, Lib.hid (all_take HA.out HP.out HGO.out), Lib.hid (below_then HB.out HB2.out HB.out.size)⟩
        case measure => simp [intOf]; omega
      | false =>
        obtain ⟨x0, hx0⟩ : ∃ x0, x0 = a := ⟨_, rfl⟩
        subst hx0
        rw [Nat.mul_one] at h0
        have a0 : wr.cell? (ad.add k) = some (.string ⟨x0.toArray⟩) := h0
        rw [hg] at HG
        have HGG := Lib.hid HG
        have HNO := Lib.hid (all_no HA.out hg)
        have hi : (k : Int) < (n : Int) := by omega
        clear ha h0 hj HG hg
        rw [HNO.out]
        go_wp2_with (go_at_call 122; refine (HGG.out _).mono ?_; rintro e w2 ⟨rfl, hb⟩; have HB2 := Lib.hid hb; clear hb)
        go_ret
        exact ⟨rfl, below_then HB.out HB2.out HB.out.size⟩
    · have HAL := Lib.hid (all_full HP.out (by rw [← hn.out]; omega))
      go_wp2
      go_ret
      exact ⟨by rw [HAL.out]; rfl, HB.out⟩

set_option maxRecDepth 100000 in
set_option maxHeartbeats 1000000 in
theorem each_int_tick (w : World) (A : Option Addr) (n c : Nat) (l : List (Int)) (hn : Hid (n = l.length)) (hN : n ≤ 1000000) (hx : Rd w (· < w.heap.size) A (cs intC l)) :
    Calls Tryz.prog 123 #[.slice A n c, .func (.func 124) #[] #[]] w (BPost w (l.all tickB)) := by
  have HX := Lib.hid hx
  have HF := Lib.hid (fun (a : Int) w' => ask_int_tick a w')
  clear hx
  go_enter Tryz.func123, Tryz.ntmps123
  go_wp2
  go_loopw [9] (fun v wr => ∃ k : Nat, v = .int .i64 k ∧ k ≤ n ∧ Hid ((l.take k).all tickB = true) ∧ Hid (Below w.heap.size w wr)) (fun v _ => n - (intOf v).toNat)
  case atStart => exact ⟨0, rfl, by omega, Lib.hid rfl, Lib.hid (Below.refl _ _)⟩
  case round =>
    obtain ⟨k, rfl, hk, HP, HB⟩ := hrel
    by_cases hlt : k < n
    · obtain ⟨a, ha⟩ := at_in l hn hlt
      obtain ⟨ad, rfl, hS, h0, hj⟩ := rd_at 1 (fun _ => rfl) (by omega) (HX.out.below HB.out) ha
      have HA := Lib.hid ha
      have HG : ∀ w', Calls Tryz.prog 124 #[.int .i64 a] w' (BPost w' (tickB a)) := fun w' => HF.out a w'
      cases hg : tickB a with
      | true =>
        obtain ⟨x0, hx0⟩ : ∃ x0, x0 = a := ⟨_, rfl⟩
        subst hx0
        rw [Nat.mul_one] at h0
        have a0 : wr.cell? (ad.add k) = some (.int .i64 x0) := h0
        rw [hg] at HG
        have HGG := Lib.hid HG
        have HGO := Lib.hid hg
        have hi : (k : Int) < (n : Int) := by omega
        clear ha h0 hj HG hg
        go_wp2_with (go_at_call 124; refine (HGG.out _).mono ?_; rintro e w2 ⟨rfl, hb⟩; have HB2 := Lib.hid hb; clear hb)
        go_roundw
        case rel => exact ⟨k + 1, by go_num, by omega, Lib.hid (all_take HA.out HP.out HGO.out), Lib.hid (below_then HB.out HB2.out HB.out.size)⟩
        case measure => simp [intOf]; omega
      | false =>
        obtain ⟨x0, hx0⟩ : ∃ x0, x0 = a := ⟨_, rfl⟩
        subst hx0
        rw [Nat.mul_one] at h0
        have a0 : wr.cell? (ad.add k) = some (.int .i64 x0) := h0
        rw [hg] at HG
        have HGG := Lib.hid HG
        have HNO := Lib.hid (all_no HA.out hg)
        have hi : (k : Int) < (n : Int) := by omega
        clear ha h0 hj HG hg
        rw [HNO.out]
        go_wp2_with (go_at_call 124; refine (HGG.out _).mono ?_; rintro e w2 ⟨rfl, hb⟩; have HB2 := Lib.hid hb; clear hb)
        go_ret
        exact ⟨rfl, below_then HB.out HB2.out HB.out.size⟩
    · have HAL := Lib.hid (all_full HP.out (by rw [← hn.out]; omega))
      go_wp2
      go_ret
      exact ⟨by rw [HAL.out]; rfl, HB.out⟩

theorem names_any (w : World) (A : Option Addr) (n c : Nat) (l : List (List UInt8)) (hn : Hid (n = l.length)) (hN : n ≤ 1000000) (hx : Rd w (· < w.heap.size) A (cs strC l)) :
    Calls Tryz.prog 96 #[.slice A n c] w (BPost w (l.all nameB)) := by
  have H := Lib.hid (each_str_name w A n c l hn hN hx)
  clear hx
  go_enter Tryz.func96, Tryz.ntmps96
  go_wp2_with (go_at_call 121; refine H.out.mono ?_; rintro e w1 ⟨rfl, hb⟩)
  go_ret
  exact ⟨rfl, hb⟩
theorem ticks_any (w : World) (A : Option Addr) (n c : Nat) (l : List Int) (hn : Hid (n = l.length)) (hN : n ≤ 1000000) (hx : Rd w (· < w.heap.size) A (cs intC l)) :
    Calls Tryz.prog 106 #[.slice A n c] w (BPost w (l.all tickB)) := by
  have H := Lib.hid (each_int_tick w A n c l hn hN hx)
  clear hx
  go_enter Tryz.func106, Tryz.ntmps106
  go_wp2_with (go_at_call 123; refine H.out.mono ?_; rintro e w1 ⟨rfl, hb⟩)
  go_ret
  exact ⟨rfl, hb⟩
end Go.Proofs.YtcmlmfcnbmpajaaGreatDoor.Sh
namespace Go.Proofs.YtcmlmfcnbmpajaaGreatDoor.Sh
open Go.ChangeShapes Go.WideShapes Go.ChangeAt Go.RowKit
open Lx
set_option linter.unusedVariables false
set_option linter.unusedSimpArgs false

theorem lit_s (w : World) (n : Nat) (l : Array Value) (xs : List (List UInt8)) (hn : n = w.heap.size) (h : (cs strC xs).toArray = l) : Rd (w.alloc (.cells l 9)) (· < (w.alloc (.cells l 9)).heap.size) (some ⟨n, 0, none⟩) (cs strC xs) := lit_at _ _ _ _ _ hn h
theorem lit_i (w : World) (n : Nat) (l : Array Value) (xs : List Int) (hn : n = w.heap.size) (h : (cs intC xs).toArray = l) : Rd (w.alloc (.cells l 2)) (· < (w.alloc (.cells l 2)).heap.size) (some ⟨n, 0, none⟩) (cs intC xs) := lit_at _ _ _ _ _ hn h
def timesB (t : TimesM) : Bool := [t.frm, t.every, t.len].all tickB
set_option maxHeartbeats 1000000 in
theorem timed_any (t : TimesM) (w : World) : Calls Tryz.prog 109 #[tmV t] w (BPost w (timesB t)) := by
  obtain ⟨f, e, l⟩ := t
  have H := Lib.hid (fun w' A c (hx : Rd w' (· < w'.heap.size) A (cs intC [f, e, l])) => ticks_any w' A 3 c [f, e, l] (Lib.hid rfl) (by omega) hx)
  go_enter Tryz.func109, Tryz.ntmps109
  go_wp2_with (go_at_call 106; refine (H.out _ _ _ (lit_i _ _ _ _ (by simp) rfl)).mono ?_; rintro e' w1 ⟨rfl, hb⟩)
  go_ret
  exact ⟨by simp [timesB], keep_trans (two_box _ _ _) hb⟩

def path_name (p : PathM) : Bool := [p.name, p.a, p.b].all nameB
set_option maxHeartbeats 1000000 in
theorem ask_path_name (p : PathM) (w : World) : Calls Tryz.prog 98 #[paV p] w (BPost w (path_name p)) := by
  obtain ⟨x0, x1, x2, x3⟩ := p
  have H := Lib.hid (fun w' A c (hx : Rd w' (· < w'.heap.size) A (cs strC [x0, x1, x2])) => names_any w' A 3 c [x0, x1, x2] (Lib.hid rfl) (by omega) hx)
  go_enter Tryz.func98, Tryz.ntmps98
  go_wp2_with (go_at_call 96; refine (H.out _ _ _ (lit_s _ _ _ _ (by simp) rfl)).mono ?_; rintro e' w1 ⟨rfl, hb⟩)
  go_ret
  exact ⟨by simp [path_name], keep_trans (two_box _ _ _) hb⟩
set_option maxRecDepth 100000 in
set_option maxHeartbeats 1000000 in
theorem each_path_name (w : World) (A : Option Addr) (n c : Nat) (l : List (PathM)) (hn : Hid (n = l.length)) (hN : n ≤ 1000000) (hx : Rd w (· < w.heap.size) A (cs paC l)) :
    Calls Tryz.prog 97 #[.slice A n c, .func (.func 98) #[] #[]] w (BPost w (l.all path_name)) := by
  have HX := Lib.hid hx
  have HF := Lib.hid (fun (a : PathM) w' => ask_path_name a w')
  clear hx
  go_enter Tryz.func97, Tryz.ntmps97
  go_wp2
  go_loopw [9] (fun v wr => ∃ k : Nat, v = .int .i64 k ∧ k ≤ n ∧ Hid ((l.take k).all path_name = true) ∧ Hid (Below w.heap.size w wr)) (fun v _ => n - (intOf v).toNat)
  case atStart => exact ⟨0, rfl, by omega, Lib.hid rfl, Lib.hid (Below.refl _ _)⟩
  case round =>
    obtain ⟨k, rfl, hk, HP, HB⟩ := hrel
    by_cases hlt : k < n
    · obtain ⟨a, ha⟩ := at_in l hn hlt
      obtain ⟨ad, rfl, hS, h0, hj⟩ := rd_at 4 (fun _ => rfl) (by omega) (HX.out.below HB.out) ha
      have HA := Lib.hid ha
      have HG : ∀ w', Calls Tryz.prog 98 #[paV a] w' (BPost w' (path_name a)) := fun w' => HF.out a w'
      cases hg : path_name a with
      | true =>
        obtain ⟨x0, x1, x2, x3⟩ := a
        have a0 : wr.cell? (ad.add (k * 4)) = some (.string ⟨x0.toArray⟩) := h0
        have a1 : wr.cell? ⟨(ad.add (k * 4)).block, (ad.add (k * 4)).off + 1, none⟩ = some (.string ⟨x1.toArray⟩) := (hj 1 (by omega)).resolve_right (by omega)
        have a2 : wr.cell? ⟨(ad.add (k * 4)).block, (ad.add (k * 4)).off + 2, none⟩ = some (.string ⟨x2.toArray⟩) := (hj 2 (by omega)).resolve_right (by omega)
        have a3 : wr.cell? ⟨(ad.add (k * 4)).block, (ad.add (k * 4)).off + 3, none⟩ = some (.int .i64 x3) := (hj 3 (by omega)).resolve_right (by omega)
        rw [hg] at HG
        have HGG := Lib.hid HG
        have HGO := Lib.hid hg
        have hi : (k : Int) < (n : Int) := by omega
        clear ha h0 hj HG hg
        go_wp2_with (go_at_call 98; refine (HGG.out _).mono ?_; rintro e w2 ⟨rfl, hb⟩; have HB2 := Lib.hid hb; clear hb)
        go_roundw
        case rel => exact ⟨k + 1, by go_num, by omega, Lib.hid (all_take HA.out HP.out HGO.out), Lib.hid (below_then (HB.out.alloc HB.out.size _) HB2.out (Nat.le_trans HB.out.size (by simp)))⟩
        case measure => simp [intOf]; omega
      | false =>
        obtain ⟨x0, x1, x2, x3⟩ := a
        have a0 : wr.cell? (ad.add (k * 4)) = some (.string ⟨x0.toArray⟩) := h0
        have a1 : wr.cell? ⟨(ad.add (k * 4)).block, (ad.add (k * 4)).off + 1, none⟩ = some (.string ⟨x1.toArray⟩) := (hj 1 (by omega)).resolve_right (by omega)
        have a2 : wr.cell? ⟨(ad.add (k * 4)).block, (ad.add (k * 4)).off + 2, none⟩ = some (.string ⟨x2.toArray⟩) := (hj 2 (by omega)).resolve_right (by omega)
        have a3 : wr.cell? ⟨(ad.add (k * 4)).block, (ad.add (k * 4)).off + 3, none⟩ = some (.int .i64 x3) := (hj 3 (by omega)).resolve_right (by omega)
        rw [hg] at HG
        have HGG := Lib.hid HG
        have HNO := Lib.hid (all_no HA.out hg)
        have hi : (k : Int) < (n : Int) := by omega
        clear ha h0 hj HG hg
        rw [HNO.out]
        go_wp2_with (go_at_call 98; refine (HGG.out _).mono ?_; rintro e w2 ⟨rfl, hb⟩; have HB2 := Lib.hid hb; clear hb)
        go_ret
        exact ⟨rfl, below_then (HB.out.alloc HB.out.size _) HB2.out (Nat.le_trans HB.out.size (by simp))⟩
    · have HAL := Lib.hid (all_full HP.out (by rw [← hn.out]; omega))
      go_wp2
      go_ret
      exact ⟨by rw [HAL.out]; rfl, HB.out⟩

def door_name (p : DoorM) : Bool := [p.name, p.a, p.b].all nameB
set_option maxHeartbeats 1000000 in
theorem ask_door_name (p : DoorM) (w : World) : Calls Tryz.prog 100 #[doV p] w (BPost w (door_name p)) := by
  obtain ⟨x0, x1, x2, x3, ⟨x4, x5, x6⟩⟩ := p
  have H := Lib.hid (fun w' A c (hx : Rd w' (· < w'.heap.size) A (cs strC [x0, x1, x2])) => names_any w' A 3 c [x0, x1, x2] (Lib.hid rfl) (by omega) hx)
  go_enter Tryz.func100, Tryz.ntmps100
  go_wp2_with (go_at_call 96; refine (H.out _ _ _ (lit_s _ _ _ _ (by simp) rfl)).mono ?_; rintro e' w1 ⟨rfl, hb⟩)
  go_ret
  exact ⟨by simp [door_name], keep_trans (two_box _ _ _) hb⟩
set_option maxRecDepth 100000 in
set_option maxHeartbeats 1000000 in
theorem each_door_name (w : World) (A : Option Addr) (n c : Nat) (l : List (DoorM)) (hn : Hid (n = l.length)) (hN : n ≤ 1000000) (hx : Rd w (· < w.heap.size) A (cs doC l)) :
    Calls Tryz.prog 99 #[.slice A n c, .func (.func 100) #[] #[]] w (BPost w (l.all door_name)) := by
  have HX := Lib.hid hx
  have HF := Lib.hid (fun (a : DoorM) w' => ask_door_name a w')
  clear hx
  go_enter Tryz.func99, Tryz.ntmps99
  go_wp2
  go_loopw [9] (fun v wr => ∃ k : Nat, v = .int .i64 k ∧ k ≤ n ∧ Hid ((l.take k).all door_name = true) ∧ Hid (Below w.heap.size w wr)) (fun v _ => n - (intOf v).toNat)
  case atStart => exact ⟨0, rfl, by omega, Lib.hid rfl, Lib.hid (Below.refl _ _)⟩
  case round =>
    obtain ⟨k, rfl, hk, HP, HB⟩ := hrel
    by_cases hlt : k < n
    · obtain ⟨a, ha⟩ := at_in l hn hlt
      obtain ⟨ad, rfl, hS, h0, hj⟩ := rd_at 7 (fun _ => rfl) (by omega) (HX.out.below HB.out) ha
      have HA := Lib.hid ha
      have HG : ∀ w', Calls Tryz.prog 100 #[doV a] w' (BPost w' (door_name a)) := fun w' => HF.out a w'
      cases hg : door_name a with
      | true =>
        obtain ⟨x0, x1, x2, x3, ⟨x4, x5, x6⟩⟩ := a
        have a0 : wr.cell? (ad.add (k * 7)) = some (.string ⟨x0.toArray⟩) := h0
        have a1 : wr.cell? ⟨(ad.add (k * 7)).block, (ad.add (k * 7)).off + 1, none⟩ = some (.string ⟨x1.toArray⟩) := (hj 1 (by omega)).resolve_right (by omega)
        have a2 : wr.cell? ⟨(ad.add (k * 7)).block, (ad.add (k * 7)).off + 2, none⟩ = some (.string ⟨x2.toArray⟩) := (hj 2 (by omega)).resolve_right (by omega)
        have a3 : wr.cell? ⟨(ad.add (k * 7)).block, (ad.add (k * 7)).off + 3, none⟩ = some (.int .i64 x3) := (hj 3 (by omega)).resolve_right (by omega)
        have a4 : wr.cell? ⟨(ad.add (k * 7)).block, (ad.add (k * 7)).off + 4, none⟩ = some (.int .i64 x4) := (hj 4 (by omega)).resolve_right (by omega)
        have a5 : wr.cell? ⟨(ad.add (k * 7)).block, (ad.add (k * 7)).off + 5, none⟩ = some (.int .i64 x5) := (hj 5 (by omega)).resolve_right (by omega)
        have a6 : wr.cell? ⟨(ad.add (k * 7)).block, (ad.add (k * 7)).off + 6, none⟩ = some (.int .i64 x6) := (hj 6 (by omega)).resolve_right (by omega)
        rw [hg] at HG
        have HGG := Lib.hid HG
        have HGO := Lib.hid hg
        have hi : (k : Int) < (n : Int) := by omega
        clear ha h0 hj HG hg
        go_wp2_with (go_at_call 100; refine (HGG.out _).mono ?_; rintro e w2 ⟨rfl, hb⟩; have HB2 := Lib.hid hb; clear hb)
        go_roundw
        case rel => exact ⟨k + 1, by go_num, by omega, Lib.hid (all_take HA.out HP.out HGO.out), Lib.hid (below_then (HB.out.alloc HB.out.size _) HB2.out (Nat.le_trans HB.out.size (by simp)))⟩
        case measure => simp [intOf]; omega
      | false =>
        obtain ⟨x0, x1, x2, x3, ⟨x4, x5, x6⟩⟩ := a
        have a0 : wr.cell? (ad.add (k * 7)) = some (.string ⟨x0.toArray⟩) := h0
        have a1 : wr.cell? ⟨(ad.add (k * 7)).block, (ad.add (k * 7)).off + 1, none⟩ = some (.string ⟨x1.toArray⟩) := (hj 1 (by omega)).resolve_right (by omega)
        have a2 : wr.cell? ⟨(ad.add (k * 7)).block, (ad.add (k * 7)).off + 2, none⟩ = some (.string ⟨x2.toArray⟩) := (hj 2 (by omega)).resolve_right (by omega)
        have a3 : wr.cell? ⟨(ad.add (k * 7)).block, (ad.add (k * 7)).off + 3, none⟩ = some (.int .i64 x3) := (hj 3 (by omega)).resolve_right (by omega)
        have a4 : wr.cell? ⟨(ad.add (k * 7)).block, (ad.add (k * 7)).off + 4, none⟩ = some (.int .i64 x4) := (hj 4 (by omega)).resolve_right (by omega)
        have a5 : wr.cell? ⟨(ad.add (k * 7)).block, (ad.add (k * 7)).off + 5, none⟩ = some (.int .i64 x5) := (hj 5 (by omega)).resolve_right (by omega)
        have a6 : wr.cell? ⟨(ad.add (k * 7)).block, (ad.add (k * 7)).off + 6, none⟩ = some (.int .i64 x6) := (hj 6 (by omega)).resolve_right (by omega)
        rw [hg] at HG
        have HGG := Lib.hid HG
        have HNO := Lib.hid (all_no HA.out hg)
        have hi : (k : Int) < (n : Int) := by omega
        clear ha h0 hj HG hg
        rw [HNO.out]
        go_wp2_with (go_at_call 100; refine (HGG.out _).mono ?_; rintro e w2 ⟨rfl, hb⟩; have HB2 := Lib.hid hb; clear hb)
        go_ret
        exact ⟨rfl, below_then (HB.out.alloc HB.out.size _) HB2.out (Nat.le_trans HB.out.size (by simp))⟩
    · have HAL := Lib.hid (all_full HP.out (by rw [← hn.out]; omega))
      go_wp2
      go_ret
      exact ⟨by rw [HAL.out]; rfl, HB.out⟩

def trip_name (p : TripM) : Bool := [p.name, p.route].all nameB
set_option maxHeartbeats 1000000 in
theorem ask_trip_name (p : TripM) (w : World) : Calls Tryz.prog 103 #[trV p] w (BPost w (trip_name p)) := by
  obtain ⟨x0, x1, x2, x3, x4⟩ := p
  have H := Lib.hid (fun w' A c (hx : Rd w' (· < w'.heap.size) A (cs strC [x0, x1])) => names_any w' A 2 c [x0, x1] (Lib.hid rfl) (by omega) hx)
  go_enter Tryz.func103, Tryz.ntmps103
  go_wp2_with (go_at_call 96; refine (H.out _ _ _ (lit_s _ _ _ _ (by simp) rfl)).mono ?_; rintro e' w1 ⟨rfl, hb⟩)
  go_ret
  exact ⟨by simp [trip_name], keep_trans (two_box _ _ _) hb⟩
set_option maxRecDepth 100000 in
set_option maxHeartbeats 1000000 in
theorem each_trip_name (w : World) (A : Option Addr) (n c : Nat) (l : List (TripM)) (hn : Hid (n = l.length)) (hN : n ≤ 1000000) (hx : Rd w (· < w.heap.size) A (cs trC l)) :
    Calls Tryz.prog 102 #[.slice A n c, .func (.func 103) #[] #[]] w (BPost w (l.all trip_name)) := by
  have HX := Lib.hid hx
  have HF := Lib.hid (fun (a : TripM) w' => ask_trip_name a w')
  clear hx
  go_enter Tryz.func102, Tryz.ntmps102
  go_wp2
  go_loopw [9] (fun v wr => ∃ k : Nat, v = .int .i64 k ∧ k ≤ n ∧ Hid ((l.take k).all trip_name = true) ∧ Hid (Below w.heap.size w wr)) (fun v _ => n - (intOf v).toNat)
  case atStart => exact ⟨0, rfl, by omega, Lib.hid rfl, Lib.hid (Below.refl _ _)⟩
  case round =>
    obtain ⟨k, rfl, hk, HP, HB⟩ := hrel
    by_cases hlt : k < n
    · obtain ⟨a, ha⟩ := at_in l hn hlt
      obtain ⟨ad, rfl, hS, h0, hj⟩ := rd_at 5 (fun _ => rfl) (by omega) (HX.out.below HB.out) ha
      have HA := Lib.hid ha
      have HG : ∀ w', Calls Tryz.prog 103 #[trV a] w' (BPost w' (trip_name a)) := fun w' => HF.out a w'
      cases hg : trip_name a with
      | true =>
        obtain ⟨x0, x1, x2, x3, x4⟩ := a
        have a0 : wr.cell? (ad.add (k * 5)) = some (.string ⟨x0.toArray⟩) := h0
        have a1 : wr.cell? ⟨(ad.add (k * 5)).block, (ad.add (k * 5)).off + 1, none⟩ = some (.string ⟨x1.toArray⟩) := (hj 1 (by omega)).resolve_right (by omega)
        have a2 : wr.cell? ⟨(ad.add (k * 5)).block, (ad.add (k * 5)).off + 2, none⟩ = some (.int .i64 x2) := (hj 2 (by omega)).resolve_right (by omega)
        have a3 : wr.cell? ⟨(ad.add (k * 5)).block, (ad.add (k * 5)).off + 3, none⟩ = some (.int .i64 x3) := (hj 3 (by omega)).resolve_right (by omega)
        have a4 : wr.cell? ⟨(ad.add (k * 5)).block, (ad.add (k * 5)).off + 4, none⟩ = some (.int .i64 x4) := (hj 4 (by omega)).resolve_right (by omega)
        rw [hg] at HG
        have HGG := Lib.hid HG
        have HGO := Lib.hid hg
        have hi : (k : Int) < (n : Int) := by omega
        clear ha h0 hj HG hg
        go_wp2_with (go_at_call 103; refine (HGG.out _).mono ?_; rintro e w2 ⟨rfl, hb⟩; have HB2 := Lib.hid hb; clear hb)
        go_roundw
        case rel => exact ⟨k + 1, by go_num, by omega, Lib.hid (all_take HA.out HP.out HGO.out), Lib.hid (below_then (HB.out.alloc HB.out.size _) HB2.out (Nat.le_trans HB.out.size (by simp)))⟩
        case measure => simp [intOf]; omega
      | false =>
        obtain ⟨x0, x1, x2, x3, x4⟩ := a
        have a0 : wr.cell? (ad.add (k * 5)) = some (.string ⟨x0.toArray⟩) := h0
        have a1 : wr.cell? ⟨(ad.add (k * 5)).block, (ad.add (k * 5)).off + 1, none⟩ = some (.string ⟨x1.toArray⟩) := (hj 1 (by omega)).resolve_right (by omega)
        have a2 : wr.cell? ⟨(ad.add (k * 5)).block, (ad.add (k * 5)).off + 2, none⟩ = some (.int .i64 x2) := (hj 2 (by omega)).resolve_right (by omega)
        have a3 : wr.cell? ⟨(ad.add (k * 5)).block, (ad.add (k * 5)).off + 3, none⟩ = some (.int .i64 x3) := (hj 3 (by omega)).resolve_right (by omega)
        have a4 : wr.cell? ⟨(ad.add (k * 5)).block, (ad.add (k * 5)).off + 4, none⟩ = some (.int .i64 x4) := (hj 4 (by omega)).resolve_right (by omega)
        rw [hg] at HG
        have HGG := Lib.hid HG
        have HNO := Lib.hid (all_no HA.out hg)
        have hi : (k : Int) < (n : Int) := by omega
        clear ha h0 hj HG hg
        rw [HNO.out]
        go_wp2_with (go_at_call 103; refine (HGG.out _).mono ?_; rintro e w2 ⟨rfl, hb⟩; have HB2 := Lib.hid hb; clear hb)
        go_ret
        exact ⟨rfl, below_then (HB.out.alloc HB.out.size _) HB2.out (Nat.le_trans HB.out.size (by simp))⟩
    · have HAL := Lib.hid (all_full HP.out (by rw [← hn.out]; omega))
      go_wp2
      go_ret
      exact ⟨by rw [HAL.out]; rfl, HB.out⟩

def haz_name (p : HazM) : Bool := [p.name, p.at_].all nameB
set_option maxHeartbeats 1000000 in
theorem ask_haz_name (p : HazM) (w : World) : Calls Tryz.prog 105 #[haV p] w (BPost w (haz_name p)) := by
  obtain ⟨x0, x1, ⟨x2, x3, x4⟩⟩ := p
  have H := Lib.hid (fun w' A c (hx : Rd w' (· < w'.heap.size) A (cs strC [x0, x1])) => names_any w' A 2 c [x0, x1] (Lib.hid rfl) (by omega) hx)
  go_enter Tryz.func105, Tryz.ntmps105
  go_wp2_with (go_at_call 96; refine (H.out _ _ _ (lit_s _ _ _ _ (by simp) rfl)).mono ?_; rintro e' w1 ⟨rfl, hb⟩)
  go_ret
  exact ⟨by simp [haz_name], keep_trans (two_box _ _ _) hb⟩
set_option maxRecDepth 100000 in
set_option maxHeartbeats 1000000 in
theorem each_haz_name (w : World) (A : Option Addr) (n c : Nat) (l : List (HazM)) (hn : Hid (n = l.length)) (hN : n ≤ 1000000) (hx : Rd w (· < w.heap.size) A (cs haC l)) :
    Calls Tryz.prog 104 #[.slice A n c, .func (.func 105) #[] #[]] w (BPost w (l.all haz_name)) := by
  have HX := Lib.hid hx
  have HF := Lib.hid (fun (a : HazM) w' => ask_haz_name a w')
  clear hx
  go_enter Tryz.func104, Tryz.ntmps104
  go_wp2
  go_loopw [9] (fun v wr => ∃ k : Nat, v = .int .i64 k ∧ k ≤ n ∧ Hid ((l.take k).all haz_name = true) ∧ Hid (Below w.heap.size w wr)) (fun v _ => n - (intOf v).toNat)
  case atStart => exact ⟨0, rfl, by omega, Lib.hid rfl, Lib.hid (Below.refl _ _)⟩
  case round =>
    obtain ⟨k, rfl, hk, HP, HB⟩ := hrel
    by_cases hlt : k < n
    · obtain ⟨a, ha⟩ := at_in l hn hlt
      obtain ⟨ad, rfl, hS, h0, hj⟩ := rd_at 5 (fun _ => rfl) (by omega) (HX.out.below HB.out) ha
      have HA := Lib.hid ha
      have HG : ∀ w', Calls Tryz.prog 105 #[haV a] w' (BPost w' (haz_name a)) := fun w' => HF.out a w'
      cases hg : haz_name a with
      | true =>
        obtain ⟨x0, x1, ⟨x2, x3, x4⟩⟩ := a
        have a0 : wr.cell? (ad.add (k * 5)) = some (.string ⟨x0.toArray⟩) := h0
        have a1 : wr.cell? ⟨(ad.add (k * 5)).block, (ad.add (k * 5)).off + 1, none⟩ = some (.string ⟨x1.toArray⟩) := (hj 1 (by omega)).resolve_right (by omega)
        have a2 : wr.cell? ⟨(ad.add (k * 5)).block, (ad.add (k * 5)).off + 2, none⟩ = some (.int .i64 x2) := (hj 2 (by omega)).resolve_right (by omega)
        have a3 : wr.cell? ⟨(ad.add (k * 5)).block, (ad.add (k * 5)).off + 3, none⟩ = some (.int .i64 x3) := (hj 3 (by omega)).resolve_right (by omega)
        have a4 : wr.cell? ⟨(ad.add (k * 5)).block, (ad.add (k * 5)).off + 4, none⟩ = some (.int .i64 x4) := (hj 4 (by omega)).resolve_right (by omega)
        rw [hg] at HG
        have HGG := Lib.hid HG
        have HGO := Lib.hid hg
        have hi : (k : Int) < (n : Int) := by omega
        clear ha h0 hj HG hg
        go_wp2_with (go_at_call 105; refine (HGG.out _).mono ?_; rintro e w2 ⟨rfl, hb⟩; have HB2 := Lib.hid hb; clear hb)
        go_roundw
        case rel => exact ⟨k + 1, by go_num, by omega, Lib.hid (all_take HA.out HP.out HGO.out), Lib.hid (below_then (HB.out.alloc HB.out.size _) HB2.out (Nat.le_trans HB.out.size (by simp)))⟩
        case measure => simp [intOf]; omega
      | false =>
        obtain ⟨x0, x1, ⟨x2, x3, x4⟩⟩ := a
        have a0 : wr.cell? (ad.add (k * 5)) = some (.string ⟨x0.toArray⟩) := h0
        have a1 : wr.cell? ⟨(ad.add (k * 5)).block, (ad.add (k * 5)).off + 1, none⟩ = some (.string ⟨x1.toArray⟩) := (hj 1 (by omega)).resolve_right (by omega)
        have a2 : wr.cell? ⟨(ad.add (k * 5)).block, (ad.add (k * 5)).off + 2, none⟩ = some (.int .i64 x2) := (hj 2 (by omega)).resolve_right (by omega)
        have a3 : wr.cell? ⟨(ad.add (k * 5)).block, (ad.add (k * 5)).off + 3, none⟩ = some (.int .i64 x3) := (hj 3 (by omega)).resolve_right (by omega)
        have a4 : wr.cell? ⟨(ad.add (k * 5)).block, (ad.add (k * 5)).off + 4, none⟩ = some (.int .i64 x4) := (hj 4 (by omega)).resolve_right (by omega)
        rw [hg] at HG
        have HGG := Lib.hid HG
        have HNO := Lib.hid (all_no HA.out hg)
        have hi : (k : Int) < (n : Int) := by omega
        clear ha h0 hj HG hg
        rw [HNO.out]
        go_wp2_with (go_at_call 105; refine (HGG.out _).mono ?_; rintro e w2 ⟨rfl, hb⟩; have HB2 := Lib.hid hb; clear hb)
        go_ret
        exact ⟨rfl, below_then (HB.out.alloc HB.out.size _) HB2.out (Nat.le_trans HB.out.size (by simp))⟩
    · have HAL := Lib.hid (all_full HP.out (by rw [← hn.out]; omega))
      go_wp2
      go_ret
      exact ⟨by rw [HAL.out]; rfl, HB.out⟩

def path_tick (p : PathM) : Bool := [p.len].all tickB
set_option maxHeartbeats 1000000 in
theorem ask_path_tick (p : PathM) (w : World) : Calls Tryz.prog 107 #[paV p] w (BPost w (path_tick p)) := by
  obtain ⟨x0, x1, x2, x3⟩ := p
  have H := Lib.hid (fun w' A c (hx : Rd w' (· < w'.heap.size) A (cs intC [x3])) => ticks_any w' A 1 c [x3] (Lib.hid rfl) (by omega) hx)
  go_enter Tryz.func107, Tryz.ntmps107
  go_wp2_with (go_at_call 106; refine (H.out _ _ _ (lit_i _ _ _ _ (by simp) rfl)).mono ?_; rintro e' w1 ⟨rfl, hb⟩)
  go_ret
  exact ⟨by simp [path_tick], keep_trans (two_box _ _ _) hb⟩
set_option maxRecDepth 100000 in
set_option maxHeartbeats 1000000 in
theorem each_path_tick (w : World) (A : Option Addr) (n c : Nat) (l : List (PathM)) (hn : Hid (n = l.length)) (hN : n ≤ 1000000) (hx : Rd w (· < w.heap.size) A (cs paC l)) :
    Calls Tryz.prog 97 #[.slice A n c, .func (.func 107) #[] #[]] w (BPost w (l.all path_tick)) := by
  have HX := Lib.hid hx
  have HF := Lib.hid (fun (a : PathM) w' => ask_path_tick a w')
  clear hx
  go_enter Tryz.func97, Tryz.ntmps97
  go_wp2
  go_loopw [9] (fun v wr => ∃ k : Nat, v = .int .i64 k ∧ k ≤ n ∧ Hid ((l.take k).all path_tick = true) ∧ Hid (Below w.heap.size w wr)) (fun v _ => n - (intOf v).toNat)
  case atStart => exact ⟨0, rfl, by omega, Lib.hid rfl, Lib.hid (Below.refl _ _)⟩
  case round =>
    obtain ⟨k, rfl, hk, HP, HB⟩ := hrel
    by_cases hlt : k < n
    · obtain ⟨a, ha⟩ := at_in l hn hlt
      obtain ⟨ad, rfl, hS, h0, hj⟩ := rd_at 4 (fun _ => rfl) (by omega) (HX.out.below HB.out) ha
      have HA := Lib.hid ha
      have HG : ∀ w', Calls Tryz.prog 107 #[paV a] w' (BPost w' (path_tick a)) := fun w' => HF.out a w'
      cases hg : path_tick a with
      | true =>
        obtain ⟨x0, x1, x2, x3⟩ := a
        have a0 : wr.cell? (ad.add (k * 4)) = some (.string ⟨x0.toArray⟩) := h0
        have a1 : wr.cell? ⟨(ad.add (k * 4)).block, (ad.add (k * 4)).off + 1, none⟩ = some (.string ⟨x1.toArray⟩) := (hj 1 (by omega)).resolve_right (by omega)
        have a2 : wr.cell? ⟨(ad.add (k * 4)).block, (ad.add (k * 4)).off + 2, none⟩ = some (.string ⟨x2.toArray⟩) := (hj 2 (by omega)).resolve_right (by omega)
        have a3 : wr.cell? ⟨(ad.add (k * 4)).block, (ad.add (k * 4)).off + 3, none⟩ = some (.int .i64 x3) := (hj 3 (by omega)).resolve_right (by omega)
        rw [hg] at HG
        have HGG := Lib.hid HG
        have HGO := Lib.hid hg
        have hi : (k : Int) < (n : Int) := by omega
        clear ha h0 hj HG hg
        go_wp2_with (go_at_call 107; refine (HGG.out _).mono ?_; rintro e w2 ⟨rfl, hb⟩; have HB2 := Lib.hid hb; clear hb)
        go_roundw
        case rel => exact ⟨k + 1, by go_num, by omega, Lib.hid (all_take HA.out HP.out HGO.out), Lib.hid (below_then (HB.out.alloc HB.out.size _) HB2.out (Nat.le_trans HB.out.size (by simp)))⟩
        case measure => simp [intOf]; omega
      | false =>
        obtain ⟨x0, x1, x2, x3⟩ := a
        have a0 : wr.cell? (ad.add (k * 4)) = some (.string ⟨x0.toArray⟩) := h0
        have a1 : wr.cell? ⟨(ad.add (k * 4)).block, (ad.add (k * 4)).off + 1, none⟩ = some (.string ⟨x1.toArray⟩) := (hj 1 (by omega)).resolve_right (by omega)
        have a2 : wr.cell? ⟨(ad.add (k * 4)).block, (ad.add (k * 4)).off + 2, none⟩ = some (.string ⟨x2.toArray⟩) := (hj 2 (by omega)).resolve_right (by omega)
        have a3 : wr.cell? ⟨(ad.add (k * 4)).block, (ad.add (k * 4)).off + 3, none⟩ = some (.int .i64 x3) := (hj 3 (by omega)).resolve_right (by omega)
        rw [hg] at HG
        have HGG := Lib.hid HG
        have HNO := Lib.hid (all_no HA.out hg)
        have hi : (k : Int) < (n : Int) := by omega
        clear ha h0 hj HG hg
        rw [HNO.out]
        go_wp2_with (go_at_call 107; refine (HGG.out _).mono ?_; rintro e w2 ⟨rfl, hb⟩; have HB2 := Lib.hid hb; clear hb)
        go_ret
        exact ⟨rfl, below_then (HB.out.alloc HB.out.size _) HB2.out (Nat.le_trans HB.out.size (by simp))⟩
    · have HAL := Lib.hid (all_full HP.out (by rw [← hn.out]; omega))
      go_wp2
      go_ret
      exact ⟨by rw [HAL.out]; rfl, HB.out⟩

def trip_tick (p : TripM) : Bool := [p.frm, p.every, p.til].all tickB
set_option maxHeartbeats 1000000 in
theorem ask_trip_tick (p : TripM) (w : World) : Calls Tryz.prog 111 #[trV p] w (BPost w (trip_tick p)) := by
  obtain ⟨x0, x1, x2, x3, x4⟩ := p
  have H := Lib.hid (fun w' A c (hx : Rd w' (· < w'.heap.size) A (cs intC [x2, x3, x4])) => ticks_any w' A 3 c [x2, x3, x4] (Lib.hid rfl) (by omega) hx)
  go_enter Tryz.func111, Tryz.ntmps111
  go_wp2_with (go_at_call 106; refine (H.out _ _ _ (lit_i _ _ _ _ (by simp) rfl)).mono ?_; rintro e' w1 ⟨rfl, hb⟩)
  go_ret
  exact ⟨by simp [trip_tick], keep_trans (two_box _ _ _) hb⟩
set_option maxRecDepth 100000 in
set_option maxHeartbeats 1000000 in
theorem each_trip_tick (w : World) (A : Option Addr) (n c : Nat) (l : List (TripM)) (hn : Hid (n = l.length)) (hN : n ≤ 1000000) (hx : Rd w (· < w.heap.size) A (cs trC l)) :
    Calls Tryz.prog 102 #[.slice A n c, .func (.func 111) #[] #[]] w (BPost w (l.all trip_tick)) := by
  have HX := Lib.hid hx
  have HF := Lib.hid (fun (a : TripM) w' => ask_trip_tick a w')
  clear hx
  go_enter Tryz.func102, Tryz.ntmps102
  go_wp2
  go_loopw [9] (fun v wr => ∃ k : Nat, v = .int .i64 k ∧ k ≤ n ∧ Hid ((l.take k).all trip_tick = true) ∧ Hid (Below w.heap.size w wr)) (fun v _ => n - (intOf v).toNat)
  case atStart => exact ⟨0, rfl, by omega, Lib.hid rfl, Lib.hid (Below.refl _ _)⟩
  case round =>
    obtain ⟨k, rfl, hk, HP, HB⟩ := hrel
    by_cases hlt : k < n
    · obtain ⟨a, ha⟩ := at_in l hn hlt
      obtain ⟨ad, rfl, hS, h0, hj⟩ := rd_at 5 (fun _ => rfl) (by omega) (HX.out.below HB.out) ha
      have HA := Lib.hid ha
      have HG : ∀ w', Calls Tryz.prog 111 #[trV a] w' (BPost w' (trip_tick a)) := fun w' => HF.out a w'
      cases hg : trip_tick a with
      | true =>
        obtain ⟨x0, x1, x2, x3, x4⟩ := a
        have a0 : wr.cell? (ad.add (k * 5)) = some (.string ⟨x0.toArray⟩) := h0
        have a1 : wr.cell? ⟨(ad.add (k * 5)).block, (ad.add (k * 5)).off + 1, none⟩ = some (.string ⟨x1.toArray⟩) := (hj 1 (by omega)).resolve_right (by omega)
        have a2 : wr.cell? ⟨(ad.add (k * 5)).block, (ad.add (k * 5)).off + 2, none⟩ = some (.int .i64 x2) := (hj 2 (by omega)).resolve_right (by omega)
        have a3 : wr.cell? ⟨(ad.add (k * 5)).block, (ad.add (k * 5)).off + 3, none⟩ = some (.int .i64 x3) := (hj 3 (by omega)).resolve_right (by omega)
        have a4 : wr.cell? ⟨(ad.add (k * 5)).block, (ad.add (k * 5)).off + 4, none⟩ = some (.int .i64 x4) := (hj 4 (by omega)).resolve_right (by omega)
        rw [hg] at HG
        have HGG := Lib.hid HG
        have HGO := Lib.hid hg
        have hi : (k : Int) < (n : Int) := by omega
        clear ha h0 hj HG hg
        go_wp2_with (go_at_call 111; refine (HGG.out _).mono ?_; rintro e w2 ⟨rfl, hb⟩; have HB2 := Lib.hid hb; clear hb)
        go_roundw
        case rel => exact ⟨k + 1, by go_num, by omega, Lib.hid (all_take HA.out HP.out HGO.out), Lib.hid (below_then (HB.out.alloc HB.out.size _) HB2.out (Nat.le_trans HB.out.size (by simp)))⟩
        case measure => simp [intOf]; omega
      | false =>
        obtain ⟨x0, x1, x2, x3, x4⟩ := a
        have a0 : wr.cell? (ad.add (k * 5)) = some (.string ⟨x0.toArray⟩) := h0
        have a1 : wr.cell? ⟨(ad.add (k * 5)).block, (ad.add (k * 5)).off + 1, none⟩ = some (.string ⟨x1.toArray⟩) := (hj 1 (by omega)).resolve_right (by omega)
        have a2 : wr.cell? ⟨(ad.add (k * 5)).block, (ad.add (k * 5)).off + 2, none⟩ = some (.int .i64 x2) := (hj 2 (by omega)).resolve_right (by omega)
        have a3 : wr.cell? ⟨(ad.add (k * 5)).block, (ad.add (k * 5)).off + 3, none⟩ = some (.int .i64 x3) := (hj 3 (by omega)).resolve_right (by omega)
        have a4 : wr.cell? ⟨(ad.add (k * 5)).block, (ad.add (k * 5)).off + 4, none⟩ = some (.int .i64 x4) := (hj 4 (by omega)).resolve_right (by omega)
        rw [hg] at HG
        have HGG := Lib.hid HG
        have HNO := Lib.hid (all_no HA.out hg)
        have hi : (k : Int) < (n : Int) := by omega
        clear ha h0 hj HG hg
        rw [HNO.out]
        go_wp2_with (go_at_call 111; refine (HGG.out _).mono ?_; rintro e w2 ⟨rfl, hb⟩; have HB2 := Lib.hid hb; clear hb)
        go_ret
        exact ⟨rfl, below_then (HB.out.alloc HB.out.size _) HB2.out (Nat.le_trans HB.out.size (by simp))⟩
    · have HAL := Lib.hid (all_full HP.out (by rw [← hn.out]; omega))
      go_wp2
      go_ret
      exact ⟨by rw [HAL.out]; rfl, HB.out⟩

end Go.Proofs.YtcmlmfcnbmpajaaGreatDoor.Sh
namespace Go.Proofs.YtcmlmfcnbmpajaaGreatDoor.Sh
open Go.ChangeShapes Go.WideShapes Go.ChangeAt Go.RowKit
open Lx
set_option linter.unusedVariables false
set_option linter.unusedSimpArgs false
/-- what Pick tells, of a number above 0 -/
def PickPost (m : Int) (w : World) (e : Ending) (w' : World) : Prop := ∃ r : Nat, e = .returned (.int .i64 r) ∧ Hid ((r : Int) < m) ∧ w = w'
theorem pick_mk {m r : Int} {w : World} (h0 : 0 ≤ r) (h1 : r < m) : PickPost m w (.returned (.int .i64 r)) w :=
  ⟨r.toNat, by rw [Int.toNat_of_nonneg h0], by show _ < _; omega, rfl⟩
end Go.Proofs.YtcmlmfcnbmpajaaGreatDoor.Sh

