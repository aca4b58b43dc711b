/- Words for package sheet's looks at sheets: cells of a row's thing; answers that are bools; ticks. No conditions. · Package sheet's each, at each kind of things and each question, and the questions themselves, proved by walking their texts. Conditions: at most a million things. · Package sheet's each, at each kind of things and each question, and the questions themselves, proved by walking their texts. Conditions: at most a million things. · The kit's Pick, proved by walking its text. · Package sheet's each, at each kind of things and each question, and the questions themselves, proved by walking their texts. Conditions: at most a million things. · Package sheet's each, at each kind of things and each question, and the questions themselves, proved by walking their texts. Conditions: at most a million things. · Package sheet's each, at each kind of things and each question, and the questions themselves, proved by walking their texts. Conditions: at most a million things. -/
import Derived.Test.YtfefnfifeaihhaaGreatBaA
set_option linter.unusedVariables false
set_option linter.unusedSimpArgs false
set_option maxHeartbeats 1000000
set_option maxRecDepth 100000
namespace Go.Proofs.YtfefnfifeaihhaaGreat.Sh
open Go.ChangeShapes Go.WideShapes Go.ChangeAt Go.RowKit
open Lx
def BPost (w : World) (b : Bool) (e : Ending) (w' : World) : Prop := e = .returned (.bool b) ∧ Below w.heap.size w w'
theorem rd_at {α : Type} {f : α → List Value} {w : World} {S : Nat → Prop} {A : Option Addr} {l : List α} (size : Nat) (hf : ∀ a, (f a).length = size) (hs : 0 < size) (h : Rd w S A (cs f l)) {k : Nat} {a : α} (ha : l[k]? = some a) :
    ∃ ad, A = some ad ∧ S ad.block ∧ w.cell? (ad.add (k * size)) = (f a)[0]? ∧ ∀ j, j < size → w.cell? ⟨(ad.add (k * size)).block, (ad.add (k * size)).off + j, none⟩ = (f a)[j]? ∨ j = 0 := by
  have hk : k < l.length := (List.getElem?_eq_some_iff.1 ha).1
  obtain ⟨ad, e, hb, hc⟩ := h (by rw [cs_length f size hf]; exact Nat.mul_pos (by omega) hs)
  have g : ∀ j, j < size → w.cell? (ad.add (k * size + j)) = (f a)[j]? := fun j hj => by
    have e2 := cs_at f size hf l k a ha j hj
    obtain ⟨u, hu⟩ : ∃ u, (f a)[j]? = some u := ⟨_, List.getElem?_eq_getElem (by rw [hf]; exact hj)⟩
    rw [hu]; exact hc _ u (by rw [e2, hu])
  refine ⟨ad, e, hb, g 0 hs, fun j hj => ?_⟩
  by_cases h0 : j = 0
  · exact .inr h0
  · left
    have e3 : (⟨(ad.add (k * size)).block, (ad.add (k * size)).off + j, none⟩ : Addr) = (ad.add (k * size)).add j := by
      conv => rhs; unfold Addr.add
      rw [if_neg h0]; rfl
    rw [e3, add_of_add]; exact g j hj
def tickB (n : Int) : Bool := decide (0 ≤ n) && decide (n ≤ 1099511627776)
theorem check_any (n : Int) (w : World) : Calls Tryz.prog 70 #[.int .i64 n] w fun e w' => e = .returned (.int .i64 (if tickB n then 0 else 9)) ∧ w = w' := by
  by_cases h0 : n < 0
  · have hq : tickB n = false := by unfold tickB; simp; omega
    rw [hq]
    go_enter Tryz.func70, Tryz.ntmps70
    go_wp2
    go_ret
    exact ⟨rfl, rfl⟩
  · by_cases h1 : 1099511627776 < n
    · have hq : tickB n = false := by unfold tickB; simp; omega
      rw [hq]
      go_enter Tryz.func70, Tryz.ntmps70
      go_wp2
      go_ret
      exact ⟨rfl, rfl⟩
    · have hq : tickB n = true := by unfold tickB; simp; omega
      rw [hq]
      go_enter Tryz.func70, Tryz.ntmps70
      go_wp2
      go_ret
      exact ⟨rfl, rfl⟩
theorem tick1_any (n : Int) (w : World) : Calls Tryz.prog 190 #[.int .i64 n] w (BPost w (tickB n)) := by
  have H := HH (fun w' => check_any n w')
  cases hq : tickB n with
  | true =>
    rw [hq, if_pos rfl] at H
    go_enter Tryz.func190, Tryz.ntmps190
    go_wp2_with (go_at_call 70; refine (H.out _).mono ?_; rintro e w1 ⟨rfl, rfl⟩)
    go_ret
    exact ⟨rfl, Below.refl _ _⟩
  | false =>
    rw [hq, if_neg (by decide)] at H
    go_enter Tryz.func190, Tryz.ntmps190
    go_wp2_with (go_at_call 70; refine (H.out _).mono ?_; rintro e w1 ⟨rfl, rfl⟩)
    go_ret
    exact ⟨rfl, Below.refl _ _⟩
theorem nameL_any (s : List UInt8) (w : World) : Calls Tryz.prog 179 #[.string ⟨s.toArray⟩] w (BPost w (nameB s)) := by
  have h := Lx.name_any ⟨s.toArray⟩ w
  rw [show (⟨s.toArray⟩ : ByteArray).data.toList = s from by simp] at h
  exact h
theorem all_take {α : Type} {g : α → Bool} {l : List α} {k : Nat} {a : α} (ha : l[k]? = some a) (h : (l.take k).all g = true) (hg : g a = true) : (l.take (k + 1)).all g = true := by
  rw [List.take_add_one, ha]; simp [h, hg]
theorem all_no {α : Type} {g : α → Bool} {l : List α} {k : Nat} {a : α} (ha : l[k]? = some a) (hg : g a = false) : l.all g = false := by
  rw [List.all_eq_false]; exact ⟨a, List.mem_of_getElem? ha, by simp [hg]⟩
theorem all_full {α : Type} {g : α → Bool} {l : List α} {k : Nat} (h : (l.take k).all g = true) (hk : l.length ≤ k) : l.all g = true := by rwa [List.take_of_length_le hk] at h
theorem at_in {α : Type} (l : List α) {k n : Nat} (hn : Hid (n = l.length)) (hk : k < n) : ∃ t, l[k]? = some t := ⟨_, List.getElem?_eq_getElem (by rw [← hn.out]; exact hk)⟩
end Go.Proofs.YtfefnfifeaihhaaGreat.Sh
namespace Go.Proofs.YtfefnfifeaihhaaGreat.Sh
open Go.ChangeShapes Go.WideShapes Go.ChangeAt Go.RowKit
open Lx
theorem ask_str_name (s : List UInt8) (w : World) : Calls Tryz.prog 179 #[.string ⟨s.toArray⟩] w (BPost w (nameB s)) := nameL_any s w
theorem ask_int_tick (n : Int) (w : World) : Calls Tryz.prog 190 #[.int .i64 n] w (BPost w (tickB n)) := tick1_any n w
theorem each_str_name (w : World) (A : Option Addr) (n c : Nat) (l : List (List UInt8)) (hn : Hid (n = l.length)) (hN : n ≤ 1000000) (hx : Rd w (· < w.heap.size) A (cs strC l)) :
    Calls Tryz.prog 188 #[.slice A n c, .func (.func 179) #[] #[]] w (BPost w (l.all nameB)) := by
  have HX := HH hx
  have HF := HH (fun (a : List UInt8) w' => ask_str_name a w')
  clear hx
  go_enter Tryz.func188, Tryz.ntmps188
  go_wp2
  go_loopw [9] (fun v wr => ∃ k : Nat, v = .int .i64 k ∧ k ≤ n ∧ Hid ((l.take k).all nameB = true) ∧ Hid (Below w.heap.size w wr)) (fun v _ => n - (intOf v).toNat)
  case atStart => exact ⟨0, rfl, by omega, HH rfl, HH (Below.refl _ _)⟩
  case round =>
    obtain ⟨k, rfl, hk, HP, HB⟩ := hrel
    by_cases hlt : k < n
    · obtain ⟨a, ha⟩ := at_in l hn hlt
      obtain ⟨ad, rfl, hS, h0, hj⟩ := rd_at 1 (fun _ => rfl) (by omega) (HX.out.below HB.out) ha
      have HA := HH ha
      have HG : ∀ w', Calls Tryz.prog 179 #[.string ⟨a.toArray⟩] w' (BPost w' (nameB a)) := fun w' => HF.out a w'
      cases hg : nameB a with
      | true =>
        obtain ⟨x0, hx0⟩ : ∃ x0, x0 = a := ⟨_, rfl⟩
        subst hx0
        rw [Nat.mul_one] at h0
        have a0 : wr.cell? (ad.add k) = some (.string ⟨x0.toArray⟩) := h0
        rw [hg] at HG
        have HGG := HH HG
        have HGO := HH hg
        have hi : (k : Int) < (n : Int) := by omega
        clear ha h0 hj HG hg
        go_wp2_with (go_at_call 179; refine (HGG.out _).mono ?_; rintro e w2 ⟨rfl, hb⟩; have HB2 := HH hb; clear hb)
        go_roundw
        case rel => exact ⟨k + 1, by go_num, by omega, HH (all_take HA.out HP.out HGO.out), HH (below_then HB.out HB2.out HB.out.size)⟩
        case measure => simp [intOf]; omega
      | false =>
        obtain ⟨x0, hx0⟩ : ∃ x0, x0 = a := ⟨_, rfl⟩
        subst hx0
        rw [Nat.mul_one] at h0
        have a0 : wr.cell? (ad.add k) = some (.string ⟨x0.toArray⟩) := h0
        rw [hg] at HG
        have HGG := HH HG
        have HNO := HH (all_no HA.out hg)
        have hi : (k : Int) < (n : Int) := by omega
        clear ha h0 hj HG hg
        rw [HNO.out]
        go_wp2_with (go_at_call 179; refine (HGG.out _).mono ?_; rintro e w2 ⟨rfl, hb⟩; have HB2 := HH hb; clear hb)
        go_ret
        exact ⟨rfl, below_then HB.out HB2.out HB.out.size⟩
    · have HAL := HH (all_full HP.out (by rw [← hn.out]; omega))
      go_wp2
      go_ret
      exact ⟨by rw [HAL.out]; rfl, HB.out⟩
theorem each_int_tick (w : World) (A : Option Addr) (n c : Nat) (l : List (Int)) (hn : Hid (n = l.length)) (hN : n ≤ 1000000) (hx : Rd w (· < w.heap.size) A (cs intC l)) :
    Calls Tryz.prog 189 #[.slice A n c, .func (.func 190) #[] #[]] w (BPost w (l.all tickB)) := by
  have HX := HH hx
  have HF := HH (fun (a : Int) w' => ask_int_tick a w')
  clear hx
  go_enter Tryz.func189, Tryz.ntmps189
  go_wp2
  go_loopw [9] (fun v wr => ∃ k : Nat, v = .int .i64 k ∧ k ≤ n ∧ Hid ((l.take k).all tickB = true) ∧ Hid (Below w.heap.size w wr)) (fun v _ => n - (intOf v).toNat)
  case atStart => exact ⟨0, rfl, by omega, HH rfl, HH (Below.refl _ _)⟩
  case round =>
    obtain ⟨k, rfl, hk, HP, HB⟩ := hrel
    by_cases hlt : k < n
    · obtain ⟨a, ha⟩ := at_in l hn hlt
      obtain ⟨ad, rfl, hS, h0, hj⟩ := rd_at 1 (fun _ => rfl) (by omega) (HX.out.below HB.out) ha
      have HA := HH ha
      have HG : ∀ w', Calls Tryz.prog 190 #[.int .i64 a] w' (BPost w' (tickB a)) := fun w' => HF.out a w'
      cases hg : tickB a with
      | true =>
        obtain ⟨x0, hx0⟩ : ∃ x0, x0 = a := ⟨_, rfl⟩
        subst hx0
        rw [Nat.mul_one] at h0
        have a0 : wr.cell? (ad.add k) = some (.int .i64 x0) := h0
        rw [hg] at HG
        have HGG := HH HG
        have HGO := HH hg
        have hi : (k : Int) < (n : Int) := by omega
        clear ha h0 hj HG hg
        go_wp2_with (go_at_call 190; refine (HGG.out _).mono ?_; rintro e w2 ⟨rfl, hb⟩; have HB2 := HH hb; clear hb)
        go_roundw
        case rel => exact ⟨k + 1, by go_num, by omega, HH (all_take HA.out HP.out HGO.out), HH (below_then HB.out HB2.out HB.out.size)⟩
        case measure => simp [intOf]; omega
      | false =>
        obtain ⟨x0, hx0⟩ : ∃ x0, x0 = a := ⟨_, rfl⟩
        subst hx0
        rw [Nat.mul_one] at h0
        have a0 : wr.cell? (ad.add k) = some (.int .i64 x0) := h0
        rw [hg] at HG
        have HGG := HH HG
        have HNO := HH (all_no HA.out hg)
        have hi : (k : Int) < (n : Int) := by omega
        clear ha h0 hj HG hg
        rw [HNO.out]
        go_wp2_with (go_at_call 190; refine (HGG.out _).mono ?_; rintro e w2 ⟨rfl, hb⟩; have HB2 := HH hb; clear hb)
        go_ret
        exact ⟨rfl, below_then HB.out HB2.out HB.out.size⟩
    · have HAL := HH (all_full HP.out (by rw [← hn.out]; omega))
      go_wp2
      go_ret
      exact ⟨by rw [HAL.out]; rfl, HB.out⟩
theorem names_any (w : World) (A : Option Addr) (n c : Nat) (l : List (List UInt8)) (hn : Hid (n = l.length)) (hN : n ≤ 1000000) (hx : Rd w (· < w.heap.size) A (cs strC l)) :
    Calls Tryz.prog 161 #[.slice A n c] w (BPost w (l.all nameB)) := by
  have H := HH (each_str_name w A n c l hn hN hx)
  clear hx
  go_enter Tryz.func161, Tryz.ntmps161
  go_wp2_with (go_at_call 188; refine H.out.mono ?_; rintro e w1 ⟨rfl, hb⟩)
  go_ret
  exact ⟨rfl, hb⟩
theorem ticks_any (w : World) (A : Option Addr) (n c : Nat) (l : List Int) (hn : Hid (n = l.length)) (hN : n ≤ 1000000) (hx : Rd w (· < w.heap.size) A (cs intC l)) :
    Calls Tryz.prog 171 #[.slice A n c] w (BPost w (l.all tickB)) := by
  have H := HH (each_int_tick w A n c l hn hN hx)
  clear hx
  go_enter Tryz.func171, Tryz.ntmps171
  go_wp2_with (go_at_call 189; refine H.out.mono ?_; rintro e w1 ⟨rfl, hb⟩)
  go_ret
  exact ⟨rfl, hb⟩
end Go.Proofs.YtfefnfifeaihhaaGreat.Sh
namespace Go.Proofs.YtfefnfifeaihhaaGreat.Sh
open Go.ChangeShapes Go.WideShapes Go.ChangeAt Go.RowKit
open Lx
theorem lit_s (w : World) (n : Nat) (l : Array Value) (xs : List (List UInt8)) (hn : n = w.heap.size) (h : (cs strC xs).toArray = l) : Rd (w.alloc (.cells l 9)) (· < (w.alloc (.cells l 9)).heap.size) (some ⟨n, 0, none⟩) (cs strC xs) := lit_at _ _ _ _ _ hn h
theorem lit_i (w : World) (n : Nat) (l : Array Value) (xs : List Int) (hn : n = w.heap.size) (h : (cs intC xs).toArray = l) : Rd (w.alloc (.cells l 2)) (· < (w.alloc (.cells l 2)).heap.size) (some ⟨n, 0, none⟩) (cs intC xs) := lit_at _ _ _ _ _ hn h
def timesB (t : TimesM) : Bool := [t.frm, t.every, t.len].all tickB
theorem timed_any (t : TimesM) (w : World) : Calls Tryz.prog 174 #[tmV t] w (BPost w (timesB t)) := by
  obtain ⟨f, e, l⟩ := t
  have H := HH (fun w' A c (hx : Rd w' (· < w'.heap.size) A (cs intC [f, e, l])) => ticks_any w' A 3 c [f, e, l] (HH rfl) (by omega) hx)
  go_enter Tryz.func174, Tryz.ntmps174
  go_wp2_with (go_at_call 171; refine (H.out _ _ _ (lit_i _ _ _ _ (by simp) rfl)).mono ?_; rintro e' w1 ⟨rfl, hb⟩)
  go_ret
  exact ⟨by simp [timesB], keep_trans (two_box _ _ _) hb⟩
def path_name (p : PathM) : Bool := [p.name, p.a, p.b].all nameB
theorem ask_path_name (p : PathM) (w : World) : Calls Tryz.prog 163 #[paV p] w (BPost w (path_name p)) := by
  obtain ⟨x0, x1, x2, x3⟩ := p
  have H := HH (fun w' A c (hx : Rd w' (· < w'.heap.size) A (cs strC [x0, x1, x2])) => names_any w' A 3 c [x0, x1, x2] (HH rfl) (by omega) hx)
  go_enter Tryz.func163, Tryz.ntmps163
  go_wp2_with (go_at_call 161; refine (H.out _ _ _ (lit_s _ _ _ _ (by simp) rfl)).mono ?_; rintro e' w1 ⟨rfl, hb⟩)
  go_ret
  exact ⟨by simp [path_name], keep_trans (two_box _ _ _) hb⟩
theorem each_path_name (w : World) (A : Option Addr) (n c : Nat) (l : List (PathM)) (hn : Hid (n = l.length)) (hN : n ≤ 1000000) (hx : Rd w (· < w.heap.size) A (cs paC l)) :
    Calls Tryz.prog 162 #[.slice A n c, .func (.func 163) #[] #[]] w (BPost w (l.all path_name)) := by
  have HX := HH hx
  have HF := HH (fun (a : PathM) w' => ask_path_name a w')
  clear hx
  go_enter Tryz.func162, Tryz.ntmps162
  go_wp2
  go_loopw [9] (fun v wr => ∃ k : Nat, v = .int .i64 k ∧ k ≤ n ∧ Hid ((l.take k).all path_name = true) ∧ Hid (Below w.heap.size w wr)) (fun v _ => n - (intOf v).toNat)
  case atStart => exact ⟨0, rfl, by omega, HH rfl, HH (Below.refl _ _)⟩
  case round =>
    obtain ⟨k, rfl, hk, HP, HB⟩ := hrel
    by_cases hlt : k < n
    · obtain ⟨a, ha⟩ := at_in l hn hlt
      obtain ⟨ad, rfl, hS, h0, hj⟩ := rd_at 4 (fun _ => rfl) (by omega) (HX.out.below HB.out) ha
      have HA := HH ha
      have HG : ∀ w', Calls Tryz.prog 163 #[paV a] w' (BPost w' (path_name a)) := fun w' => HF.out a w'
      cases hg : path_name a with
      | true =>
        obtain ⟨x0, x1, x2, x3⟩ := a
        have a0 : wr.cell? (ad.add (k * 4)) = some (.string ⟨x0.toArray⟩) := h0
        have a1 : wr.cell? ⟨(ad.add (k * 4)).block, (ad.add (k * 4)).off + 1, none⟩ = some (.string ⟨x1.toArray⟩) := (hj 1 (by omega)).resolve_right (by omega)
        have a2 : wr.cell? ⟨(ad.add (k * 4)).block, (ad.add (k * 4)).off + 2, none⟩ = some (.string ⟨x2.toArray⟩) := (hj 2 (by omega)).resolve_right (by omega)
        have a3 : wr.cell? ⟨(ad.add (k * 4)).block, (ad.add (k * 4)).off + 3, none⟩ = some (.int .i64 x3) := (hj 3 (by omega)).resolve_right (by omega)
        rw [hg] at HG
        have HGG := HH HG
        have HGO := HH hg
        have hi : (k : Int) < (n : Int) := by omega
        clear ha h0 hj HG hg
        go_wp2_with (go_at_call 163; refine (HGG.out _).mono ?_; rintro e w2 ⟨rfl, hb⟩; have HB2 := HH hb; clear hb)
        go_roundw
        case rel => exact ⟨k + 1, by go_num, by omega, HH (all_take HA.out HP.out HGO.out), HH (below_then (HB.out.alloc HB.out.size _) HB2.out (Nat.le_trans HB.out.size (by simp)))⟩
        case measure => simp [intOf]; omega
      | false =>
        obtain ⟨x0, x1, x2, x3⟩ := a
        have a0 : wr.cell? (ad.add (k * 4)) = some (.string ⟨x0.toArray⟩) := h0
        have a1 : wr.cell? ⟨(ad.add (k * 4)).block, (ad.add (k * 4)).off + 1, none⟩ = some (.string ⟨x1.toArray⟩) := (hj 1 (by omega)).resolve_right (by omega)
        have a2 : wr.cell? ⟨(ad.add (k * 4)).block, (ad.add (k * 4)).off + 2, none⟩ = some (.string ⟨x2.toArray⟩) := (hj 2 (by omega)).resolve_right (by omega)
        have a3 : wr.cell? ⟨(ad.add (k * 4)).block, (ad.add (k * 4)).off + 3, none⟩ = some (.int .i64 x3) := (hj 3 (by omega)).resolve_right (by omega)
        rw [hg] at HG
        have HGG := HH HG
        have HNO := HH (all_no HA.out hg)
        have hi : (k : Int) < (n : Int) := by omega
        clear ha h0 hj HG hg
        rw [HNO.out]
        go_wp2_with (go_at_call 163; refine (HGG.out _).mono ?_; rintro e w2 ⟨rfl, hb⟩; have HB2 := HH hb; clear hb)
        go_ret
        exact ⟨rfl, below_then (HB.out.alloc HB.out.size _) HB2.out (Nat.le_trans HB.out.size (by simp))⟩
    · have HAL := HH (all_full HP.out (by rw [← hn.out]; omega))
      go_wp2
      go_ret
      exact ⟨by rw [HAL.out]; rfl, HB.out⟩
def door_name (p : DoorM) : Bool := [p.name, p.a, p.b].all nameB
theorem ask_door_name (p : DoorM) (w : World) : Calls Tryz.prog 165 #[doV p] w (BPost w (door_name p)) := by
  obtain ⟨x0, x1, x2, x3, ⟨x4, x5, x6⟩⟩ := p
  have H := HH (fun w' A c (hx : Rd w' (· < w'.heap.size) A (cs strC [x0, x1, x2])) => names_any w' A 3 c [x0, x1, x2] (HH rfl) (by omega) hx)
  go_enter Tryz.func165, Tryz.ntmps165
  go_wp2_with (go_at_call 161; refine (H.out _ _ _ (lit_s _ _ _ _ (by simp) rfl)).mono ?_; rintro e' w1 ⟨rfl, hb⟩)
  go_ret
  exact ⟨by simp [door_name], keep_trans (two_box _ _ _) hb⟩
theorem each_door_name (w : World) (A : Option Addr) (n c : Nat) (l : List (DoorM)) (hn : Hid (n = l.length)) (hN : n ≤ 1000000) (hx : Rd w (· < w.heap.size) A (cs doC l)) :
    Calls Tryz.prog 164 #[.slice A n c, .func (.func 165) #[] #[]] w (BPost w (l.all door_name)) := by
  have HX := HH hx
  have HF := HH (fun (a : DoorM) w' => ask_door_name a w')
  clear hx
  go_enter Tryz.func164, Tryz.ntmps164
  go_wp2
  go_loopw [9] (fun v wr => ∃ k : Nat, v = .int .i64 k ∧ k ≤ n ∧ Hid ((l.take k).all door_name = true) ∧ Hid (Below w.heap.size w wr)) (fun v _ => n - (intOf v).toNat)
  case atStart => exact ⟨0, rfl, by omega, HH rfl, HH (Below.refl _ _)⟩
  case round =>
    obtain ⟨k, rfl, hk, HP, HB⟩ := hrel
    by_cases hlt : k < n
    · obtain ⟨a, ha⟩ := at_in l hn hlt
      obtain ⟨ad, rfl, hS, h0, hj⟩ := rd_at 7 (fun _ => rfl) (by omega) (HX.out.below HB.out) ha
      have HA := HH ha
      have HG : ∀ w', Calls Tryz.prog 165 #[doV a] w' (BPost w' (door_name a)) := fun w' => HF.out a w'
      cases hg : door_name a with
      | true =>
        obtain ⟨x0, x1, x2, x3, ⟨x4, x5, x6⟩⟩ := a
        have a0 : wr.cell? (ad.add (k * 7)) = some (.string ⟨x0.toArray⟩) := h0
        have a1 : wr.cell? ⟨(ad.add (k * 7)).block, (ad.add (k * 7)).off + 1, none⟩ = some (.string ⟨x1.toArray⟩) := (hj 1 (by omega)).resolve_right (by omega)
        have a2 : wr.cell? ⟨(ad.add (k * 7)).block, (ad.add (k * 7)).off + 2, none⟩ = some (.string ⟨x2.toArray⟩) := (hj 2 (by omega)).resolve_right (by omega)
        have a3 : wr.cell? ⟨(ad.add (k * 7)).block, (ad.add (k * 7)).off + 3, none⟩ = some (.int .i64 x3) := (hj 3 (by omega)).resolve_right (by omega)
        have a4 : wr.cell? ⟨(ad.add (k * 7)).block, (ad.add (k * 7)).off + 4, none⟩ = some (.int .i64 x4) := (hj 4 (by omega)).resolve_right (by omega)
        have a5 : wr.cell? ⟨(ad.add (k * 7)).block, (ad.add (k * 7)).off + 5, none⟩ = some (.int .i64 x5) := (hj 5 (by omega)).resolve_right (by omega)
        have a6 : wr.cell? ⟨(ad.add (k * 7)).block, (ad.add (k * 7)).off + 6, none⟩ = some (.int .i64 x6) := (hj 6 (by omega)).resolve_right (by omega)
        rw [hg] at HG
        have HGG := HH HG
        have HGO := HH hg
        have hi : (k : Int) < (n : Int) := by omega
        clear ha h0 hj HG hg
        go_wp2_with (go_at_call 165; refine (HGG.out _).mono ?_; rintro e w2 ⟨rfl, hb⟩; have HB2 := HH hb; clear hb)
        go_roundw
        case rel => exact ⟨k + 1, by go_num, by omega, HH (all_take HA.out HP.out HGO.out), HH (below_then (HB.out.alloc HB.out.size _) HB2.out (Nat.le_trans HB.out.size (by simp)))⟩
        case measure => simp [intOf]; omega
      | false =>
        obtain ⟨x0, x1, x2, x3, ⟨x4, x5, x6⟩⟩ := a
        have a0 : wr.cell? (ad.add (k * 7)) = some (.string ⟨x0.toArray⟩) := h0
        have a1 : wr.cell? ⟨(ad.add (k * 7)).block, (ad.add (k * 7)).off + 1, none⟩ = some (.string ⟨x1.toArray⟩) := (hj 1 (by omega)).resolve_right (by omega)
        have a2 : wr.cell? ⟨(ad.add (k * 7)).block, (ad.add (k * 7)).off + 2, none⟩ = some (.string ⟨x2.toArray⟩) := (hj 2 (by omega)).resolve_right (by omega)
        have a3 : wr.cell? ⟨(ad.add (k * 7)).block, (ad.add (k * 7)).off + 3, none⟩ = some (.int .i64 x3) := (hj 3 (by omega)).resolve_right (by omega)
        have a4 : wr.cell? ⟨(ad.add (k * 7)).block, (ad.add (k * 7)).off + 4, none⟩ = some (.int .i64 x4) := (hj 4 (by omega)).resolve_right (by omega)
        have a5 : wr.cell? ⟨(ad.add (k * 7)).block, (ad.add (k * 7)).off + 5, none⟩ = some (.int .i64 x5) := (hj 5 (by omega)).resolve_right (by omega)
        have a6 : wr.cell? ⟨(ad.add (k * 7)).block, (ad.add (k * 7)).off + 6, none⟩ = some (.int .i64 x6) := (hj 6 (by omega)).resolve_right (by omega)
        rw [hg] at HG
        have HGG := HH HG
        have HNO := HH (all_no HA.out hg)
        have hi : (k : Int) < (n : Int) := by omega
        clear ha h0 hj HG hg
        rw [HNO.out]
        go_wp2_with (go_at_call 165; refine (HGG.out _).mono ?_; rintro e w2 ⟨rfl, hb⟩; have HB2 := HH hb; clear hb)
        go_ret
        exact ⟨rfl, below_then (HB.out.alloc HB.out.size _) HB2.out (Nat.le_trans HB.out.size (by simp))⟩
    · have HAL := HH (all_full HP.out (by rw [← hn.out]; omega))
      go_wp2
      go_ret
      exact ⟨by rw [HAL.out]; rfl, HB.out⟩
def trip_name (p : TripM) : Bool := [p.name, p.route].all nameB
theorem ask_trip_name (p : TripM) (w : World) : Calls Tryz.prog 168 #[trV p] w (BPost w (trip_name p)) := by
  obtain ⟨x0, x1, x2, x3, x4⟩ := p
  have H := HH (fun w' A c (hx : Rd w' (· < w'.heap.size) A (cs strC [x0, x1])) => names_any w' A 2 c [x0, x1] (HH rfl) (by omega) hx)
  go_enter Tryz.func168, Tryz.ntmps168
  go_wp2_with (go_at_call 161; refine (H.out _ _ _ (lit_s _ _ _ _ (by simp) rfl)).mono ?_; rintro e' w1 ⟨rfl, hb⟩)
  go_ret
  exact ⟨by simp [trip_name], keep_trans (two_box _ _ _) hb⟩
theorem each_trip_name (w : World) (A : Option Addr) (n c : Nat) (l : List (TripM)) (hn : Hid (n = l.length)) (hN : n ≤ 1000000) (hx : Rd w (· < w.heap.size) A (cs trC l)) :
    Calls Tryz.prog 167 #[.slice A n c, .func (.func 168) #[] #[]] w (BPost w (l.all trip_name)) := by
  have HX := HH hx
  have HF := HH (fun (a : TripM) w' => ask_trip_name a w')
  clear hx
  go_enter Tryz.func167, Tryz.ntmps167
  go_wp2
  go_loopw [9] (fun v wr => ∃ k : Nat, v = .int .i64 k ∧ k ≤ n ∧ Hid ((l.take k).all trip_name = true) ∧ Hid (Below w.heap.size w wr)) (fun v _ => n - (intOf v).toNat)
  case atStart => exact ⟨0, rfl, by omega, HH rfl, HH (Below.refl _ _)⟩
  case round =>
    obtain ⟨k, rfl, hk, HP, HB⟩ := hrel
    by_cases hlt : k < n
    · obtain ⟨a, ha⟩ := at_in l hn hlt
      obtain ⟨ad, rfl, hS, h0, hj⟩ := rd_at 5 (fun _ => rfl) (by omega) (HX.out.below HB.out) ha
      have HA := HH ha
      have HG : ∀ w', Calls Tryz.prog 168 #[trV a] w' (BPost w' (trip_name a)) := fun w' => HF.out a w'
      cases hg : trip_name a with
      | true =>
        obtain ⟨x0, x1, x2, x3, x4⟩ := a
        have a0 : wr.cell? (ad.add (k * 5)) = some (.string ⟨x0.toArray⟩) := h0
        have a1 : wr.cell? ⟨(ad.add (k * 5)).block, (ad.add (k * 5)).off + 1, none⟩ = some (.string ⟨x1.toArray⟩) := (hj 1 (by omega)).resolve_right (by omega)
        have a2 : wr.cell? ⟨(ad.add (k * 5)).block, (ad.add (k * 5)).off + 2, none⟩ = some (.int .i64 x2) := (hj 2 (by omega)).resolve_right (by omega)
        have a3 : wr.cell? ⟨(ad.add (k * 5)).block, (ad.add (k * 5)).off + 3, none⟩ = some (.int .i64 x3) := (hj 3 (by omega)).resolve_right (by omega)
        have a4 : wr.cell? ⟨(ad.add (k * 5)).block, (ad.add (k * 5)).off + 4, none⟩ = some (.int .i64 x4) := (hj 4 (by omega)).resolve_right (by omega)
        rw [hg] at HG
        have HGG := HH HG
        have HGO := HH hg
        have hi : (k : Int) < (n : Int) := by omega
        clear ha h0 hj HG hg
        go_wp2_with (go_at_call 168; refine (HGG.out _).mono ?_; rintro e w2 ⟨rfl, hb⟩; have HB2 := HH hb; clear hb)
        go_roundw
        case rel => exact ⟨k + 1, by go_num, by omega, HH (all_take HA.out HP.out HGO.out), HH (below_then (HB.out.alloc HB.out.size _) HB2.out (Nat.le_trans HB.out.size (by simp)))⟩
        case measure => simp [intOf]; omega
      | false =>
        obtain ⟨x0, x1, x2, x3, x4⟩ := a
        have a0 : wr.cell? (ad.add (k * 5)) = some (.string ⟨x0.toArray⟩) := h0
        have a1 : wr.cell? ⟨(ad.add (k * 5)).block, (ad.add (k * 5)).off + 1, none⟩ = some (.string ⟨x1.toArray⟩) := (hj 1 (by omega)).resolve_right (by omega)
        have a2 : wr.cell? ⟨(ad.add (k * 5)).block, (ad.add (k * 5)).off + 2, none⟩ = some (.int .i64 x2) := (hj 2 (by omega)).resolve_right (by omega)
        have a3 : wr.cell? ⟨(ad.add (k * 5)).block, (ad.add (k * 5)).off + 3, none⟩ = some (.int .i64 x3) := (hj 3 (by omega)).resolve_right (by omega)
        have a4 : wr.cell? ⟨(ad.add (k * 5)).block, (ad.add (k * 5)).off + 4, none⟩ = some (.int .i64 x4) := (hj 4 (by omega)).resolve_right (by omega)
        rw [hg] at HG
        have HGG := HH HG
        have HNO := HH (all_no HA.out hg)
        have hi : (k : Int) < (n : Int) := by omega
        clear ha h0 hj HG hg
        rw [HNO.out]
        go_wp2_with (go_at_call 168; refine (HGG.out _).mono ?_; rintro e w2 ⟨rfl, hb⟩; have HB2 := HH hb; clear hb)
        go_ret
        exact ⟨rfl, below_then (HB.out.alloc HB.out.size _) HB2.out (Nat.le_trans HB.out.size (by simp))⟩
    · have HAL := HH (all_full HP.out (by rw [← hn.out]; omega))
      go_wp2
      go_ret
      exact ⟨by rw [HAL.out]; rfl, HB.out⟩
def haz_name (p : HazM) : Bool := [p.name, p.at_].all nameB
theorem ask_haz_name (p : HazM) (w : World) : Calls Tryz.prog 170 #[haV p] w (BPost w (haz_name p)) := by
  obtain ⟨x0, x1, ⟨x2, x3, x4⟩⟩ := p
  have H := HH (fun w' A c (hx : Rd w' (· < w'.heap.size) A (cs strC [x0, x1])) => names_any w' A 2 c [x0, x1] (HH rfl) (by omega) hx)
  go_enter Tryz.func170, Tryz.ntmps170
  go_wp2_with (go_at_call 161; refine (H.out _ _ _ (lit_s _ _ _ _ (by simp) rfl)).mono ?_; rintro e' w1 ⟨rfl, hb⟩)
  go_ret
  exact ⟨by simp [haz_name], keep_trans (two_box _ _ _) hb⟩
theorem each_haz_name (w : World) (A : Option Addr) (n c : Nat) (l : List (HazM)) (hn : Hid (n = l.length)) (hN : n ≤ 1000000) (hx : Rd w (· < w.heap.size) A (cs haC l)) :
    Calls Tryz.prog 169 #[.slice A n c, .func (.func 170) #[] #[]] w (BPost w (l.all haz_name)) := by
  have HX := HH hx
  have HF := HH (fun (a : HazM) w' => ask_haz_name a w')
  clear hx
  go_enter Tryz.func169, Tryz.ntmps169
  go_wp2
  go_loopw [9] (fun v wr => ∃ k : Nat, v = .int .i64 k ∧ k ≤ n ∧ Hid ((l.take k).all haz_name = true) ∧ Hid (Below w.heap.size w wr)) (fun v _ => n - (intOf v).toNat)
  case atStart => exact ⟨0, rfl, by omega, HH rfl, HH (Below.refl _ _)⟩
  case round =>
    obtain ⟨k, rfl, hk, HP, HB⟩ := hrel
    by_cases hlt : k < n
    · obtain ⟨a, ha⟩ := at_in l hn hlt
      obtain ⟨ad, rfl, hS, h0, hj⟩ := rd_at 5 (fun _ => rfl) (by omega) (HX.out.below HB.out) ha
      have HA := HH ha
      have HG : ∀ w', Calls Tryz.prog 170 #[haV a] w' (BPost w' (haz_name a)) := fun w' => HF.out a w'
      cases hg : haz_name a with
      | true =>
        obtain ⟨x0, x1, ⟨x2, x3, x4⟩⟩ := a
        have a0 : wr.cell? (ad.add (k * 5)) = some (.string ⟨x0.toArray⟩) := h0
        have a1 : wr.cell? ⟨(ad.add (k * 5)).block, (ad.add (k * 5)).off + 1, none⟩ = some (.string ⟨x1.toArray⟩) := (hj 1 (by omega)).resolve_right (by omega)
        have a2 : wr.cell? ⟨(ad.add (k * 5)).block, (ad.add (k * 5)).off + 2, none⟩ = some (.int .i64 x2) := (hj 2 (by omega)).resolve_right (by omega)
        have a3 : wr.cell? ⟨(ad.add (k * 5)).block, (ad.add (k * 5)).off + 3, none⟩ = some (.int .i64 x3) := (hj 3 (by omega)).resolve_right (by omega)
        have a4 : wr.cell? ⟨(ad.add (k * 5)).block, (ad.add (k * 5)).off + 4, none⟩ = some (.int .i64 x4) := (hj 4 (by omega)).resolve_right (by omega)
        rw [hg] at HG
        have HGG := HH HG
        have HGO := HH hg
        have hi : (k : Int) < (n : Int) := by omega
        clear ha h0 hj HG hg
        go_wp2_with (go_at_call 170; refine (HGG.out _).mono ?_; rintro e w2 ⟨rfl, hb⟩; have HB2 := HH hb; clear hb)
        go_roundw
        case rel => exact ⟨k + 1, by go_num, by omega, HH (all_take HA.out HP.out HGO.out), HH (below_then (HB.out.alloc HB.out.size _) HB2.out (Nat.le_trans HB.out.size (by simp)))⟩
        case measure => simp [intOf]; omega
      | false =>
        obtain ⟨x0, x1, ⟨x2, x3, x4⟩⟩ := a
        have a0 : wr.cell? (ad.add (k * 5)) = some (.string ⟨x0.toArray⟩) := h0
        have a1 : wr.cell? ⟨(ad.add (k * 5)).block, (ad.add (k * 5)).off + 1, none⟩ = some (.string ⟨x1.toArray⟩) := (hj 1 (by omega)).resolve_right (by omega)
        have a2 : wr.cell? ⟨(ad.add (k * 5)).block, (ad.add (k * 5)).off + 2, none⟩ = some (.int .i64 x2) := (hj 2 (by omega)).resolve_right (by omega)
        have a3 : wr.cell? ⟨(ad.add (k * 5)).block, (ad.add (k * 5)).off + 3, none⟩ = some (.int .i64 x3) := (hj 3 (by omega)).resolve_right (by omega)
        have a4 : wr.cell? ⟨(ad.add (k * 5)).block, (ad.add (k * 5)).off + 4, none⟩ = some (.int .i64 x4) := (hj 4 (by omega)).resolve_right (by omega)
        rw [hg] at HG
        have HGG := HH HG
        have HNO := HH (all_no HA.out hg)
        have hi : (k : Int) < (n : Int) := by omega
        clear ha h0 hj HG hg
        rw [HNO.out]
        go_wp2_with (go_at_call 170; refine (HGG.out _).mono ?_; rintro e w2 ⟨rfl, hb⟩; have HB2 := HH hb; clear hb)
        go_ret
        exact ⟨rfl, below_then (HB.out.alloc HB.out.size _) HB2.out (Nat.le_trans HB.out.size (by simp))⟩
    · have HAL := HH (all_full HP.out (by rw [← hn.out]; omega))
      go_wp2
      go_ret
      exact ⟨by rw [HAL.out]; rfl, HB.out⟩
def path_tick (p : PathM) : Bool := [p.len].all tickB
theorem ask_path_tick (p : PathM) (w : World) : Calls Tryz.prog 172 #[paV p] w (BPost w (path_tick p)) := by
  obtain ⟨x0, x1, x2, x3⟩ := p
  have H := HH (fun w' A c (hx : Rd w' (· < w'.heap.size) A (cs intC [x3])) => ticks_any w' A 1 c [x3] (HH rfl) (by omega) hx)
  go_enter Tryz.func172, Tryz.ntmps172
  go_wp2_with (go_at_call 171; refine (H.out _ _ _ (lit_i _ _ _ _ (by simp) rfl)).mono ?_; rintro e' w1 ⟨rfl, hb⟩)
  go_ret
  exact ⟨by simp [path_tick], keep_trans (two_box _ _ _) hb⟩
theorem each_path_tick (w : World) (A : Option Addr) (n c : Nat) (l : List (PathM)) (hn : Hid (n = l.length)) (hN : n ≤ 1000000) (hx : Rd w (· < w.heap.size) A (cs paC l)) :
    Calls Tryz.prog 162 #[.slice A n c, .func (.func 172) #[] #[]] w (BPost w (l.all path_tick)) := by
  have HX := HH hx
  have HF := HH (fun (a : PathM) w' => ask_path_tick a w')
  clear hx
  go_enter Tryz.func162, Tryz.ntmps162
  go_wp2
  go_loopw [9] (fun v wr => ∃ k : Nat, v = .int .i64 k ∧ k ≤ n ∧ Hid ((l.take k).all path_tick = true) ∧ Hid (Below w.heap.size w wr)) (fun v _ => n - (intOf v).toNat)
  case atStart => exact ⟨0, rfl, by omega, HH rfl, HH (Below.refl _ _)⟩
  case round =>
    obtain ⟨k, rfl, hk, HP, HB⟩ := hrel
    by_cases hlt : k < n
    · obtain ⟨a, ha⟩ := at_in l hn hlt
      obtain ⟨ad, rfl, hS, h0, hj⟩ := rd_at 4 (fun _ => rfl) (by omega) (HX.out.below HB.out) ha
      have HA := HH ha
      have HG : ∀ w', Calls Tryz.prog 172 #[paV a] w' (BPost w' (path_tick a)) := fun w' => HF.out a w'
      cases hg : path_tick a with
      | true =>
        obtain ⟨x0, x1, x2, x3⟩ := a
        have a0 : wr.cell? (ad.add (k * 4)) = some (.string ⟨x0.toArray⟩) := h0
        have a1 : wr.cell? ⟨(ad.add (k * 4)).block, (ad.add (k * 4)).off + 1, none⟩ = some (.string ⟨x1.toArray⟩) := (hj 1 (by omega)).resolve_right (by omega)
        have a2 : wr.cell? ⟨(ad.add (k * 4)).block, (ad.add (k * 4)).off + 2, none⟩ = some (.string ⟨x2.toArray⟩) := (hj 2 (by omega)).resolve_right (by omega)
        have a3 : wr.cell? ⟨(ad.add (k * 4)).block, (ad.add (k * 4)).off + 3, none⟩ = some (.int .i64 x3) := (hj 3 (by omega)).resolve_right (by omega)
        rw [hg] at HG
        have HGG := HH HG
        have HGO := HH hg
        have hi : (k : Int) < (n : Int) := by omega
        clear ha h0 hj HG hg
        go_wp2_with (go_at_call 172; refine (HGG.out _).mono ?_; rintro e w2 ⟨rfl, hb⟩; have HB2 := HH hb; clear hb)
        go_roundw
        case rel => exact ⟨k + 1, by go_num, by omega, HH (all_take HA.out HP.out HGO.out), HH (below_then (HB.out.alloc HB.out.size _) HB2.out (Nat.le_trans HB.out.size (by simp)))⟩
        case measure => simp [intOf]; omega
      | false =>
        obtain ⟨x0, x1, x2, x3⟩ := a
        have a0 : wr.cell? (ad.add (k * 4)) = some (.string ⟨x0.toArray⟩) := h0
        have a1 : wr.cell? ⟨(ad.add (k * 4)).block, (ad.add (k * 4)).off + 1, none⟩ = some (.string ⟨x1.toArray⟩) := (hj 1 (by omega)).resolve_right (by omega)
        have a2 : wr.cell? ⟨(ad.add (k * 4)).block, (ad.add (k * 4)).off + 2, none⟩ = some (.string ⟨x2.toArray⟩) := (hj 2 (by omega)).resolve_right (by omega)
        have a3 : wr.cell? ⟨(ad.add (k * 4)).block, (ad.add (k * 4)).off + 3, none⟩ = some (.int .i64 x3) := (hj 3 (by omega)).resolve_right (by omega)
        rw [hg] at HG
        have HGG := HH HG
        have HNO := HH (all_no HA.out hg)
        have hi : (k : Int) < (n : Int) := by omega
        clear ha h0 hj HG hg
        rw [HNO.out]
        go_wp2_with (go_at_call 172; refine (HGG.out _).mono ?_; rintro e w2 ⟨rfl, hb⟩; have HB2 := HH hb; clear hb)
        go_ret
        exact ⟨rfl, below_then (HB.out.alloc HB.out.size _) HB2.out (Nat.le_trans HB.out.size (by simp))⟩
    · have HAL := HH (all_full HP.out (by rw [← hn.out]; omega))
      go_wp2
      go_ret
      exact ⟨by rw [HAL.out]; rfl, HB.out⟩
def trip_tick (p : TripM) : Bool := [p.frm, p.every, p.til].all tickB
theorem ask_trip_tick (p : TripM) (w : World) : Calls Tryz.prog 176 #[trV p] w (BPost w (trip_tick p)) := by
  obtain ⟨x0, x1, x2, x3, x4⟩ := p
  have H := HH (fun w' A c (hx : Rd w' (· < w'.heap.size) A (cs intC [x2, x3, x4])) => ticks_any w' A 3 c [x2, x3, x4] (HH rfl) (by omega) hx)
  go_enter Tryz.func176, Tryz.ntmps176
  go_wp2_with (go_at_call 171; refine (H.out _ _ _ (lit_i _ _ _ _ (by simp) rfl)).mono ?_; rintro e' w1 ⟨rfl, hb⟩)
  go_ret
  exact ⟨by simp [trip_tick], keep_trans (two_box _ _ _) hb⟩
theorem each_trip_tick (w : World) (A : Option Addr) (n c : Nat) (l : List (TripM)) (hn : Hid (n = l.length)) (hN : n ≤ 1000000) (hx : Rd w (· < w.heap.size) A (cs trC l)) :
    Calls Tryz.prog 167 #[.slice A n c, .func (.func 176) #[] #[]] w (BPost w (l.all trip_tick)) := by
  have HX := HH hx
  have HF := HH (fun (a : TripM) w' => ask_trip_tick a w')
  clear hx
  go_enter Tryz.func167, Tryz.ntmps167
  go_wp2
  go_loopw [9] (fun v wr => ∃ k : Nat, v = .int .i64 k ∧ k ≤ n ∧ Hid ((l.take k).all trip_tick = true) ∧ Hid (Below w.heap.size w wr)) (fun v _ => n - (intOf v).toNat)
  case atStart => exact ⟨0, rfl, by omega, HH rfl, HH (Below.refl _ _)⟩
  case round =>
    obtain ⟨k, rfl, hk, HP, HB⟩ := hrel
    by_cases hlt : k < n
    · obtain ⟨a, ha⟩ := at_in l hn hlt
      obtain ⟨ad, rfl, hS, h0, hj⟩ := rd_at 5 (fun _ => rfl) (by omega) (HX.out.below HB.out) ha
      have HA := HH ha
      have HG : ∀ w', Calls Tryz.prog 176 #[trV a] w' (BPost w' (trip_tick a)) := fun w' => HF.out a w'
      cases hg : trip_tick a with
      | true =>
        obtain ⟨x0, x1, x2, x3, x4⟩ := a
        have a0 : wr.cell? (ad.add (k * 5)) = some (.string ⟨x0.toArray⟩) := h0
        have a1 : wr.cell? ⟨(ad.add (k * 5)).block, (ad.add (k * 5)).off + 1, none⟩ = some (.string ⟨x1.toArray⟩) := (hj 1 (by omega)).resolve_right (by omega)
        have a2 : wr.cell? ⟨(ad.add (k * 5)).block, (ad.add (k * 5)).off + 2, none⟩ = some (.int .i64 x2) := (hj 2 (by omega)).resolve_right (by omega)
        have a3 : wr.cell? ⟨(ad.add (k * 5)).block, (ad.add (k * 5)).off + 3, none⟩ = some (.int .i64 x3) := (hj 3 (by omega)).resolve_right (by omega)
        have a4 : wr.cell? ⟨(ad.add (k * 5)).block, (ad.add (k * 5)).off + 4, none⟩ = some (.int .i64 x4) := (hj 4 (by omega)).resolve_right (by omega)
        rw [hg] at HG
        have HGG := HH HG
        have HGO := HH hg
        have hi : (k : Int) < (n : Int) := by omega
        clear ha h0 hj HG hg
        go_wp2_with (go_at_call 176; refine (HGG.out _).mono ?_; rintro e w2 ⟨rfl, hb⟩; have HB2 := HH hb; clear hb)
        go_roundw
        case rel => exact ⟨k + 1, by go_num, by omega, HH (all_take HA.out HP.out HGO.out), HH (below_then (HB.out.alloc HB.out.size _) HB2.out (Nat.le_trans HB.out.size (by simp)))⟩
        case measure => simp [intOf]; omega
      | false =>
        obtain ⟨x0, x1, x2, x3, x4⟩ := a
        have a0 : wr.cell? (ad.add (k * 5)) = some (.string ⟨x0.toArray⟩) := h0
        have a1 : wr.cell? ⟨(ad.add (k * 5)).block, (ad.add (k * 5)).off + 1, none⟩ = some (.string ⟨x1.toArray⟩) := (hj 1 (by omega)).resolve_right (by omega)
        have a2 : wr.cell? ⟨(ad.add (k * 5)).block, (ad.add (k * 5)).off + 2, none⟩ = some (.int .i64 x2) := (hj 2 (by omega)).resolve_right (by omega)
        have a3 : wr.cell? ⟨(ad.add (k * 5)).block, (ad.add (k * 5)).off + 3, none⟩ = some (.int .i64 x3) := (hj 3 (by omega)).resolve_right (by omega)
        have a4 : wr.cell? ⟨(ad.add (k * 5)).block, (ad.add (k * 5)).off + 4, none⟩ = some (.int .i64 x4) := (hj 4 (by omega)).resolve_right (by omega)
        rw [hg] at HG
        have HGG := HH HG
        have HNO := HH (all_no HA.out hg)
        have hi : (k : Int) < (n : Int) := by omega
        clear ha h0 hj HG hg
        rw [HNO.out]
        go_wp2_with (go_at_call 176; refine (HGG.out _).mono ?_; rintro e w2 ⟨rfl, hb⟩; have HB2 := HH hb; clear hb)
        go_ret
        exact ⟨rfl, below_then (HB.out.alloc HB.out.size _) HB2.out (Nat.le_trans HB.out.size (by simp))⟩
    · have HAL := HH (all_full HP.out (by rw [← hn.out]; omega))
      go_wp2
      go_ret
      exact ⟨by rw [HAL.out]; rfl, HB.out⟩
end Go.Proofs.YtfefnfifeaihhaaGreat.Sh
namespace Go.Proofs.YtfefnfifeaihhaaGreat.Sh
open Go.ChangeShapes Go.WideShapes Go.ChangeAt Go.RowKit
open Lx
end Go.Proofs.YtfefnfifeaihhaaGreat.Sh
namespace Go.Proofs.YtfefnfifeaihhaaGreat.Sh
open Go.ChangeShapes Go.WideShapes Go.ChangeAt Go.RowKit
open Lx
def door_tick (p : DoorM) : Bool := tickB p.len && timesB p.times
def haz_tick (p : HazM) : Bool := timesB p.times
theorem ask_haz_tick (p : HazM) (w : World) : Calls Tryz.prog 177 #[haV p] w (BPost w (haz_tick p)) := by
  obtain ⟨x0, x1, ⟨x2, x3, x4⟩⟩ := p
  have H : Hid (∀ w', Calls Tryz.prog 174 #[.agg #[.int .i64 x2, .int .i64 x3, .int .i64 x4]] w' (BPost w' (haz_tick ⟨x0, x1, ⟨x2, x3, x4⟩⟩))) := HH (fun w' => timed_any ⟨x2, x3, x4⟩ w')
  go_enter Tryz.func177, Tryz.ntmps177
  go_wp2_with (go_at_call 174; refine (H.out _).mono ?_; rintro e' w1 ⟨rfl, hb⟩)
  go_ret
  exact ⟨rfl, keep_trans (one_box _ _) hb⟩
theorem ask_door_tick (p : DoorM) (w : World) : Calls Tryz.prog 173 #[doV p] w (BPost w (door_tick p)) := by
  obtain ⟨x0, x1, x2, x3, ⟨x4, x5, x6⟩⟩ := p
  have HT := HH (fun w' A c (hx : Rd w' (· < w'.heap.size) A (cs intC [x3])) => ticks_any w' A 1 c [x3] (HH rfl) (by omega) hx)
  cases hq : tickB x3 with
  | false =>
    rw [show [x3].all tickB = false by simp [hq]] at HT
    have HN : Hid (door_tick ⟨x0, x1, x2, x3, ⟨x4, x5, x6⟩⟩ = false) := HH (by simp [door_tick, hq])
    rw [HN.out]
    clear hq
    go_enter Tryz.func173, Tryz.ntmps173
    go_wp2_with (go_at_call 171; refine (HT.out _ _ _ (lit_i _ _ _ _ (by simp) rfl)).mono ?_; rintro e' w1 ⟨rfl, hb⟩)
    go_ret
    exact ⟨rfl, keep_trans (two_box _ _ _) hb⟩
  | true =>
    rw [show [x3].all tickB = true by simp [hq]] at HT
    have HD : Hid (∀ w', Calls Tryz.prog 174 #[.agg #[.int .i64 x4, .int .i64 x5, .int .i64 x6]] w' (BPost w' (door_tick ⟨x0, x1, x2, x3, ⟨x4, x5, x6⟩⟩))) := HH (fun w' => by
      have := timed_any ⟨x4, x5, x6⟩ w'
      rwa [show door_tick ⟨x0, x1, x2, x3, ⟨x4, x5, x6⟩⟩ = timesB ⟨x4, x5, x6⟩ by simp [door_tick, hq]])
    clear hq
    go_enter Tryz.func173, Tryz.ntmps173
    go_wp2_with (first
      | (go_at_call 171; refine (HT.out _ _ _ (lit_i _ _ _ _ (by simp) rfl)).mono ?_; rintro e' w1 ⟨rfl, hb⟩; have HB := HH hb; have KB := ((Blk.new w 119 [.string ⟨x0.toArray⟩, .string ⟨x1.toArray⟩, .string ⟨x2.toArray⟩, .int .i64 x3, .int .i64 x4, .int .i64 x5, .int .i64 x6]).alloc _).after hb; have k4 : w1.cell? ⟨w.heap.size, 4, none⟩ = some (.int .i64 x4) := KB.cell 4; have k5 : w1.cell? ⟨w.heap.size, 5, none⟩ = some (.int .i64 x5) := KB.cell 5; have k6 : w1.cell? ⟨w.heap.size, 6, none⟩ = some (.int .i64 x6) := KB.cell 6; clear hb KB)
      | (go_at_call 174; refine (HD.out _).mono ?_; rintro e' w2 ⟨rfl, hb2⟩))
    go_ret
    exact ⟨rfl, keep_trans (keep_trans (two_box _ _ _) HB.out) hb2⟩
theorem each_door_tick (w : World) (A : Option Addr) (n c : Nat) (l : List (DoorM)) (hn : Hid (n = l.length)) (hN : n ≤ 1000000) (hx : Rd w (· < w.heap.size) A (cs doC l)) :
    Calls Tryz.prog 164 #[.slice A n c, .func (.func 173) #[] #[]] w (BPost w (l.all door_tick)) := by
  have HX := HH hx
  have HF := HH (fun (a : DoorM) w' => ask_door_tick a w')
  clear hx
  go_enter Tryz.func164, Tryz.ntmps164
  go_wp2
  go_loopw [9] (fun v wr => ∃ k : Nat, v = .int .i64 k ∧ k ≤ n ∧ Hid ((l.take k).all door_tick = true) ∧ Hid (Below w.heap.size w wr)) (fun v _ => n - (intOf v).toNat)
  case atStart => exact ⟨0, rfl, by omega, HH rfl, HH (Below.refl _ _)⟩
  case round =>
    obtain ⟨k, rfl, hk, HP, HB⟩ := hrel
    by_cases hlt : k < n
    · obtain ⟨a, ha⟩ := at_in l hn hlt
      obtain ⟨ad, rfl, hS, h0, hj⟩ := rd_at 7 (fun _ => rfl) (by omega) (HX.out.below HB.out) ha
      have HA := HH ha
      have HG : ∀ w', Calls Tryz.prog 173 #[doV a] w' (BPost w' (door_tick a)) := fun w' => HF.out a w'
      cases hg : door_tick a with
      | true =>
        obtain ⟨x0, x1, x2, x3, ⟨x4, x5, x6⟩⟩ := a
        have a0 : wr.cell? (ad.add (k * 7)) = some (.string ⟨x0.toArray⟩) := h0
        have a1 : wr.cell? ⟨(ad.add (k * 7)).block, (ad.add (k * 7)).off + 1, none⟩ = some (.string ⟨x1.toArray⟩) := (hj 1 (by omega)).resolve_right (by omega)
        have a2 : wr.cell? ⟨(ad.add (k * 7)).block, (ad.add (k * 7)).off + 2, none⟩ = some (.string ⟨x2.toArray⟩) := (hj 2 (by omega)).resolve_right (by omega)
        have a3 : wr.cell? ⟨(ad.add (k * 7)).block, (ad.add (k * 7)).off + 3, none⟩ = some (.int .i64 x3) := (hj 3 (by omega)).resolve_right (by omega)
        have a4 : wr.cell? ⟨(ad.add (k * 7)).block, (ad.add (k * 7)).off + 4, none⟩ = some (.int .i64 x4) := (hj 4 (by omega)).resolve_right (by omega)
        have a5 : wr.cell? ⟨(ad.add (k * 7)).block, (ad.add (k * 7)).off + 5, none⟩ = some (.int .i64 x5) := (hj 5 (by omega)).resolve_right (by omega)
        have a6 : wr.cell? ⟨(ad.add (k * 7)).block, (ad.add (k * 7)).off + 6, none⟩ = some (.int .i64 x6) := (hj 6 (by omega)).resolve_right (by omega)
        rw [hg] at HG
        have HGG := HH HG
        have HGO := HH hg
        have hi : (k : Int) < (n : Int) := by omega
        clear ha h0 hj HG hg
        go_wp2_with (go_at_call 173; refine (HGG.out _).mono ?_; rintro e w2 ⟨rfl, hb⟩; have HB2 := HH hb; clear hb)
        go_roundw
        case rel => exact ⟨k + 1, by go_num, by omega, HH (all_take HA.out HP.out HGO.out), HH (below_then (HB.out.alloc HB.out.size _) HB2.out (Nat.le_trans HB.out.size (by simp)))⟩
        case measure => simp [intOf]; omega
      | false =>
        obtain ⟨x0, x1, x2, x3, ⟨x4, x5, x6⟩⟩ := a
        have a0 : wr.cell? (ad.add (k * 7)) = some (.string ⟨x0.toArray⟩) := h0
        have a1 : wr.cell? ⟨(ad.add (k * 7)).block, (ad.add (k * 7)).off + 1, none⟩ = some (.string ⟨x1.toArray⟩) := (hj 1 (by omega)).resolve_right (by omega)
        have a2 : wr.cell? ⟨(ad.add (k * 7)).block, (ad.add (k * 7)).off + 2, none⟩ = some (.string ⟨x2.toArray⟩) := (hj 2 (by omega)).resolve_right (by omega)
        have a3 : wr.cell? ⟨(ad.add (k * 7)).block, (ad.add (k * 7)).off + 3, none⟩ = some (.int .i64 x3) := (hj 3 (by omega)).resolve_right (by omega)
        have a4 : wr.cell? ⟨(ad.add (k * 7)).block, (ad.add (k * 7)).off + 4, none⟩ = some (.int .i64 x4) := (hj 4 (by omega)).resolve_right (by omega)
        have a5 : wr.cell? ⟨(ad.add (k * 7)).block, (ad.add (k * 7)).off + 5, none⟩ = some (.int .i64 x5) := (hj 5 (by omega)).resolve_right (by omega)
        have a6 : wr.cell? ⟨(ad.add (k * 7)).block, (ad.add (k * 7)).off + 6, none⟩ = some (.int .i64 x6) := (hj 6 (by omega)).resolve_right (by omega)
        rw [hg] at HG
        have HGG := HH HG
        have HNO := HH (all_no HA.out hg)
        have hi : (k : Int) < (n : Int) := by omega
        clear ha h0 hj HG hg
        rw [HNO.out]
        go_wp2_with (go_at_call 173; refine (HGG.out _).mono ?_; rintro e w2 ⟨rfl, hb⟩; have HB2 := HH hb; clear hb)
        go_ret
        exact ⟨rfl, below_then (HB.out.alloc HB.out.size _) HB2.out (Nat.le_trans HB.out.size (by simp))⟩
    · have HAL := HH (all_full HP.out (by rw [← hn.out]; omega))
      go_wp2
      go_ret
      exact ⟨by rw [HAL.out]; rfl, HB.out⟩
theorem each_haz_tick (w : World) (A : Option Addr) (n c : Nat) (l : List (HazM)) (hn : Hid (n = l.length)) (hN : n ≤ 1000000) (hx : Rd w (· < w.heap.size) A (cs haC l)) :
    Calls Tryz.prog 169 #[.slice A n c, .func (.func 177) #[] #[]] w (BPost w (l.all haz_tick)) := by
  have HX := HH hx
  have HF := HH (fun (a : HazM) w' => ask_haz_tick a w')
  clear hx
  go_enter Tryz.func169, Tryz.ntmps169
  go_wp2
  go_loopw [9] (fun v wr => ∃ k : Nat, v = .int .i64 k ∧ k ≤ n ∧ Hid ((l.take k).all haz_tick = true) ∧ Hid (Below w.heap.size w wr)) (fun v _ => n - (intOf v).toNat)
  case atStart => exact ⟨0, rfl, by omega, HH rfl, HH (Below.refl _ _)⟩
  case round =>
    obtain ⟨k, rfl, hk, HP, HB⟩ := hrel
    by_cases hlt : k < n
    · obtain ⟨a, ha⟩ := at_in l hn hlt
      obtain ⟨ad, rfl, hS, h0, hj⟩ := rd_at 5 (fun _ => rfl) (by omega) (HX.out.below HB.out) ha
      have HA := HH ha
      have HG : ∀ w', Calls Tryz.prog 177 #[haV a] w' (BPost w' (haz_tick a)) := fun w' => HF.out a w'
      cases hg : haz_tick a with
      | true =>
        obtain ⟨x0, x1, ⟨x2, x3, x4⟩⟩ := a
        have a0 : wr.cell? (ad.add (k * 5)) = some (.string ⟨x0.toArray⟩) := h0
        have a1 : wr.cell? ⟨(ad.add (k * 5)).block, (ad.add (k * 5)).off + 1, none⟩ = some (.string ⟨x1.toArray⟩) := (hj 1 (by omega)).resolve_right (by omega)
        have a2 : wr.cell? ⟨(ad.add (k * 5)).block, (ad.add (k * 5)).off + 2, none⟩ = some (.int .i64 x2) := (hj 2 (by omega)).resolve_right (by omega)
        have a3 : wr.cell? ⟨(ad.add (k * 5)).block, (ad.add (k * 5)).off + 3, none⟩ = some (.int .i64 x3) := (hj 3 (by omega)).resolve_right (by omega)
        have a4 : wr.cell? ⟨(ad.add (k * 5)).block, (ad.add (k * 5)).off + 4, none⟩ = some (.int .i64 x4) := (hj 4 (by omega)).resolve_right (by omega)
        rw [hg] at HG
        have HGG := HH HG
        have HGO := HH hg
        have hi : (k : Int) < (n : Int) := by omega
        clear ha h0 hj HG hg
        go_wp2_with (go_at_call 177; refine (HGG.out _).mono ?_; rintro e w2 ⟨rfl, hb⟩; have HB2 := HH hb; clear hb)
        go_roundw
        case rel => exact ⟨k + 1, by go_num, by omega, HH (all_take HA.out HP.out HGO.out), HH (below_then (HB.out.alloc HB.out.size _) HB2.out (Nat.le_trans HB.out.size (by simp)))⟩
        case measure => simp [intOf]; omega
      | false =>
        obtain ⟨x0, x1, ⟨x2, x3, x4⟩⟩ := a
        have a0 : wr.cell? (ad.add (k * 5)) = some (.string ⟨x0.toArray⟩) := h0
        have a1 : wr.cell? ⟨(ad.add (k * 5)).block, (ad.add (k * 5)).off + 1, none⟩ = some (.string ⟨x1.toArray⟩) := (hj 1 (by omega)).resolve_right (by omega)
        have a2 : wr.cell? ⟨(ad.add (k * 5)).block, (ad.add (k * 5)).off + 2, none⟩ = some (.int .i64 x2) := (hj 2 (by omega)).resolve_right (by omega)
        have a3 : wr.cell? ⟨(ad.add (k * 5)).block, (ad.add (k * 5)).off + 3, none⟩ = some (.int .i64 x3) := (hj 3 (by omega)).resolve_right (by omega)
        have a4 : wr.cell? ⟨(ad.add (k * 5)).block, (ad.add (k * 5)).off + 4, none⟩ = some (.int .i64 x4) := (hj 4 (by omega)).resolve_right (by omega)
        rw [hg] at HG
        have HGG := HH HG
        have HNO := HH (all_no HA.out hg)
        have hi : (k : Int) < (n : Int) := by omega
        clear ha h0 hj HG hg
        rw [HNO.out]
        go_wp2_with (go_at_call 177; refine (HGG.out _).mono ?_; rintro e w2 ⟨rfl, hb⟩; have HB2 := HH hb; clear hb)
        go_ret
        exact ⟨rfl, below_then (HB.out.alloc HB.out.size _) HB2.out (Nat.le_trans HB.out.size (by simp))⟩
    · have HAL := HH (all_full HP.out (by rw [← hn.out]; omega))
      go_wp2
      go_ret
      exact ⟨by rw [HAL.out]; rfl, HB.out⟩
end Go.Proofs.YtfefnfifeaihhaaGreat.Sh
namespace Go.Proofs.YtfefnfifeaihhaaGreat.Sh
open Go.ChangeShapes Go.WideShapes Go.ChangeAt Go.RowKit
open Lx
/-- a route as it lies -/
structure RtAt (w : World) (S : Nat → Prop) (r : RouteM) (sa ra ya : Option Addr) : Prop where
  hs : Rd w S sa (cs strC r.stops)
  hr : Rd w S ra (cs intC r.rides)
  hy : Rd w S ya (cs intC r.stays)
theorem RtAt.keep {w w' : World} {S : Nat → Prop} {r : RouteM} {sa ra ya : Option Addr} (h : RtAt w S r sa ra ya) (hk : ∀ b, S b → w'.heap[b]? = w.heap[b]?) : RtAt w' S r sa ra ya := ⟨h.hs.keep hk, h.hr.keep hk, h.hy.keep hk⟩
theorem RtAt.more {w : World} {S S' : Nat → Prop} {r : RouteM} {sa ra ya : Option Addr} (h : RtAt w S r sa ra ya) (hs : ∀ b, S b → S' b) : RtAt w S' r sa ra ya := ⟨h.hs.more hs, h.hr.more hs, h.hy.more hs⟩
theorem RtAt.later {w w' : World} {r : RouteM} {sa ra ya : Option Addr} (h : RtAt w (· < w.heap.size) r sa ra ya) (hb : Below w.heap.size w w') : RtAt w' (· < w'.heap.size) r sa ra ya :=
  (h.keep fun b hl => hb.block b hl).more fun b h1 => by have := hb.size; omega
abbrev rtV (r : RouteM) (sa ra ya : Option Addr) (sc rc yc : Nat) : Value := .agg #[.string ⟨r.name.toArray⟩, .slice sa r.stops.length sc, .slice ra r.rides.length rc, .slice ya r.stays.length yc]
theorem rts_cells {w : World} {S : Nat → Prop} : ∀ {l : List RouteM} {c : List Value} {k : Nat} {r : RouteM}, Rts w S l c → l[k]? = some r → ∃ sa sc ra rc ya yc, c[k * 4]? = some (.string ⟨r.name.toArray⟩) ∧ c[k * 4 + 1]? = some (.slice sa r.stops.length sc) ∧ c[k * 4 + 2]? = some (.slice ra r.rides.length rc) ∧ c[k * 4 + 3]? = some (.slice ya r.stays.length yc) ∧ RtAt w S r sa ra ya
  | [], _, k, r, _, h => by simp at h
  | x :: l, c, 0, r, ⟨sa, sc, ra, rc, ya, yc, rest, e, h1, h2, h3, _⟩, h => by
    simp at h; subst h; subst e
    exact ⟨sa, sc, ra, rc, ya, yc, rfl, rfl, rfl, rfl, h1, h2, h3⟩
  | x :: l, c, k + 1, r, ⟨sa, sc, ra, rc, ya, yc, rest, e, _, _, _, h4⟩, h => by
    simp at h
    obtain ⟨sa', sc', ra', rc', ya', yc', g0, g1, g2, g3, g⟩ := rts_cells h4 h
    subst e
    have e : (k + 1) * 4 = k * 4 + 4 := by omega
    rw [e]
    exact ⟨sa', sc', ra', rc', ya', yc', by simpa using g0, by simpa using g1, by simpa using g2, by simpa using g3, g⟩
theorem rts_at {w : World} {S : Nat → Prop} {A : Option Addr} {l : List RouteM} {c : List Value} {k : Nat} {r : RouteM} (hr : Rd w S A c) (h : Rts w S l c) (hk : l[k]? = some r) :
    ∃ ad, A = some ad ∧ S ad.block ∧ ∃ sa sc ra rc ya yc, w.cell? (ad.add (k * 4)) = some (.string ⟨r.name.toArray⟩) ∧ w.cell? ⟨(ad.add (k * 4)).block, (ad.add (k * 4)).off + 1, none⟩ = some (.slice sa r.stops.length sc) ∧ w.cell? ⟨(ad.add (k * 4)).block, (ad.add (k * 4)).off + 2, none⟩ = some (.slice ra r.rides.length rc) ∧ w.cell? ⟨(ad.add (k * 4)).block, (ad.add (k * 4)).off + 3, none⟩ = some (.slice ya r.stays.length yc) ∧ RtAt w S r sa ra ya := by
  have hlt : k < l.length := (List.getElem?_eq_some_iff.1 hk).1
  obtain ⟨ad, e, hb, hc⟩ := hr (by rw [Rts.length h]; omega)
  obtain ⟨sa, sc, ra, rc, ya, yc, g0, g1, g2, g3, g⟩ := rts_cells h hk
  have e1 : (⟨(ad.add (k * 4)).block, (ad.add (k * 4)).off + 1, none⟩ : Addr) = (ad.add (k * 4)).add 1 := rfl
  have e2 : (⟨(ad.add (k * 4)).block, (ad.add (k * 4)).off + 2, none⟩ : Addr) = (ad.add (k * 4)).add 2 := rfl
  have e3 : (⟨(ad.add (k * 4)).block, (ad.add (k * 4)).off + 3, none⟩ : Addr) = (ad.add (k * 4)).add 3 := rfl
  exact ⟨ad, e, hb, sa, sc, ra, rc, ya, yc, hc _ _ g0, by rw [e1, add_of_add]; exact hc _ _ g1, by rw [e2, add_of_add]; exact hc _ _ g2, by rw [e3, add_of_add]; exact hc _ _ g3, g⟩
/-- routes that are not beyond all bounds -/
def Few (r : RouteM) : Prop := r.stops.length ≤ 1000000 ∧ r.rides.length ≤ 1000000 ∧ r.stays.length ≤ 1000000
def route_name (r : RouteM) : Bool := nameB r.name && r.stops.all nameB
def route_tick (r : RouteM) : Bool := r.rides.all tickB && r.stays.all tickB
def route_count (r : RouteM) : Bool := decide (2 ≤ r.stops.length) && (decide (r.stops.length ≤ 32) && (decide (r.rides.length + 1 = r.stops.length) && decide (r.stays.length + 2 = r.stops.length)))
theorem ask_route_name (r : RouteM) (sa ra ya : Option Addr) (sc rc yc : Nat) (w : World) (h : RtAt w (· < w.heap.size) r sa ra ya) (hf : Few r) : Calls Tryz.prog 166 #[rtV r sa ra ya sc rc yc] w (BPost w (route_name r)) := by
  obtain ⟨nm, st, ri, sy⟩ := r
  obtain ⟨f1, f2, f3⟩ := hf
  dsimp only at f1 f2 f3
  have HN := HH (fun w' A c (hx : Rd w' (· < w'.heap.size) A (cs strC [nm])) => names_any w' A 1 c [nm] (HH rfl) (by omega) hx)
  have HS := HH (fun w' (hb : Below w.heap.size w w') => names_any w' sa st.length sc st (HH rfl) f1 (rd_later h.hs hb))
  obtain ⟨n1, hn1⟩ : ∃ n1, n1 = st.length := ⟨_, rfl⟩
  rw [← hn1] at HS
  show Calls _ _ #[.agg #[.string ⟨nm.toArray⟩, .slice sa st.length sc, .slice ra ri.length rc, .slice ya sy.length yc]] _ _
  rw [← hn1]
  cases hq : nameB nm with
  | false =>
    rw [show [nm].all nameB = false by simp [hq]] at HN
    have HNO : Hid (route_name ⟨nm, st, ri, sy⟩ = false) := HH (by simp [route_name, hq])
    rw [HNO.out]
    clear hq h hn1
    go_enter Tryz.func166, Tryz.ntmps166
    go_wp2_with (go_at_call 161; refine (HN.out _ _ _ (lit_s _ _ _ _ (by simp) rfl)).mono ?_; rintro e' w1 ⟨rfl, hb⟩)
    go_ret
    exact ⟨rfl, keep_trans (two_box _ _ _) hb⟩
  | true =>
    rw [show [nm].all nameB = true by simp [hq]] at HN
    rw [show st.all nameB = route_name ⟨nm, st, ri, sy⟩ by simp [route_name, hq]] at HS
    clear hq h hn1
    generalize route_name ⟨nm, st, ri, sy⟩ = b at HS ⊢
    go_enter Tryz.func166, Tryz.ntmps166
    go_wp2_with (first
      | (go_at_call 161; (with_reducible refine (HS.out _ HB.out).mono ?_); rintro e' w2 ⟨rfl, hb2⟩)
      | (go_at_call 161; refine (HN.out _ _ _ (lit_s _ _ _ _ (by simp) rfl)).mono ?_; rintro e' w1 ⟨rfl, hb⟩; have HB := HH (keep_trans (two_box w _ _) hb); have KB := ((Blk.new w 121 [.string ⟨nm.toArray⟩, .slice sa n1 sc, .slice ra ri.length rc, .slice ya sy.length yc]).alloc _).after hb; have k1 : w1.cell? ⟨w.heap.size, 1, none⟩ = some (.slice sa n1 sc) := KB.cell 1; clear hb KB))
    go_ret
    exact ⟨rfl, keep_trans HB.out hb2⟩
theorem ask_route_tick (r : RouteM) (sa ra ya : Option Addr) (sc rc yc : Nat) (w : World) (h : RtAt w (· < w.heap.size) r sa ra ya) (hf : Few r) : Calls Tryz.prog 175 #[rtV r sa ra ya sc rc yc] w (BPost w (route_tick r)) := by
  obtain ⟨nm, st, ri, sy⟩ := r
  obtain ⟨f1, f2, f3⟩ := hf
  dsimp only at f1 f2 f3
  have HN := HH (fun w' (hb : Below w.heap.size w w') => ticks_any w' ra ri.length rc ri (HH rfl) f2 (rd_later h.hr hb))
  have HS := HH (fun w' (hb : Below w.heap.size w w') => ticks_any w' ya sy.length yc sy (HH rfl) f3 (rd_later h.hy hb))
  obtain ⟨n1, hn1⟩ : ∃ n1, n1 = ri.length := ⟨_, rfl⟩
  obtain ⟨n2, hn2⟩ : ∃ n2, n2 = sy.length := ⟨_, rfl⟩
  rw [← hn1] at HN
  rw [← hn2] at HS
  show Calls _ _ #[.agg #[.string ⟨nm.toArray⟩, .slice sa st.length sc, .slice ra ri.length rc, .slice ya sy.length yc]] _ _
  rw [← hn1, ← hn2]
  cases hq : ri.all tickB with
  | false =>
    rw [hq] at HN
    have HNO : Hid (route_tick ⟨nm, st, ri, sy⟩ = false) := HH (by simp only [route_tick, hq, Bool.false_and])
    rw [HNO.out]
    clear hq h hn1 hn2
    go_enter Tryz.func175, Tryz.ntmps175
    go_wp2_with (go_at_call 171; (with_reducible refine (HN.out _ (one_box _ _)).mono ?_); rintro e' w1 ⟨rfl, hb⟩)
    go_ret
    exact ⟨rfl, keep_trans (one_box _ _) hb⟩
  | true =>
    rw [hq] at HN
    rw [show sy.all tickB = route_tick ⟨nm, st, ri, sy⟩ by simp only [route_tick, hq, Bool.true_and]] at HS
    clear hq h hn1 hn2
    generalize route_tick ⟨nm, st, ri, sy⟩ = b at HS ⊢
    go_enter Tryz.func175, Tryz.ntmps175
    go_wp2_with (first
      | (go_at_call 171; (with_reducible refine (HN.out _ (one_box _ _)).mono ?_); rintro e' w1 ⟨rfl, hb⟩; have HB := HH (keep_trans (one_box w _) hb); have KB := (Blk.new w 121 [.string ⟨nm.toArray⟩, .slice sa st.length sc, .slice ra n1 rc, .slice ya n2 yc]).after hb; have k1 : w1.cell? ⟨w.heap.size, 3, none⟩ = some (.slice ya n2 yc) := KB.cell 3; clear hb KB)
      | (go_at_call 171; (with_reducible refine (HS.out _ HB.out).mono ?_); rintro e' w2 ⟨rfl, hb2⟩))
    go_ret
    exact ⟨rfl, keep_trans HB.out hb2⟩
end Go.Proofs.YtfefnfifeaihhaaGreat.Sh
namespace Go.Proofs.YtfefnfifeaihhaaGreat.Sh
open Go.ChangeShapes Go.WideShapes Go.ChangeAt Go.RowKit
open Lx
theorem Rts.later {w w' : World} : ∀ {l : List RouteM} {c : List Value}, Rts w (· < w.heap.size) l c → Below w.heap.size w w' → Rts w' (· < w'.heap.size) l c
  | [], _, h, _ => h
  | _ :: _, _, ⟨sa, sc, ra, rc, ya, yc, rest, e, h1, h2, h3, h4⟩, hb => ⟨sa, sc, ra, rc, ya, yc, rest, e, rd_later h1 hb, rd_later h2 hb, rd_later h3 hb, Rts.later h4 hb⟩
theorem ask_route_count (r : RouteM) (sa ra ya : Option Addr) (sc rc yc : Nat) (w : World) (h : RtAt w (· < w.heap.size) r sa ra ya) (hf : Few r) : Calls Tryz.prog 139 #[rtV r sa ra ya sc rc yc] w (BPost w (route_count r)) := by
  obtain ⟨nm, st, ri, sy⟩ := r
  obtain ⟨f1, f2, f3⟩ := hf
  dsimp only at f1 f2 f3
  clear h
  simp only [route_count]
  show Calls _ _ #[.agg #[.string ⟨nm.toArray⟩, .slice sa st.length sc, .slice ra ri.length rc, .slice ya sy.length yc]] _ _
  generalize st.length = a at *
  generalize ri.length = b at *
  generalize sy.length = d at *
  go_enter Tryz.func139, Tryz.ntmps139
  go_wp2
  all_goals go_ret
  all_goals exact ⟨congrArg (fun b => Ending.returned (Value.bool b)) (by rw [Bool.eq_iff_iff]; simp; omega), one_box _ _⟩
theorem each_route_name (w : World) (A : Option Addr) (n c : Nat) (l : List RouteM) (cl : List Value) (hn : Hid (n = l.length)) (hN : n ≤ 1000000) (hx : Rd w (· < w.heap.size) A cl) (hr : Rts w (· < w.heap.size) l cl) (hf : ∀ r ∈ l, Few r) :
    Calls Tryz.prog 138 #[.slice A n c, .func (.func 166) #[] #[]] w (BPost w (l.all route_name)) := by
  have HX := HH hx
  have HR := HH hr
  have HW := HH hf
  clear hx hr hf
  go_enter Tryz.func138, Tryz.ntmps138
  go_wp2
  go_loopw [9] (fun v wr => ∃ k : Nat, v = .int .i64 k ∧ k ≤ n ∧ Hid ((l.take k).all route_name = true) ∧ Hid (Below w.heap.size w wr)) (fun v _ => n - (intOf v).toNat)
  case atStart => exact ⟨0, rfl, by omega, HH rfl, HH (Below.refl _ _)⟩
  case round =>
    obtain ⟨k, rfl, hk, HP, HB⟩ := hrel
    by_cases hlt : k < n
    · obtain ⟨a, ha⟩ := at_in l hn hlt
      obtain ⟨ad, rfl, hS, sa, sc, ra, rc, ya, yc, a0, a1, a2, a3, hg0⟩ := rts_at (rd_later HX.out HB.out) (HR.out.later HB.out) ha
      have HA := HH ha
      have HG : ∀ w', Below wr.heap.size wr w' → Calls Tryz.prog 166 #[rtV a sa ra ya sc rc yc] w' (BPost w' (route_name a)) := fun w' hb => ask_route_name a sa ra ya sc rc yc w' (hg0.later hb) (HW.out a (List.mem_of_getElem? ha))
      have HG2 := HG
      cases hg : route_name a with
      | true =>
        rw [hg] at HG2
        obtain ⟨nm, st, ri, sy⟩ := a
        dsimp only at a0 a1 a2 a3 HG2
        obtain ⟨n1, hn1⟩ : ∃ n1, n1 = st.length := ⟨_, rfl⟩
        obtain ⟨n2, hn2⟩ : ∃ n2, n2 = ri.length := ⟨_, rfl⟩
        obtain ⟨n3, hn3⟩ : ∃ n3, n3 = sy.length := ⟨_, rfl⟩
        rw [← hn1] at a1
        rw [← hn2] at a2
        rw [← hn3] at a3
        simp only [rtV, ← hn1, ← hn2, ← hn3] at HG2
        have HGG := HH HG2
        have HGO := HH hg
        have hi : (k : Int) < (n : Int) := by omega
        clear ha HG HG2 hg hg0 hn1 hn2 hn3
        go_wp2_with (go_at_call 166; (with_reducible refine (HGG.out _ (one_box _ _)).mono ?_); rintro e w2 ⟨rfl, hb⟩; have HB2 := HH hb; clear hb)
        go_roundw
        case rel => exact ⟨k + 1, by go_num, by omega, HH (all_take HA.out HP.out HGO.out), HH (below_then (HB.out.alloc HB.out.size _) HB2.out (Nat.le_trans HB.out.size (by simp)))⟩
        case measure => simp [intOf]; omega
      | false =>
        rw [hg] at HG2
        obtain ⟨nm, st, ri, sy⟩ := a
        dsimp only at a0 a1 a2 a3 HG2
        obtain ⟨n1, hn1⟩ : ∃ n1, n1 = st.length := ⟨_, rfl⟩
        obtain ⟨n2, hn2⟩ : ∃ n2, n2 = ri.length := ⟨_, rfl⟩
        obtain ⟨n3, hn3⟩ : ∃ n3, n3 = sy.length := ⟨_, rfl⟩
        rw [← hn1] at a1
        rw [← hn2] at a2
        rw [← hn3] at a3
        simp only [rtV, ← hn1, ← hn2, ← hn3] at HG2
        have HGG := HH HG2
        have HNO := HH (all_no HA.out hg)
        have hi : (k : Int) < (n : Int) := by omega
        clear ha HG HG2 hg hg0 hn1 hn2 hn3
        rw [HNO.out]
        go_wp2_with (go_at_call 166; (with_reducible refine (HGG.out _ (one_box _ _)).mono ?_); rintro e w2 ⟨rfl, hb⟩; have HB2 := HH hb; clear hb)
        go_ret
        exact ⟨rfl, below_then (HB.out.alloc HB.out.size _) HB2.out (Nat.le_trans HB.out.size (by simp))⟩
    · have HAL := HH (all_full HP.out (by rw [← hn.out]; omega))
      go_wp2
      go_ret
      exact ⟨by rw [HAL.out]; rfl, HB.out⟩
theorem each_route_tick (w : World) (A : Option Addr) (n c : Nat) (l : List RouteM) (cl : List Value) (hn : Hid (n = l.length)) (hN : n ≤ 1000000) (hx : Rd w (· < w.heap.size) A cl) (hr : Rts w (· < w.heap.size) l cl) (hf : ∀ r ∈ l, Few r) :
    Calls Tryz.prog 138 #[.slice A n c, .func (.func 175) #[] #[]] w (BPost w (l.all route_tick)) := by
  have HX := HH hx
  have HR := HH hr
  have HW := HH hf
  clear hx hr hf
  go_enter Tryz.func138, Tryz.ntmps138
  go_wp2
  go_loopw [9] (fun v wr => ∃ k : Nat, v = .int .i64 k ∧ k ≤ n ∧ Hid ((l.take k).all route_tick = true) ∧ Hid (Below w.heap.size w wr)) (fun v _ => n - (intOf v).toNat)
  case atStart => exact ⟨0, rfl, by omega, HH rfl, HH (Below.refl _ _)⟩
  case round =>
    obtain ⟨k, rfl, hk, HP, HB⟩ := hrel
    by_cases hlt : k < n
    · obtain ⟨a, ha⟩ := at_in l hn hlt
      obtain ⟨ad, rfl, hS, sa, sc, ra, rc, ya, yc, a0, a1, a2, a3, hg0⟩ := rts_at (rd_later HX.out HB.out) (HR.out.later HB.out) ha
      have HA := HH ha
      have HG : ∀ w', Below wr.heap.size wr w' → Calls Tryz.prog 175 #[rtV a sa ra ya sc rc yc] w' (BPost w' (route_tick a)) := fun w' hb => ask_route_tick a sa ra ya sc rc yc w' (hg0.later hb) (HW.out a (List.mem_of_getElem? ha))
      have HG2 := HG
      cases hg : route_tick a with
      | true =>
        rw [hg] at HG2
        obtain ⟨nm, st, ri, sy⟩ := a
        dsimp only at a0 a1 a2 a3 HG2
        obtain ⟨n1, hn1⟩ : ∃ n1, n1 = st.length := ⟨_, rfl⟩
        obtain ⟨n2, hn2⟩ : ∃ n2, n2 = ri.length := ⟨_, rfl⟩
        obtain ⟨n3, hn3⟩ : ∃ n3, n3 = sy.length := ⟨_, rfl⟩
        rw [← hn1] at a1
        rw [← hn2] at a2
        rw [← hn3] at a3
        simp only [rtV, ← hn1, ← hn2, ← hn3] at HG2
        have HGG := HH HG2
        have HGO := HH hg
        have hi : (k : Int) < (n : Int) := by omega
        clear ha HG HG2 hg hg0 hn1 hn2 hn3
        go_wp2_with (go_at_call 175; (with_reducible refine (HGG.out _ (one_box _ _)).mono ?_); rintro e w2 ⟨rfl, hb⟩; have HB2 := HH hb; clear hb)
        go_roundw
        case rel => exact ⟨k + 1, by go_num, by omega, HH (all_take HA.out HP.out HGO.out), HH (below_then (HB.out.alloc HB.out.size _) HB2.out (Nat.le_trans HB.out.size (by simp)))⟩
        case measure => simp [intOf]; omega
      | false =>
        rw [hg] at HG2
        obtain ⟨nm, st, ri, sy⟩ := a
        dsimp only at a0 a1 a2 a3 HG2
        obtain ⟨n1, hn1⟩ : ∃ n1, n1 = st.length := ⟨_, rfl⟩
        obtain ⟨n2, hn2⟩ : ∃ n2, n2 = ri.length := ⟨_, rfl⟩
        obtain ⟨n3, hn3⟩ : ∃ n3, n3 = sy.length := ⟨_, rfl⟩
        rw [← hn1] at a1
        rw [← hn2] at a2
        rw [← hn3] at a3
        simp only [rtV, ← hn1, ← hn2, ← hn3] at HG2
        have HGG := HH HG2
        have HNO := HH (all_no HA.out hg)
        have hi : (k : Int) < (n : Int) := by omega
        clear ha HG HG2 hg hg0 hn1 hn2 hn3
        rw [HNO.out]
        go_wp2_with (go_at_call 175; (with_reducible refine (HGG.out _ (one_box _ _)).mono ?_); rintro e w2 ⟨rfl, hb⟩; have HB2 := HH hb; clear hb)
        go_ret
        exact ⟨rfl, below_then (HB.out.alloc HB.out.size _) HB2.out (Nat.le_trans HB.out.size (by simp))⟩
    · have HAL := HH (all_full HP.out (by rw [← hn.out]; omega))
      go_wp2
      go_ret
      exact ⟨by rw [HAL.out]; rfl, HB.out⟩
theorem each_route_count (w : World) (A : Option Addr) (n c : Nat) (l : List RouteM) (cl : List Value) (hn : Hid (n = l.length)) (hN : n ≤ 1000000) (hx : Rd w (· < w.heap.size) A cl) (hr : Rts w (· < w.heap.size) l cl) (hf : ∀ r ∈ l, Few r) :
    Calls Tryz.prog 138 #[.slice A n c, .func (.func 139) #[] #[]] w (BPost w (l.all route_count)) := by
  have HX := HH hx
  have HR := HH hr
  have HW := HH hf
  clear hx hr hf
  go_enter Tryz.func138, Tryz.ntmps138
  go_wp2
  go_loopw [9] (fun v wr => ∃ k : Nat, v = .int .i64 k ∧ k ≤ n ∧ Hid ((l.take k).all route_count = true) ∧ Hid (Below w.heap.size w wr)) (fun v _ => n - (intOf v).toNat)
  case atStart => exact ⟨0, rfl, by omega, HH rfl, HH (Below.refl _ _)⟩
  case round =>
    obtain ⟨k, rfl, hk, HP, HB⟩ := hrel
    by_cases hlt : k < n
    · obtain ⟨a, ha⟩ := at_in l hn hlt
      obtain ⟨ad, rfl, hS, sa, sc, ra, rc, ya, yc, a0, a1, a2, a3, hg0⟩ := rts_at (rd_later HX.out HB.out) (HR.out.later HB.out) ha
      have HA := HH ha
      have HG : ∀ w', Below wr.heap.size wr w' → Calls Tryz.prog 139 #[rtV a sa ra ya sc rc yc] w' (BPost w' (route_count a)) := fun w' hb => ask_route_count a sa ra ya sc rc yc w' (hg0.later hb) (HW.out a (List.mem_of_getElem? ha))
      have HG2 := HG
      cases hg : route_count a with
      | true =>
        rw [hg] at HG2
        obtain ⟨nm, st, ri, sy⟩ := a
        dsimp only at a0 a1 a2 a3 HG2
        obtain ⟨n1, hn1⟩ : ∃ n1, n1 = st.length := ⟨_, rfl⟩
        obtain ⟨n2, hn2⟩ : ∃ n2, n2 = ri.length := ⟨_, rfl⟩
        obtain ⟨n3, hn3⟩ : ∃ n3, n3 = sy.length := ⟨_, rfl⟩
        rw [← hn1] at a1
        rw [← hn2] at a2
        rw [← hn3] at a3
        simp only [rtV, ← hn1, ← hn2, ← hn3] at HG2
        have HGG := HH HG2
        have HGO := HH hg
        have hi : (k : Int) < (n : Int) := by omega
        clear ha HG HG2 hg hg0 hn1 hn2 hn3
        go_wp2_with (go_at_call 139; (with_reducible refine (HGG.out _ (one_box _ _)).mono ?_); rintro e w2 ⟨rfl, hb⟩; have HB2 := HH hb; clear hb)
        go_roundw
        case rel => exact ⟨k + 1, by go_num, by omega, HH (all_take HA.out HP.out HGO.out), HH (below_then (HB.out.alloc HB.out.size _) HB2.out (Nat.le_trans HB.out.size (by simp)))⟩
        case measure => simp [intOf]; omega
      | false =>
        rw [hg] at HG2
        obtain ⟨nm, st, ri, sy⟩ := a
        dsimp only at a0 a1 a2 a3 HG2
        obtain ⟨n1, hn1⟩ : ∃ n1, n1 = st.length := ⟨_, rfl⟩
        obtain ⟨n2, hn2⟩ : ∃ n2, n2 = ri.length := ⟨_, rfl⟩
        obtain ⟨n3, hn3⟩ : ∃ n3, n3 = sy.length := ⟨_, rfl⟩
        rw [← hn1] at a1
        rw [← hn2] at a2
        rw [← hn3] at a3
        simp only [rtV, ← hn1, ← hn2, ← hn3] at HG2
        have HGG := HH HG2
        have HNO := HH (all_no HA.out hg)
        have hi : (k : Int) < (n : Int) := by omega
        clear ha HG HG2 hg hg0 hn1 hn2 hn3
        rw [HNO.out]
        go_wp2_with (go_at_call 139; (with_reducible refine (HGG.out _ (one_box _ _)).mono ?_); rintro e w2 ⟨rfl, hb⟩; have HB2 := HH hb; clear hb)
        go_ret
        exact ⟨rfl, below_then (HB.out.alloc HB.out.size _) HB2.out (Nat.le_trans HB.out.size (by simp))⟩
    · have HAL := HH (all_full HP.out (by rw [← hn.out]; omega))
      go_wp2
      go_ret
      exact ⟨by rw [HAL.out]; rfl, HB.out⟩
end Go.Proofs.YtfefnfifeaihhaaGreat.Sh
