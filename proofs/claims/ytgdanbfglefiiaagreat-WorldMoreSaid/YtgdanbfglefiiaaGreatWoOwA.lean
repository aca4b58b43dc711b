/- The kit's Own at the rows of a world: a row in memory of the call's own, proved by walking its text. Conditions: the row has at most a million things. -/
import Derived.Test.YtgdanbfglefiiaaGreatWoMake
import Derived.ChangeSlices
import Derived.Deep.Strs
import Derived.Deep.SlicePairs
import Derived.ChangeArms
import Derived.Carry
import Derived.Deep.RegionHeld3
import Derived.Deep.RegionHeldLaw
import Derived.Deep.CutRange
import Derived.StillTailTactics
import Derived.WalkSpells
import Derived.Lib.QuietBelow
import Derived.Deep.QuietTactic
namespace Go.Proofs.YtgdanbfglefiiaaGreat.Wo
open Go.ChangeShapes Go.WideShapes Go.ChangeAt Go.RowKit Go.Maps
open Lx Sh It
set_option linter.unusedVariables false
set_option linter.unusedSimpArgs false
theorem po_one : ∀ a, ∀ u ∈ poC a, u.oneCell' = true := by intro a u hu; simp [poC] at hu; rcases hu with rfl | rfl | rfl <;> rfl
theorem doo_one : ∀ a, ∀ u ∈ dooC a, u.oneCell' = true := by intro a u hu; simp [dooC] at hu; rcases hu with rfl | rfl | rfl | rfl | rfl | rfl <;> rfl
theorem to_one : ∀ a, ∀ u ∈ toC a, u.oneCell' = true := by intro a u hu; simp [toC] at hu; rcases hu with rfl | rfl | rfl | rfl <;> rfl
theorem ho_one : ∀ a, ∀ u ∈ hoC a, u.oneCell' = true := by intro a u hu; simp [hoC] at hu; rcases hu with rfl | rfl | rfl | rfl | rfl <;> rfl
set_option maxRecDepth 100000 in
set_option maxHeartbeats 1000000 in
theorem own_poO (w : World) (A : Option Addr) (n c : Nat) (l : List (PathO)) (hn : Hid (n = l.length)) (hN : n ≤ 1000000) (hx : Rd w (· < w.heap.size) A (cs poC l)) :
    Calls Tryz.prog 53 #[.slice A n c] w (NewRow w 51 3 (cs poC l) n) := by
  have hx' : Rd (w.alloc (.cells #[] 51)) (· < w.heap.size) A (cs poC l) := hx.keep fun b hb => Below.heap_alloc w _ b hb
  have HX := Lib.hid hx'
  have hl : Hid ((cs poC l).length = n * 3) := by show _ = _; rw [cs_length poC 3 (fun _ => rfl), hn.out]
  have h1 := cs_each po_one l
  have H1 := Lib.hid h1
  clear hx hx' h1
  go_enter Tryz.func53, Tryz.ntmps53
  go_wp2_with (at_builtin; refine wpList_append_rdw rfl (.tmp 3) (.tmp 4) 26 rfl w.heap.size 51 _ 3 24 Tryz.underlying26 info_PathO rfl (by omega) (by omega) _ 0 [] rfl (own_empty (Nat.le_refl _)) _ A n c (cs poC l) rfl hl.out HX.out H1.out (by omega) (by simp) ?_; intro v' w1 hown hbel)
  obtain ⟨B, d, hv, hnd, hrd⟩ := own_form hown.out
  have ho := hown.out
  simp only [Nat.zero_add, List.nil_append] at hv ho hnd
  subst hv
  go_ret
  exact ⟨B, d, rfl, hnd, Lib.hid ho, ((Below.refl _ _).alloc (Nat.le_refl _) _).trans hbel.out⟩
set_option maxRecDepth 100000 in
set_option maxHeartbeats 1000000 in
theorem own_dooO (w : World) (A : Option Addr) (n c : Nat) (l : List (DoorO)) (hn : Hid (n = l.length)) (hN : n ≤ 1000000) (hx : Rd w (· < w.heap.size) A (cs dooC l)) :
    Calls Tryz.prog 54 #[.slice A n c] w (NewRow w 121 6 (cs dooC l) n) := by
  have hx' : Rd (w.alloc (.cells #[] 121)) (· < w.heap.size) A (cs dooC l) := hx.keep fun b hb => Below.heap_alloc w _ b hb
  have HX := Lib.hid hx'
  have hl : Hid ((cs dooC l).length = n * 6) := by show _ = _; rw [cs_length dooC 6 (fun _ => rfl), hn.out]
  have h1 := cs_each doo_one l
  have H1 := Lib.hid h1
  clear hx hx' h1
  go_enter Tryz.func54, Tryz.ntmps54
  go_wp2_with (at_builtin; refine wpList_append_rdw rfl (.tmp 3) (.tmp 4) 27 rfl w.heap.size 121 _ 6 48 Tryz.underlying27 info_DoorO rfl (by omega) (by omega) _ 0 [] rfl (own_empty (Nat.le_refl _)) _ A n c (cs dooC l) rfl hl.out HX.out H1.out (by omega) (by simp) ?_; intro v' w1 hown hbel)
  obtain ⟨B, d, hv, hnd, hrd⟩ := own_form hown.out
  have ho := hown.out
  simp only [Nat.zero_add, List.nil_append] at hv ho hnd
  subst hv
  go_ret
  exact ⟨B, d, rfl, hnd, Lib.hid ho, ((Below.refl _ _).alloc (Nat.le_refl _) _).trans hbel.out⟩
set_option maxRecDepth 100000 in
set_option maxHeartbeats 1000000 in
theorem own_toO (w : World) (A : Option Addr) (n c : Nat) (l : List (TripO)) (hn : Hid (n = l.length)) (hN : n ≤ 1000000) (hx : Rd w (· < w.heap.size) A (cs toC l)) :
    Calls Tryz.prog 55 #[.slice A n c] w (NewRow w 69 4 (cs toC l) n) := by
  have hx' : Rd (w.alloc (.cells #[] 69)) (· < w.heap.size) A (cs toC l) := hx.keep fun b hb => Below.heap_alloc w _ b hb
  have HX := Lib.hid hx'
  have hl : Hid ((cs toC l).length = n * 4) := by show _ = _; rw [cs_length toC 4 (fun _ => rfl), hn.out]
  have h1 := cs_each to_one l
  have H1 := Lib.hid h1
  clear hx hx' h1
  go_enter Tryz.func55, Tryz.ntmps55
  go_wp2_with (at_builtin; refine wpList_append_rdw rfl (.tmp 3) (.tmp 4) 29 rfl w.heap.size 69 _ 4 32 Tryz.underlying29 info_TripO rfl (by omega) (by omega) _ 0 [] rfl (own_empty (Nat.le_refl _)) _ A n c (cs toC l) rfl hl.out HX.out H1.out (by omega) (by simp) ?_; intro v' w1 hown hbel)
  obtain ⟨B, d, hv, hnd, hrd⟩ := own_form hown.out
  have ho := hown.out
  simp only [Nat.zero_add, List.nil_append] at hv ho hnd
  subst hv
  go_ret
  exact ⟨B, d, rfl, hnd, Lib.hid ho, ((Below.refl _ _).alloc (Nat.le_refl _) _).trans hbel.out⟩
set_option maxRecDepth 100000 in
set_option maxHeartbeats 1000000 in
theorem own_hoO (w : World) (A : Option Addr) (n c : Nat) (l : List (HazO)) (hn : Hid (n = l.length)) (hN : n ≤ 1000000) (hx : Rd w (· < w.heap.size) A (cs hoC l)) :
    Calls Tryz.prog 56 #[.slice A n c] w (NewRow w 125 5 (cs hoC l) n) := by
  have hx' : Rd (w.alloc (.cells #[] 125)) (· < w.heap.size) A (cs hoC l) := hx.keep fun b hb => Below.heap_alloc w _ b hb
  have HX := Lib.hid hx'
  have hl : Hid ((cs hoC l).length = n * 5) := by show _ = _; rw [cs_length hoC 5 (fun _ => rfl), hn.out]
  have h1 := cs_each ho_one l
  have H1 := Lib.hid h1
  clear hx hx' h1
  go_enter Tryz.func56, Tryz.ntmps56
  go_wp2_with (at_builtin; refine wpList_append_rdw rfl (.tmp 3) (.tmp 4) 30 rfl w.heap.size 125 _ 5 40 Tryz.underlying30 info_HazO rfl (by omega) (by omega) _ 0 [] rfl (own_empty (Nat.le_refl _)) _ A n c (cs hoC l) rfl hl.out HX.out H1.out (by omega) (by simp) ?_; intro v' w1 hown hbel)
  obtain ⟨B, d, hv, hnd, hrd⟩ := own_form hown.out
  have ho := hown.out
  simp only [Nat.zero_add, List.nil_append] at hv ho hnd
  subst hv
  go_ret
  exact ⟨B, d, rfl, hnd, Lib.hid ho, ((Below.refl _ _).alloc (Nat.le_refl _) _).trans hbel.out⟩
set_option maxRecDepth 100000 in
set_option maxHeartbeats 1000000 in
theorem own_intI (w : World) (A : Option Addr) (n c : Nat) (l : List (Int)) (hn : Hid (n = l.length)) (hN : n ≤ 1000000) (hx : Rd w (· < w.heap.size) A (cs intC l)) :
    Calls Tryz.prog 57 #[.slice A n c] w (NewRow w 3 1 (cs intC l) n) := by
  have hx' : Rd (w.alloc (.cells #[] 3)) (· < w.heap.size) A (cs intC l) := hx.keep fun b hb => Below.heap_alloc w _ b hb
  have HX := Lib.hid hx'
  have hl : Hid ((cs intC l).length = n * 1) := by show _ = _; rw [cs_length intC 1 (fun _ => rfl), hn.out]
  have h1 := cs_each int_one l
  have H1 := Lib.hid h1
  clear hx hx' h1
  go_enter Tryz.func57, Tryz.ntmps57
  go_wp2_with (at_builtin; refine wpList_append_rdw rfl (.tmp 3) (.tmp 4) 109 rfl w.heap.size 3 _ 1 8 Tryz.underlying109 info_Int rfl (by omega) (by omega) _ 0 [] rfl (own_empty (Nat.le_refl _)) _ A n c (cs intC l) rfl hl.out HX.out H1.out (by omega) (by simp) ?_; intro v' w1 hown hbel)
  obtain ⟨B, d, hv, hnd, hrd⟩ := own_form hown.out
  have ho := hown.out
  simp only [Nat.zero_add, List.nil_append] at hv ho hnd
  subst hv
  go_ret
  exact ⟨B, d, rfl, hnd, Lib.hid ho, ((Below.refl _ _).alloc (Nat.le_refl _) _).trans hbel.out⟩
end Go.Proofs.YtgdanbfglefiiaaGreat.Wo
