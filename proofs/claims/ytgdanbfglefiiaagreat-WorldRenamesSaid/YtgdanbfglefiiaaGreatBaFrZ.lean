/- The kit's Own: a row in memory of the call's own, at each kind of row, proved by walking its text. Conditions: the row has at most a million things. · The kit's OwnRoute: a route in memory of the call's own, proved by walking its text. Conditions: its rows have at most a million things. · A sheet that may be is read from its lines, and each of its lines alone: walked. Conditions: the library's variables hold what start-up lays. · The kit's OwnSheet: a sheet in memory of the call's own, proved by walking its text. Conditions: the sheet's rows have at most a million things. -/
import Derived.Test.YtgdanbfglefiiaaGreatBaF
import Derived.Deep.RegionHeld3
import Derived.Deep.RegionHeldLaw
import Derived.Deep.CutRange
namespace Go.Proofs.YtgdanbfglefiiaaGreat.Sh
open Go.ChangeShapes Go.WideShapes Go.ChangeAt Go.RowKit
open Lx
set_option linter.unusedVariables false
set_option linter.unusedSimpArgs false
theorem pa_one : ∀ a, ∀ u ∈ paC a, u.oneCell' = true := by intro a u hu; simp [paC] at hu; rcases hu with rfl | rfl | rfl | rfl <;> rfl
theorem do_one : ∀ a, ∀ u ∈ doC a, u.oneCell' = true := by intro a u hu; simp [doC] at hu; rcases hu with rfl | rfl | rfl | rfl | rfl | rfl | rfl <;> rfl
theorem tr_one : ∀ a, ∀ u ∈ trC a, u.oneCell' = true := by intro a u hu; simp [trC] at hu; rcases hu with rfl | rfl | rfl | rfl | rfl <;> rfl
theorem ha_one : ∀ a, ∀ u ∈ haC a, u.oneCell' = true := by intro a u hu; simp [haC] at hu; rcases hu with rfl | rfl | rfl | rfl | rfl <;> rfl
set_option maxRecDepth 100000 in
set_option maxHeartbeats 1000000 in
theorem own_str (w : World) (A : Option Addr) (n c : Nat) (l : List (List UInt8)) (hn : Hid (n = l.length)) (hN : n ≤ 1000000) (hx : Rd w (· < w.heap.size) A (cs strC l)) :
    Calls Tryz.prog 45 #[.slice A n c] w (NewRow w 9 1 (cs strC l) n) := by
  have hx' : Rd (w.alloc (.cells #[] 9)) (· < w.heap.size) A (cs strC l) := hx.keep fun b hb => Below.heap_alloc w _ b hb
  have HX := Lib.hid hx'
  have hl : Hid ((cs strC l).length = n * 1) := by show _ = _; rw [cs_length strC 1 (fun _ => rfl), hn.out]
  have h1 := cs_each str_one l
  have H1 := Lib.hid h1
  clear hx hx' h1
  go_enter Tryz.func45, Tryz.ntmps45
  go_wp2_with (at_builtin; refine wpList_append_rdw rfl (.tmp 3) (.tmp 4) 23 rfl w.heap.size 9 _ 1 16 Tryz.underlying23 info_Str rfl (by omega) (by omega) _ 0 [] rfl (own_empty (Nat.le_refl _)) _ A n c (cs strC l) rfl hl.out HX.out H1.out (by omega) (by simp) ?_; intro v' w1 hown hbel)
  obtain ⟨B, d, hv, hnd, hrd⟩ := own_form hown.out
  have ho := hown.out
  simp only [Nat.zero_add, List.nil_append] at hv ho hnd
  subst hv
  go_ret
  exact ⟨B, d, rfl, hnd, Lib.hid ho, ((Below.refl _ _).alloc (Nat.le_refl _) _).trans hbel.out⟩
set_option maxRecDepth 100000 in
set_option maxHeartbeats 1000000 in
theorem own_int (w : World) (A : Option Addr) (n c : Nat) (l : List (Int)) (hn : Hid (n = l.length)) (hN : n ≤ 1000000) (hx : Rd w (· < w.heap.size) A (cs intC l)) :
    Calls Tryz.prog 58 #[.slice A n c] w (NewRow w 2 1 (cs intC l) n) := by
  have hx' : Rd (w.alloc (.cells #[] 2)) (· < w.heap.size) A (cs intC l) := hx.keep fun b hb => Below.heap_alloc w _ b hb
  have HX := Lib.hid hx'
  have hl : Hid ((cs intC l).length = n * 1) := by show _ = _; rw [cs_length intC 1 (fun _ => rfl), hn.out]
  have h1 := cs_each int_one l
  have H1 := Lib.hid h1
  clear hx hx' h1
  go_enter Tryz.func58, Tryz.ntmps58
  go_wp2_with (at_builtin; refine wpList_append_rdw rfl (.tmp 3) (.tmp 4) 70 rfl w.heap.size 2 _ 1 8 Tryz.underlying70 info_int64 rfl (by omega) (by omega) _ 0 [] rfl (own_empty (Nat.le_refl _)) _ A n c (cs intC l) rfl hl.out HX.out H1.out (by omega) (by simp) ?_; intro v' w1 hown hbel)
  obtain ⟨B, d, hv, hnd, hrd⟩ := own_form hown.out
  have ho := hown.out
  simp only [Nat.zero_add, List.nil_append] at hv ho hnd
  subst hv
  go_ret
  exact ⟨B, d, rfl, hnd, Lib.hid ho, ((Below.refl _ _).alloc (Nat.le_refl _) _).trans hbel.out⟩
set_option maxRecDepth 100000 in
set_option maxHeartbeats 1000000 in
theorem own_path (w : World) (A : Option Addr) (n c : Nat) (l : List (PathM)) (hn : Hid (n = l.length)) (hN : n ≤ 1000000) (hx : Rd w (· < w.heap.size) A (cs paC l)) :
    Calls Tryz.prog 46 #[.slice A n c] w (NewRow w 65 4 (cs paC l) n) := by
  have hx' : Rd (w.alloc (.cells #[] 65)) (· < w.heap.size) A (cs paC l) := hx.keep fun b hb => Below.heap_alloc w _ b hb
  have HX := Lib.hid hx'
  have hl : Hid ((cs paC l).length = n * 4) := by show _ = _; rw [cs_length paC 4 (fun _ => rfl), hn.out]
  have h1 := cs_each pa_one l
  have H1 := Lib.hid h1
  clear hx hx' h1
  go_enter Tryz.func46, Tryz.ntmps46
  go_wp2_with (at_builtin; refine wpList_append_rdw rfl (.tmp 3) (.tmp 4) 38 rfl w.heap.size 65 _ 4 56 Tryz.underlying38 info_Path rfl (by omega) (by omega) _ 0 [] rfl (own_empty (Nat.le_refl _)) _ A n c (cs paC l) rfl hl.out HX.out H1.out (by omega) (by simp) ?_; intro v' w1 hown hbel)
  obtain ⟨B, d, hv, hnd, hrd⟩ := own_form hown.out
  have ho := hown.out
  simp only [Nat.zero_add, List.nil_append] at hv ho hnd
  subst hv
  go_ret
  exact ⟨B, d, rfl, hnd, Lib.hid ho, ((Below.refl _ _).alloc (Nat.le_refl _) _).trans hbel.out⟩
set_option maxRecDepth 100000 in
set_option maxHeartbeats 1000000 in
theorem own_door (w : World) (A : Option Addr) (n c : Nat) (l : List (DoorM)) (hn : Hid (n = l.length)) (hN : n ≤ 1000000) (hx : Rd w (· < w.heap.size) A (cs doC l)) :
    Calls Tryz.prog 29 #[.slice A n c] w (NewRow w 55 7 (cs doC l) n) := by
  have hx' : Rd (w.alloc (.cells #[] 55)) (· < w.heap.size) A (cs doC l) := hx.keep fun b hb => Below.heap_alloc w _ b hb
  have HX := Lib.hid hx'
  have hl : Hid ((cs doC l).length = n * 7) := by show _ = _; rw [cs_length doC 7 (fun _ => rfl), hn.out]
  have h1 := cs_each do_one l
  have H1 := Lib.hid h1
  clear hx hx' h1
  go_enter Tryz.func29, Tryz.ntmps29
  go_wp2_with (at_builtin; refine wpList_append_rdw rfl (.tmp 3) (.tmp 4) 39 rfl w.heap.size 55 _ 7 80 Tryz.underlying39 info_Door rfl (by omega) (by omega) _ 0 [] rfl (own_empty (Nat.le_refl _)) _ A n c (cs doC l) rfl hl.out HX.out H1.out (by omega) (by simp) ?_; intro v' w1 hown hbel)
  obtain ⟨B, d, hv, hnd, hrd⟩ := own_form hown.out
  have ho := hown.out
  simp only [Nat.zero_add, List.nil_append] at hv ho hnd
  subst hv
  go_ret
  exact ⟨B, d, rfl, hnd, Lib.hid ho, ((Below.refl _ _).alloc (Nat.le_refl _) _).trans hbel.out⟩
set_option maxRecDepth 100000 in
set_option maxHeartbeats 1000000 in
theorem own_trip (w : World) (A : Option Addr) (n c : Nat) (l : List (TripM)) (hn : Hid (n = l.length)) (hN : n ≤ 1000000) (hx : Rd w (· < w.heap.size) A (cs trC l)) :
    Calls Tryz.prog 27 #[.slice A n c] w (NewRow w 67 5 (cs trC l) n) := by
  have hx' : Rd (w.alloc (.cells #[] 67)) (· < w.heap.size) A (cs trC l) := hx.keep fun b hb => Below.heap_alloc w _ b hb
  have HX := Lib.hid hx'
  have hl : Hid ((cs trC l).length = n * 5) := by show _ = _; rw [cs_length trC 5 (fun _ => rfl), hn.out]
  have h1 := cs_each tr_one l
  have H1 := Lib.hid h1
  clear hx hx' h1
  go_enter Tryz.func27, Tryz.ntmps27
  go_wp2_with (at_builtin; refine wpList_append_rdw rfl (.tmp 3) (.tmp 4) 41 rfl w.heap.size 67 _ 5 56 Tryz.underlying41 info_Trip rfl (by omega) (by omega) _ 0 [] rfl (own_empty (Nat.le_refl _)) _ A n c (cs trC l) rfl hl.out HX.out H1.out (by omega) (by simp) ?_; intro v' w1 hown hbel)
  obtain ⟨B, d, hv, hnd, hrd⟩ := own_form hown.out
  have ho := hown.out
  simp only [Nat.zero_add, List.nil_append] at hv ho hnd
  subst hv
  go_ret
  exact ⟨B, d, rfl, hnd, Lib.hid ho, ((Below.refl _ _).alloc (Nat.le_refl _) _).trans hbel.out⟩
set_option maxRecDepth 100000 in
set_option maxHeartbeats 1000000 in
theorem own_haz (w : World) (A : Option Addr) (n c : Nat) (l : List (HazM)) (hn : Hid (n = l.length)) (hN : n ≤ 1000000) (hx : Rd w (· < w.heap.size) A (cs haC l)) :
    Calls Tryz.prog 28 #[.slice A n c] w (NewRow w 78 5 (cs haC l) n) := by
  have hx' : Rd (w.alloc (.cells #[] 78)) (· < w.heap.size) A (cs haC l) := hx.keep fun b hb => Below.heap_alloc w _ b hb
  have HX := Lib.hid hx'
  have hl : Hid ((cs haC l).length = n * 5) := by show _ = _; rw [cs_length haC 5 (fun _ => rfl), hn.out]
  have h1 := cs_each ha_one l
  have H1 := Lib.hid h1
  clear hx hx' h1
  go_enter Tryz.func28, Tryz.ntmps28
  go_wp2_with (at_builtin; refine wpList_append_rdw rfl (.tmp 3) (.tmp 4) 42 rfl w.heap.size 78 _ 5 56 Tryz.underlying42 info_Haz rfl (by omega) (by omega) _ 0 [] rfl (own_empty (Nat.le_refl _)) _ A n c (cs haC l) rfl hl.out HX.out H1.out (by omega) (by simp) ?_; intro v' w1 hown hbel)
  obtain ⟨B, d, hv, hnd, hrd⟩ := own_form hown.out
  have ho := hown.out
  simp only [Nat.zero_add, List.nil_append] at hv ho hnd
  subst hv
  go_ret
  exact ⟨B, d, rfl, hnd, Lib.hid ho, ((Below.refl _ _).alloc (Nat.le_refl _) _).trans hbel.out⟩
end Go.Proofs.YtgdanbfglefiiaaGreat.Sh
namespace Go.Proofs.YtgdanbfglefiiaaGreat.Sh
open Go.ChangeShapes Go.WideShapes Go.ChangeAt Go.RowKit
open Lx
set_option linter.unusedVariables false
set_option linter.unusedSimpArgs false
theorem rt_read {W : World} {n0 : Nat} {a0 a1 a2 a3 : Value} {tmps : Array Value} (h2 : tmps[2]? = some (.pointer (some ⟨n0, 0, none⟩))) (k0 : Blk W n0 72 [a0, a1, a2, a3]) :
    (results Tryz.f47 tmps).run Tryz.prog W = .ok (.agg #[a0, a1, a2, a3]) W := by
  have x0 : W.cell? ⟨n0, 0, none⟩ = some a0 := k0.cell 0
  have x1 : W.cell? ⟨n0, 1, none⟩ = some a1 := k0.cell 1
  have x2 : W.cell? ⟨n0, 2, none⟩ = some a2 := k0.cell 2
  have x3 : W.cell? ⟨n0, 3, none⟩ = some a3 := k0.cell 3
  simp [results, Tryz.results47, go_sem, h2, x0, x1, x2, x3]
end Go.Proofs.YtgdanbfglefiiaaGreat.Sh
namespace Go.Proofs.YtgdanbfglefiiaaGreat.Sh
open Go.ChangeShapes Go.WideShapes Go.ChangeAt Go.RowKit
open Lx
set_option linter.unusedVariables false
set_option linter.unusedSimpArgs false
section
variable {w : World} {s : Nat} {v0 v1 v2 v3 v4 v5 v6 : Value}
end
end Go.Proofs.YtgdanbfglefiiaaGreat.Sh
namespace Go.Proofs.YtgdanbfglefiiaaGreat.Sh
open Go.ChangeShapes Go.WideShapes Go.ChangeAt Go.RowKit
open Lx
set_option linter.unusedVariables false
set_option linter.unusedSimpArgs false
theorem own_down {w : World} {b b' e size n : Nat} {v : Value} {xs : List Value} (h : w.ownsRow b e size v n xs) (hb : b' ≤ b) : w.ownsRow b' e size v n xs := by
  refine ⟨h.1, ?_⟩
  rcases h.2 with hn | ⟨g, cap, cur, rfl, hbg, rest⟩
  · exact .inl hn
  · exact .inr ⟨g, cap, cur, rfl, by omega, rest⟩
abbrev bxV (s : Nat) : Value := .slice (some ⟨s, 0, none⟩) 0 0
end Go.Proofs.YtgdanbfglefiiaaGreat.Sh
