/- The kit's Own: a row in memory of the call's own, at each kind of row, proved by walking its text. Conditions: the row has at most a million things. · The kit's OwnRoute: a route in memory of the call's own, proved by walking its text. Conditions: its rows have at most a million things. · A sheet that may be is read from its lines, and each of its lines alone: walked. Conditions: the library's variables hold what start-up lays. · The kit's OwnSheet: a sheet in memory of the call's own, proved by walking its text. Conditions: the sheet's rows have at most a million things. -/
import Derived.Test.YtgdanbfglefiiaaGreatBaF
import Derived.Deep.RegionHeld3
import Derived.Deep.RegionHeldLaw
import Derived.Deep.CutRange
namespace Go.Proofs.YtgdanbfglefiiaaGreat.Sh
open Go.ChangeShapes Go.WideShapes Go.ChangeAt Go.RowKit
open Lx
set_option linter.unusedVariables false
set_option linter.unusedSimpArgs false
theorem pa_one : ∀ a, ∀ u ∈ paC a, u.oneCell' = true := by intro a u hu; simp [paC] at hu; rcases hu with rfl | rfl | rfl | rfl <;> rfl
theorem do_one : ∀ a, ∀ u ∈ doC a, u.oneCell' = true := by intro a u hu; simp [doC] at hu; rcases hu with rfl | rfl | rfl | rfl | rfl | rfl | rfl <;> rfl
theorem tr_one : ∀ a, ∀ u ∈ trC a, u.oneCell' = true := by intro a u hu; simp [trC] at hu; rcases hu with rfl | rfl | rfl | rfl | rfl <;> rfl
theorem ha_one : ∀ a, ∀ u ∈ haC a, u.oneCell' = true := by intro a u hu; simp [haC] at hu; rcases hu with rfl | rfl | rfl | rfl | rfl <;> rfl
set_option maxRecDepth 100000 in
set_option maxHeartbeats 1000000 in
theorem own_str (w : World) (A : Option Addr) (n c : Nat) (l : List (List UInt8)) (hn : Hid (n = l.length)) (hN : n ≤ 1000000) (hx : Rd w (· < w.heap.size) A (cs strC l)) :
    Calls Tryz.prog 45 #[.slice A n c] w (NewRow w 9 1 (cs strC l) n) := by
  have hx' : Rd (w.alloc (.cells #[] 9)) (· < w.heap.size) A (cs strC l) := hx.keep fun b hb => Below.heap_alloc w _ b hb
  have HX := Lib.hid hx'
  have hl : Hid ((cs strC l).length = n * 1) := by show _ = _; rw [cs_length strC 1 (fun _ => rfl), hn.out]
  have h1 := cs_each str_one l
  have H1 := Lib.hid h1
  clear hx hx' h1
  go_enter Tryz.func45, Tryz.ntmps45
  go_wp2_with (at_builtin; refine wpList_append_rdw rfl (.tmp 3) (.tmp 4) 23 rfl w.heap.size 9 _ 1 16 Tryz.underlying23 info_Str rfl (by omega) (by omega) _ 0 [] rfl (own_empty (Nat.le_refl _)) _ A n c (cs strC l) rfl hl.out HX.out H1.out (by omega) (by simp) ?_; intro v' w1 hown hbel)
  obtain ⟨B, d, hv, hnd, hrd⟩ := own_form hown.out
  have ho := hown.out
  simp only [Nat.zero_add, List.nil_append] at hv ho hnd
  subst hv
  go_ret
  exact ⟨B, d, rfl, hnd, Lib.hid ho, ((Below.refl _ _).alloc (Nat.le_refl _) _).trans hbel.out⟩
set_option maxRecDepth 100000 in
set_option maxHeartbeats 1000000 in
theorem own_int (w : World) (A : Option Addr) (n c : Nat) (l : List (Int)) (hn : Hid (n = l.length)) (hN : n ≤ 1000000) (hx : Rd w (· < w.heap.size) A (cs intC l)) :
    Calls Tryz.prog 58 #[.slice A n c] w (NewRow w 2 1 (cs intC l) n) := by
  have hx' : Rd (w.alloc (.cells #[] 2)) (· < w.heap.size) A (cs intC l) := hx.keep fun b hb => Below.heap_alloc w _ b hb
  have HX := Lib.hid hx'
  have hl : Hid ((cs intC l).length = n * 1) := by show _ = _; rw [cs_length intC 1 (fun _ => rfl), hn.out]
  have h1 := cs_each int_one l
  have H1 := Lib.hid h1
  clear hx hx' h1
  go_enter Tryz.func58, Tryz.ntmps58
  go_wp2_with (at_builtin; refine wpList_append_rdw rfl (.tmp 3) (.tmp 4) 70 rfl w.heap.size 2 _ 1 8 Tryz.underlying70 info_int64 rfl (by omega) (by omega) _ 0 [] rfl (own_empty (Nat.le_refl _)) _ A n c (cs intC l) rfl hl.out HX.out H1.out (by omega) (by simp) ?_; intro v' w1 hown hbel)
  obtain ⟨B, d, hv, hnd, hrd⟩ := own_form hown.out
  have ho := hown.out
  simp only [Nat.zero_add, List.nil_append] at hv ho hnd
  subst hv
  go_ret
  exact ⟨B, d, rfl, hnd, Lib.hid ho, ((Below.refl _ _).alloc (Nat.le_refl _) _).trans hbel.out⟩
set_option maxRecDepth 100000 in
set_option maxHeartbeats 1000000 in
theorem own_path (w : World) (A : Option Addr) (n c : Nat) (l : List (PathM)) (hn : Hid (n = l.length)) (hN : n ≤ 1000000) (hx : Rd w (· < w.heap.size) A (cs paC l)) :
    Calls Tryz.prog 46 #[.slice A n c] w (NewRow w 65 4 (cs paC l) n) := by
  have hx' : Rd (w.alloc (.cells #[] 65)) (· < w.heap.size) A (cs paC l) := hx.keep fun b hb => Below.heap_alloc w _ b hb
  have HX := Lib.hid hx'
  have hl : Hid ((cs paC l).length = n * 4) := by show _ = _; rw [cs_length paC 4 (fun _ => rfl), hn.out]
  have h1 := cs_each pa_one l
  have H1 := Lib.hid h1
  clear hx hx' h1
  go_enter Tryz.func46, Tryz.ntmps46
  go_wp2_with (at_builtin; refine wpList_append_rdw rfl (.tmp 3) (.tmp 4) 38 rfl w.heap.size 65 _ 4 56 Tryz.underlying38 info_Path rfl (by omega) (by omega) _ 0 [] rfl (own_empty (Nat.le_refl _)) _ A n c (cs paC l) rfl hl.out HX.out H1.out (by omega) (by simp) ?_; intro v' w1 hown hbel)
  obtain ⟨B, d, hv, hnd, hrd⟩ := own_form hown.out
  have ho := hown.out
  simp only [Nat.zero_add, List.nil_append] at hv ho hnd
  subst hv
  go_ret
  exact ⟨B, d, rfl, hnd, Lib.hid ho, ((Below.refl _ _).alloc (Nat.le_refl _) _).trans hbel.out⟩
set_option maxRecDepth 100000 in
set_option maxHeartbeats 1000000 in
theorem own_door (w : World) (A : Option Addr) (n c : Nat) (l : List (DoorM)) (hn : Hid (n = l.length)) (hN : n ≤ 1000000) (hx : Rd w (· < w.heap.size) A (cs doC l)) :
    Calls Tryz.prog 29 #[.slice A n c] w (NewRow w 55 7 (cs doC l) n) := by
  have hx' : Rd (w.alloc (.cells #[] 55)) (· < w.heap.size) A (cs doC l) := hx.keep fun b hb => Below.heap_alloc w _ b hb
  have HX := Lib.hid hx'
  have hl : Hid ((cs doC l).length = n * 7) := by show _ = _; rw [cs_length doC 7 (fun _ => rfl), hn.out]
  have h1 := cs_each do_one l
  have H1 := Lib.hid h1
  clear hx hx' h1
  go_enter Tryz.func29, Tryz.ntmps29
  go_wp2_with (at_builtin; refine wpList_append_rdw rfl (.tmp 3) (.tmp 4) 39 rfl w.heap.size 55 _ 7 80 Tryz.underlying39 info_Door rfl (by omega) (by omega) _ 0 [] rfl (own_empty (Nat.le_refl _)) _ A n c (cs doC l) rfl hl.out HX.out H1.out (by omega) (by simp) ?_; intro v' w1 hown hbel)
  obtain ⟨B, d, hv, hnd, hrd⟩ := own_form hown.out
  have ho := hown.out
  simp only [Nat.zero_add, List.nil_append] at hv ho hnd
  subst hv
  go_ret
  exact ⟨B, d, rfl, hnd, Lib.hid ho, ((Below.refl _ _).alloc (Nat.le_refl _) _).trans hbel.out⟩
set_option maxRecDepth 100000 in
set_option maxHeartbeats 1000000 in
theorem own_trip (w : World) (A : Option Addr) (n c : Nat) (l : List (TripM)) (hn : Hid (n = l.length)) (hN : n ≤ 1000000) (hx : Rd w (· < w.heap.size) A (cs trC l)) :
    Calls Tryz.prog 27 #[.slice A n c] w (NewRow w 67 5 (cs trC l) n) := by
  have hx' : Rd (w.alloc (.cells #[] 67)) (· < w.heap.size) A (cs trC l) := hx.keep fun b hb => Below.heap_alloc w _ b hb
  have HX := Lib.hid hx'
  have hl : Hid ((cs trC l).length = n * 5) := by show _ = _; rw [cs_length trC 5 (fun _ => rfl), hn.out]
  have h1 := cs_each tr_one l
  have H1 := Lib.hid h1
  clear hx hx' h1
  go_enter Tryz.func27, Tryz.ntmps27
  go_wp2_with (at_builtin; refine wpList_append_rdw rfl (.tmp 3) (.tmp 4) 41 rfl w.heap.size 67 _ 5 56 Tryz.underlying41 info_Trip rfl (by omega) (by omega) _ 0 [] rfl (own_empty (Nat.le_refl _)) _ A n c (cs trC l) rfl hl.out HX.out H1.out (by omega) (by simp) ?_; intro v' w1 hown hbel)
  obtain ⟨B, d, hv, hnd, hrd⟩ := own_form hown.out
  have ho := hown.out
  simp only [Nat.zero_add, List.nil_append] at hv ho hnd
  subst hv
  go_ret
  exact ⟨B, d, rfl, hnd, Lib.hid ho, ((Below.refl _ _).alloc (Nat.le_refl _) _).trans hbel.out⟩
set_option maxRecDepth 100000 in
set_option maxHeartbeats 1000000 in
theorem own_haz (w : World) (A : Option Addr) (n c : Nat) (l : List (HazM)) (hn : Hid (n = l.length)) (hN : n ≤ 1000000) (hx : Rd w (· < w.heap.size) A (cs haC l)) :
    Calls Tryz.prog 28 #[.slice A n c] w (NewRow w 78 5 (cs haC l) n) := by
  have hx' : Rd (w.alloc (.cells #[] 78)) (· < w.heap.size) A (cs haC l) := hx.keep fun b hb => Below.heap_alloc w _ b hb
  have HX := Lib.hid hx'
  have hl : Hid ((cs haC l).length = n * 5) := by show _ = _; rw [cs_length haC 5 (fun _ => rfl), hn.out]
  have h1 := cs_each ha_one l
  have H1 := Lib.hid h1
  clear hx hx' h1
  go_enter Tryz.func28, Tryz.ntmps28
  go_wp2_with (at_builtin; refine wpList_append_rdw rfl (.tmp 3) (.tmp 4) 42 rfl w.heap.size 78 _ 5 56 Tryz.underlying42 info_Haz rfl (by omega) (by omega) _ 0 [] rfl (own_empty (Nat.le_refl _)) _ A n c (cs haC l) rfl hl.out HX.out H1.out (by omega) (by simp) ?_; intro v' w1 hown hbel)
  obtain ⟨B, d, hv, hnd, hrd⟩ := own_form hown.out
  have ho := hown.out
  simp only [Nat.zero_add, List.nil_append] at hv ho hnd
  subst hv
  go_ret
  exact ⟨B, d, rfl, hnd, Lib.hid ho, ((Below.refl _ _).alloc (Nat.le_refl _) _).trans hbel.out⟩
end Go.Proofs.YtgdanbfglefiiaaGreat.Sh
namespace Go.Proofs.YtgdanbfglefiiaaGreat.Sh
open Go.ChangeShapes Go.WideShapes Go.ChangeAt Go.RowKit
open Lx
set_option linter.unusedVariables false
set_option linter.unusedSimpArgs false
theorem rt_read {W : World} {n0 : Nat} {a0 a1 a2 a3 : Value} {tmps : Array Value} (h2 : tmps[2]? = some (.pointer (some ⟨n0, 0, none⟩))) (k0 : Blk W n0 72 [a0, a1, a2, a3]) :
    (results Tryz.f47 tmps).run Tryz.prog W = .ok (.agg #[a0, a1, a2, a3]) W := by
  have x0 : W.cell? ⟨n0, 0, none⟩ = some a0 := k0.cell 0
  have x1 : W.cell? ⟨n0, 1, none⟩ = some a1 := k0.cell 1
  have x2 : W.cell? ⟨n0, 2, none⟩ = some a2 := k0.cell 2
  have x3 : W.cell? ⟨n0, 3, none⟩ = some a3 := k0.cell 3
  simp [results, Tryz.results47, go_sem, h2, x0, x1, x2, x3]
set_option maxRecDepth 100000 in
set_option maxHeartbeats 4000000 in
theorem own_route (r : RouteM) (sa ra ya : Option Addr) (sc rc yc : Nat) (w : World) (h : RtAt w (· < w.heap.size) r sa ra ya) (hf : Few r) :
    Calls Tryz.prog 47 #[rtV r sa ra ya sc rc yc] w (OwnRtPost w r) := by
  obtain ⟨nm, S, R, Y⟩ := r
  dsimp only [rtV]
  have HH := Lib.hid h
  have HF := Lib.hid hf
  obtain ⟨ns, hns⟩ : ∃ n, n = S.length := ⟨_, rfl⟩
  obtain ⟨nr, hnr⟩ : ∃ n, n = R.length := ⟨_, rfl⟩
  obtain ⟨ny, hny⟩ : ∃ n, n = Y.length := ⟨_, rfl⟩
  have C1 : Hid (∀ w', Below w.heap.size w w' → Calls Tryz.prog 45 #[.slice sa ns sc] w' (NewRow w' 9 1 (cs strC S) ns)) := Lib.hid (fun w' hb => own_str w' sa ns sc S (Lib.hid hns) (by rw [hns]; exact hf.1) (rd_later h.hs hb))
  have C2 : Hid (∀ w', Below w.heap.size w w' → Calls Tryz.prog 58 #[.slice ra nr rc] w' (NewRow w' 2 1 (cs intC R) nr)) := Lib.hid (fun w' hb => own_int w' ra nr rc R (Lib.hid hnr) (by rw [hnr]; exact hf.2.1) (rd_later h.hr hb))
  have C3 : Hid (∀ w', Below w.heap.size w w' → Calls Tryz.prog 58 #[.slice ya ny yc] w' (NewRow w' 2 1 (cs intC Y) ny)) := Lib.hid (fun w' hb => own_int w' ya ny yc Y (Lib.hid hny) (by rw [hny]; exact hf.2.2) (rd_later h.hy hb))
  have EE := Lib.hid (And.intro hns (And.intro hnr hny))
  rw [← hns, ← hnr, ← hny]
  clear h hf hns hnr hny HF
  go_enter Tryz.func47, Tryz.ntmps47
  go_wp2_with fail
  obtain ⟨W, hW⟩ : ∃ W, W = (w.alloc (.cells #[.string ⟨nm.toArray⟩, .slice sa ns sc, .slice ra nr rc, .slice ya ny yc] 72)).alloc (.cells #[.string ⟨#[]⟩, .slice none 0 0, .slice none 0 0, .slice none 0 0] 72) := ⟨_, rfl⟩
  have hW0 : Below w.heap.size w W := by rw [hW]; exact two_box _ _ _
  have k0 : Blk W w.heap.size 72 [.string ⟨nm.toArray⟩, .slice sa ns sc, .slice ra nr rc, .slice ya ny yc] := by rw [hW]; exact (Blk.new w _ _).alloc _
  have k1 : Blk W (w.heap.size + 1) 72 [.string ⟨#[]⟩, .slice none 0 0, .slice none 0 0, .slice none 0 0] := by rw [hW]; exact Blk.new2 w _ _ _
  have K0 := Lib.hid k0
  have K1 := Lib.hid k1
  have HW0 := Lib.hid hW0
  rw [← hW]
  clear hW k0 k1 hW0
  have KC : Hid (∀ w', Below W.heap.size W w' → (w'.cell? ⟨w.heap.size, 0, none⟩ = some (.string ⟨nm.toArray⟩) ∧ w'.cell? ⟨w.heap.size, 1, none⟩ = some (.slice sa ns sc) ∧ w'.cell? ⟨w.heap.size, 2, none⟩ = some (.slice ra nr rc) ∧ w'.cell? ⟨w.heap.size, 3, none⟩ = some (.slice ya ny yc)) ∧ (w'.cell? ⟨w.heap.size + 1, 0, none⟩ = some (.string ⟨#[]⟩) ∧ w'.cell? ⟨w.heap.size + 1, 1, none⟩ = some (.slice none 0 0) ∧ w'.cell? ⟨w.heap.size + 1, 2, none⟩ = some (.slice none 0 0) ∧ w'.cell? ⟨w.heap.size + 1, 3, none⟩ = some (.slice none 0 0) ∧ w'.frozen? ⟨w.heap.size + 1, 0, none⟩ = false ∧ w'.frozen? ⟨w.heap.size + 1, 1, none⟩ = false ∧ w'.frozen? ⟨w.heap.size + 1, 2, none⟩ = false ∧ w'.frozen? ⟨w.heap.size + 1, 3, none⟩ = false)) := by
    refine Lib.hid (fun w' hb => ?_)
    have a := K0.out.after hb
    have b := K1.out.after hb
    exact ⟨⟨a.cell 0, a.cell 1, a.cell 2, a.cell 3⟩, b.cell 0, b.cell 1, b.cell 2, b.cell 3, b.frozen 0, b.frozen 1, b.frozen 2, b.frozen 3⟩
  go_region_held3 (fun w' => w'.cell? ⟨w.heap.size, 0, none⟩ = some (.string ⟨nm.toArray⟩) ∧ w'.cell? ⟨w.heap.size, 1, none⟩ = some (.slice sa ns sc) ∧ w'.cell? ⟨w.heap.size, 2, none⟩ = some (.slice ra nr rc) ∧ w'.cell? ⟨w.heap.size, 3, none⟩ = some (.slice ya ny yc)) (first | exact (KC.out _ Q3.out).1 | exact (KC.out _ Q2.out).1 | exact (KC.out _ Q1.out).1 | exact (KC.out _ (below_drew (Below.refl _ _))).1 | go_keep) (first
    | (go_at_call 58; (with_reducible refine (C3.out _ (keep_trans HW0.out Q2.out)).mono ?_); rintro e' w3 ⟨A3, c3, rfl, hc3, hO3, hb⟩; have Q3 := Lib.hid (keep_trans Q2.out hb); have O33 := Lib.hid hO3.out; have O23 := Lib.hid (own_after O22.out hb); have O13 := Lib.hid (own_after O12.out hb); obtain ⟨-, x0, x1, x2, x3, y0, y1, y2, y3⟩ := KC.out _ Q3.out; clear hb hO3)
    | (go_at_call 58; (with_reducible refine (C2.out _ (keep_trans HW0.out Q1.out)).mono ?_); rintro e' w2 ⟨A2, c2, rfl, hc2, hO2, hb⟩; have Q2 := Lib.hid (keep_trans Q1.out hb); have O22 := Lib.hid hO2.out; have O12 := Lib.hid (own_after O11.out hb); clear hb hO2)
    | (go_at_call 45; (with_reducible refine (C1.out _ (below_drew HW0.out)).mono ?_); rintro e' w1 ⟨A1, c1, rfl, hc1, hO1, hb⟩; have Q1 : Hid (Below W.heap.size W w1) := Lib.hid (keep_trans (below_drew (Below.refl _ W)) hb); have O11 := Lib.hid hO1.out; clear hb hO1)
    | fail)
  have KF := Lib.hid (((((K1.out.after Q3.out).set_ 0 (.string ⟨nm.toArray⟩)).set_ 1 (.slice A1 ns c1)).set_ 2 (.slice A2 nr c2)).set_ 3 (.slice A3 ny c3))
  have hz := K1.out.lt
  have z1 := Q1.out.size
  have z2 := Q2.out.size
  go_wp2
  refine bodyPost_ret (v := .agg #[.string ⟨nm.toArray⟩, .slice A1 ns c1, .slice A2 nr c2, .slice A3 ny c3]) (rt_read rfl KF.out) rfl ?_
  obtain ⟨e1, e2, e3⟩ := EE.out
  refine ⟨A1, A2, A3, c1, c2, c3, by rw [e1, e2, e3], ⟨rd_set4 (own_rd O13.out) (by show _ < W.heap.size; omega) (by show _ ≤ W.heap.size; omega), rd_set4 (own_rd O23.out) (by omega) (by omega), rd_set4 (own_rd O33.out) (by omega) (by omega)⟩, ?_⟩
  exact below_set1 (below_set1 (below_set1 (below_set1 (keep_trans HW0.out Q3.out) (by simp) _) (by simp) _) (by simp) _) (by simp) _
end Go.Proofs.YtgdanbfglefiiaaGreat.Sh
namespace Go.Proofs.YtgdanbfglefiiaaGreat.Sh
open Go.ChangeShapes Go.WideShapes Go.ChangeAt Go.RowKit
open Lx
set_option linter.unusedVariables false
set_option linter.unusedSimpArgs false
section
variable {w : World} {s : Nat} {v0 v1 v2 v3 v4 v5 v6 : Value}
end
end Go.Proofs.YtgdanbfglefiiaaGreat.Sh
namespace Go.Proofs.YtgdanbfglefiiaaGreat.Sh
open Go.ChangeShapes Go.WideShapes Go.ChangeAt Go.RowKit
open Lx
set_option linter.unusedVariables false
set_option linter.unusedSimpArgs false
theorem own_down {w : World} {b b' e size n : Nat} {v : Value} {xs : List Value} (h : w.ownsRow b e size v n xs) (hb : b' ≤ b) : w.ownsRow b' e size v n xs := by
  refine ⟨h.1, ?_⟩
  rcases h.2 with hn | ⟨g, cap, cur, rfl, hbg, rest⟩
  · exact .inl hn
  · exact .inr ⟨g, cap, cur, rfl, by omega, rest⟩
abbrev bxV (s : Nat) : Value := .slice (some ⟨s, 0, none⟩) 0 0
/-- rows of the call's own beyond B; those of routes are none that is appended to, and not the box -/
structure OwS (w : World) (B s : Nat) (x : SheetM) (v1 v2 v3 v4 v5 v6 : Value) : Prop where
  r1 : w.ownsRow (B + 1) 9 1 v1 x.stops.length (cs strC x.stops)
  r2 : w.ownsRow (B + 1) 65 4 v2 x.paths.length (cs paC x.paths)
  r3 : w.ownsRow (B + 1) 55 7 v3 x.doors.length (cs doC x.doors)
  r4 : ∃ c, w.ownsRow (B + 1) 72 4 v4 x.routes.length c ∧ Rts w (Away w B [v1, v2, v3, v4, v5, v6, bxV s]) x.routes c
  r5 : w.ownsRow (B + 1) 67 5 v5 x.trips.length (cs trC x.trips)
  r6 : w.ownsRow (B + 1) 78 5 v6 x.hazards.length (cs haC x.hazards)
theorem OwS.keep {w w' : World} {B s : Nat} {x : SheetM} {v1 v2 v3 v4 v5 v6 : Value} (h : OwS w B s x v1 v2 v3 v4 v5 v6) {X : Nat → Prop} (hc : Ch X w w') (h1 : ∀ v ∈ [v1, v2, v3, v4, v5, v6], ∀ k, v.ownBlock = some k → ¬ X k) (h2 : ∀ b, Away w B [v1, v2, v3, v4, v5, v6, bxV s] b → ¬ X b) : OwS w' B s x v1 v2 v3 v4 v5 v6 := by
  obtain ⟨c, h4, h4'⟩ := h.r4
  exact ⟨hc.own h.r1 (h1 _ (by simp)), hc.own h.r2 (h1 _ (by simp)), hc.own h.r3 (h1 _ (by simp)), ⟨c, hc.own h4 (h1 _ (by simp)), (h4'.keep fun b hb => hc.block b hb.2.1 (h2 b hb)).more fun b hb => hb.on hc.size fun _ h => .inl h⟩, hc.own h.r5 (h1 _ (by simp)), hc.own h.r6 (h1 _ (by simp))⟩
theorem OwS.after {w w' : World} {B s : Nat} {x : SheetM} {v1 v2 v3 v4 v5 v6 : Value} (h : OwS w B s x v1 v2 v3 v4 v5 v6) (hb : Below w.heap.size w w') : OwS w' B s x v1 v2 v3 v4 v5 v6 :=
  h.keep (Ch.of_below (X := fun _ => False) hb) (fun _ _ _ _ h => h) (fun _ _ h => h)
/-- what lies at or below B is changed -/
theorem OwS.low {w w' : World} {B s : Nat} {x : SheetM} {v1 v2 v3 v4 v5 v6 : Value} (h : OwS w B s x v1 v2 v3 v4 v5 v6) {X : Nat → Prop} (hc : Ch X w w') (hX : ∀ k, X k → k ≤ B) : OwS w' B s x v1 v2 v3 v4 v5 v6 := by
  obtain ⟨c, h4, h4'⟩ := h.r4
  refine h.keep hc ?_ (fun b hb e => by have := hX b e; have := hb.1; omega)
  intro v hv k hk e
  have := hX k e
  simp only [List.mem_cons, List.not_mem_nil, or_false] at hv
  rcases hv with rfl | rfl | rfl | rfl | rfl | rfl
  · have := (h.r1.lt k hk).1; omega
  · have := (h.r2.lt k hk).1; omega
  · have := (h.r3.lt k hk).1; omega
  · have := (h4.lt k hk).1; omega
  · have := (h.r5.lt k hk).1; omega
  · have := (h.r6.lt k hk).1; omega
/-- the box is written -/
theorem OwS.box {w w' : World} {B s : Nat} {x : SheetM} {v1 v2 v3 v4 v5 v6 : Value} {l : List Value} (h : OwS w B s x v1 v2 v3 v4 v5 v6) (hk : Blk w s 44 l) (hc : Ch (· = s) w w') : OwS w' B s x v1 v2 v3 v4 v5 v6 := by
  obtain ⟨c, h4, h4'⟩ := h.r4
  refine h.keep hc ?_ (fun b hb e => hb.2.2 (bxV s) (by simp) (by rw [e]; rfl))
  intro v hv
  simp only [List.mem_cons, List.not_mem_nil, or_false] at hv
  rcases hv with rfl | rfl | rfl | rfl | rfl | rfl
  · exact own_ne_blk h.r1 hk (by decide)
  · exact own_ne_blk h.r2 hk (by decide)
  · exact own_ne_blk h.r3 hk (by decide)
  · exact own_ne_blk h4 hk (by decide)
  · exact own_ne_blk h.r5 hk (by decide)
  · exact own_ne_blk h.r6 hk (by decide)
/-- a route more -/
theorem OwS.route {w0 w1 w2 w3 : World} {B s : Nat} {x : SheetM} {v1 v2 v3 v4 v5 v6 v4' : Value} {r : RouteM} {sa ra ya : Option Addr} {sc rc yc : Nat} {l c : List Value}
    (h : OwS w0 B s x v1 v2 v3 v4 v5 v6) (h4 : w0.ownsRow (B + 1) 72 4 v4 x.routes.length c) (h4' : Rts w0 (Away w0 B [v1, v2, v3, v4, v5, v6, bxV s]) x.routes c) (hs : Blk w0 s 44 l) (hB : B < w0.heap.size)
    (h1 : Below w0.heap.size w0 w1) (hr : RtAt w1 (fun b => w0.heap.size ≤ b ∧ b < w1.heap.size) r sa ra ya) (h2 : Below w1.heap.size w1 w2)
    (h3 : w3.ownsRow (B + 1) 72 4 v4' (x.routes.length + 1) (c ++ [.string ⟨r.name.toArray⟩, .slice sa r.stops.length sc, .slice ra r.rides.length rc, .slice ya r.stays.length yc]))
    (hg : w2.grownBy w3 v4.ownBlock) (hor : v4'.ownBlock = v4.ownBlock ∨ v4'.ownBlock = some w2.heap.size) :
    OwS (w3.setCell ⟨s, 4, none⟩ v4') B s { x with routes := x.routes ++ [r] } v1 v2 v3 v4' v5 v6 ∧ Blk (w3.setCell ⟨s, 4, none⟩ v4') s 44 (l.set 4 v4') := by
  have hw : Below w0.heap.size w0 w2 := keep_trans h1 h2
  have g2 := h.after hw
  have k2 := hs.after hw
  have o4 := own_after h4 hw
  have r4 : Rts w2 (Away w2 B [v1, v2, v3, v4, v5, v6, bxV s]) x.routes c := (h4'.keep fun b hb => hw.block b hb.2.1).more fun b hb => hb.on hw.size fun _ h => .inl h
  have hX : Ch (fun b => some b = v4.ownBlock) w2 w3 := Ch.of_grown hg fun k e => e
  have f : ∀ {e size n : Nat} {v : Value} {xs : List Value}, e ≠ 72 → w2.ownsRow (B + 1) e size v n xs → w3.ownsRow (B + 1) e size v n xs := fun hne ho => hX.own ho fun k hk e => own_ne ho o4 hne k hk e.symm
  have k3 := hX.blk k2 fun e => own_ne_blk o4 k2 (by decide) s e.symm rfl
  have hsz := h1.size
  have hsz2 := h2.size
  have g3 : OwS w3 B s { x with routes := x.routes ++ [r] } v1 v2 v3 v4' v5 v6 := by
    refine ⟨f (by decide) g2.r1, f (by decide) g2.r2, f (by decide) g2.r3, ⟨_, by simpa using h3, Rts.snoc ?_ ?_⟩, f (by decide) g2.r5, f (by decide) g2.r6⟩
    · have hb : ∀ b, w0.heap.size ≤ b ∧ b < w1.heap.size → w3.heap[b]? = w1.heap[b]? := fun b hb => (hX.block b (by omega) (fun e => by have := (h4.lt b e.symm).2; omega)).trans (h2.block b hb.2)
      have ha : ∀ b, w0.heap.size ≤ b ∧ b < w1.heap.size → Away w3 B [v1, v2, v3, v4', v5, v6, bxV s] b := fun b hb => by
        refine ⟨by omega, by have := hX.size; omega, fun v hv e => ?_⟩
        simp only [List.mem_cons, List.not_mem_nil, or_false] at hv
        rcases hv with rfl | rfl | rfl | rfl | rfl | rfl | rfl
        · have := (h.r1.lt b e).2; omega
        · have := (h.r2.lt b e).2; omega
        · have := (h.r3.lt b e).2; omega
        · rcases hor with e2 | e2
          · rw [e2] at e; have := (h4.lt b e).2; omega
          · rw [e2] at e; injection e with e; omega
        · have := (h.r5.lt b e).2; omega
        · have := (h.r6.lt b e).2; omega
        · have e2 : (some s : Option Nat) = some b := e
          injection e2 with e2
          have := hs.lt
          omega
      exact ⟨sa, sc, ra, rc, ya, yc, [], rfl, (hr.hs.keep hb).more ha, (hr.hr.keep hb).more ha, (hr.hy.keep hb).more ha, rfl⟩
    · refine (r4.keep fun b hb => hX.block b hb.2.1 fun e => hb.2.2 v4 (by simp) e.symm).more fun b hb => hb.on hX.size ?_
      intro v' hv'
      simp only [List.mem_cons, List.not_mem_nil, or_false] at hv'
      rcases hv' with rfl | rfl | rfl | rfl | rfl | rfl | rfl
      · exact .inl (by simp)
      · exact .inl (by simp)
      · exact .inl (by simp)
      · refine .inr ⟨v4, by simp, ?_⟩
        rcases hor with e | e
        · exact .inl e
        · exact .inr ⟨_, e, Nat.le_refl _⟩
      · exact .inl (by simp)
      · exact .inl (by simp)
      · exact .inl (by simp)
  exact ⟨g3.box k3 (ch_set w3 s 4 v4'), k3.set_ 4 v4'⟩
end Go.Proofs.YtgdanbfglefiiaaGreat.Sh
