/- The kit's OwnRoute: a route in memory of the call's own, proved by walking its text. Conditions: its rows have at most a million things. -/
import Derived.Test.YtcmlmfcnbmpajaaGreatDoorKitOwn
import Derived.Test.YtcmlmfcnbmpajaaGreatDoorSameB
import Derived.Deep.RegionHeld3
namespace Go.Proofs.YtcmlmfcnbmpajaaGreatDoor.Sh
open Go.ChangeShapes Go.WideShapes Go.ChangeAt Go.RowKit
open Lx
set_option linter.unusedVariables false
set_option linter.unusedSimpArgs false
theorem below_set1 {B : Nat} {a w : World} {p : Addr} (h : Below B a w) (hp : B ≤ p.block) (u : Value) : Below B a (w.setCell p u) := ⟨h.os, h.tape, h.output, by simpa [World.setCell] using h.size, fun k hk => (Below.heap_setCell _ _ _ _ (by rintro rfl; omega)).trans (h.block k hk)⟩
theorem set4_keep {w : World} {g : Nat} {a b c d : Value} {k : Nat} (h : k ≠ g) : ((((w.setCell ⟨g, 0, none⟩ a).setCell ⟨g, 1, none⟩ b).setCell ⟨g, 2, none⟩ c).setCell ⟨g, 3, none⟩ d).heap[k]? = w.heap[k]? :=
  ((Below.heap_setCell _ _ _ _ (by exact h)).trans (Below.heap_setCell _ _ _ _ (by exact h))).trans ((Below.heap_setCell _ _ _ _ (by exact h)).trans (Below.heap_setCell _ _ _ _ (by exact h)))
theorem set4_size {w : World} {g : Nat} {a b c d : Value} : ((((w.setCell ⟨g, 0, none⟩ a).setCell ⟨g, 1, none⟩ b).setCell ⟨g, 2, none⟩ c).setCell ⟨g, 3, none⟩ d).heap.size = w.heap.size := by simp
theorem rd_set4 {w : World} {g B lo : Nat} {a b c d : Value} {A : Option Addr} {xs : List Value} (h : Rd w (fun i => B ≤ i ∧ i < w.heap.size) A xs) (hg : g < B) (hlo : lo ≤ B) :
    Rd ((((w.setCell ⟨g, 0, none⟩ a).setCell ⟨g, 1, none⟩ b).setCell ⟨g, 2, none⟩ c).setCell ⟨g, 3, none⟩ d) (fun i => lo ≤ i ∧ i < ((((w.setCell ⟨g, 0, none⟩ a).setCell ⟨g, 1, none⟩ b).setCell ⟨g, 2, none⟩ c).setCell ⟨g, 3, none⟩ d).heap.size) A xs :=
  (h.keep fun k hk => set4_keep (by omega)).more fun k hk => ⟨by omega, by rw [set4_size]; exact hk.2⟩
def OwnRtPost (w : World) (r : RouteM) (e : Ending) (w' : World) : Prop :=
  ∃ sa ra ya sc rc yc, e = .returned (rtV r sa ra ya sc rc yc) ∧ RtAt w' (fun b => w.heap.size ≤ b ∧ b < w'.heap.size) r sa ra ya ∧ Below w.heap.size w w'
theorem rt_read {W : World} {n0 : Nat} {a0 a1 a2 a3 : Value} {tmps : Array Value} (h2 : tmps[2]? = some (.pointer (some ⟨n0, 0, none⟩))) (k0 : Blk W n0 38 [a0, a1, a2, a3]) :
    (results Tryz.f38 tmps).run Tryz.prog W = .ok (.agg #[a0, a1, a2, a3]) W := by
  have x0 : W.cell? ⟨n0, 0, none⟩ = some a0 := k0.cell 0
  have x1 : W.cell? ⟨n0, 1, none⟩ = some a1 := k0.cell 1
  have x2 : W.cell? ⟨n0, 2, none⟩ = some a2 := k0.cell 2
  have x3 : W.cell? ⟨n0, 3, none⟩ = some a3 := k0.cell 3
  simp [results, Tryz.results38, go_sem, h2, x0, x1, x2, x3]
set_option maxRecDepth 100000 in
set_option maxHeartbeats 4000000 in
theorem own_route (r : RouteM) (sa ra ya : Option Addr) (sc rc yc : Nat) (w : World) (h : RtAt w (· < w.heap.size) r sa ra ya) (hf : Few r) :
    Calls Tryz.prog 38 #[rtV r sa ra ya sc rc yc] w (OwnRtPost w r) := by
  obtain ⟨nm, S, R, Y⟩ := r
  dsimp only [rtV]
  have HH := Lib.hid h
  have HF := Lib.hid hf
  obtain ⟨ns, hns⟩ : ∃ n, n = S.length := ⟨_, rfl⟩
  obtain ⟨nr, hnr⟩ : ∃ n, n = R.length := ⟨_, rfl⟩
  obtain ⟨ny, hny⟩ : ∃ n, n = Y.length := ⟨_, rfl⟩
  have C1 : Hid (∀ w', Below w.heap.size w w' → Calls Tryz.prog 33 #[.slice sa ns sc] w' (NewRow w' 9 1 (cs strC S) ns)) := Lib.hid (fun w' hb => own_str w' sa ns sc S (Lib.hid hns) (by rw [hns]; exact hf.1) (rd_later h.hs hb))
  have C2 : Hid (∀ w', Below w.heap.size w w' → Calls Tryz.prog 69 #[.slice ra nr rc] w' (NewRow w' 2 1 (cs intC R) nr)) := Lib.hid (fun w' hb => own_int w' ra nr rc R (Lib.hid hnr) (by rw [hnr]; exact hf.2.1) (rd_later h.hr hb))
  have C3 : Hid (∀ w', Below w.heap.size w w' → Calls Tryz.prog 69 #[.slice ya ny yc] w' (NewRow w' 2 1 (cs intC Y) ny)) := Lib.hid (fun w' hb => own_int w' ya ny yc Y (Lib.hid hny) (by rw [hny]; exact hf.2.2) (rd_later h.hy hb))
  have EE := Lib.hid (And.intro hns (And.intro hnr hny))
  rw [← hns, ← hnr, ← hny]
  clear h hf hns hnr hny HF
  go_enter Tryz.func38, Tryz.ntmps38
  go_wp2_with fail
  obtain ⟨W, hW⟩ : ∃ W, W = (w.alloc (.cells #[.string ⟨nm.toArray⟩, .slice sa ns sc, .slice ra nr rc, .slice ya ny yc] 38)).alloc (.cells #[.string ⟨#[]⟩, .slice none 0 0, .slice none 0 0, .slice none 0 0] 38) := ⟨_, rfl⟩
  have hW0 : Below w.heap.size w W := by rw [hW]; exact two_box _ _ _
  have k0 : Blk W w.heap.size 38 [.string ⟨nm.toArray⟩, .slice sa ns sc, .slice ra nr rc, .slice ya ny yc] := by rw [hW]; exact (Blk.new w _ _).alloc _
  have k1 : Blk W (w.heap.size + 1) 38 [.string ⟨#[]⟩, .slice none 0 0, .slice none 0 0, .slice none 0 0] := by rw [hW]; exact Blk.new2 w _ _ _
  have K0 := Lib.hid k0
  have K1 := Lib.hid k1
  have HW0 := Lib.hid hW0
  rw [← hW]
  clear hW k0 k1 hW0
  have KC : Hid (∀ w', Below W.heap.size W w' → (w'.cell? ⟨w.heap.size, 0, none⟩ = some (.string ⟨nm.toArray⟩) ∧ w'.cell? ⟨w.heap.size, 1, none⟩ = some (.slice sa ns sc) ∧ w'.cell? ⟨w.heap.size, 2, none⟩ = some (.slice ra nr rc) ∧ w'.cell? ⟨w.heap.size, 3, none⟩ = some (.slice ya ny yc)) ∧ (w'.cell? ⟨w.heap.size + 1, 0, none⟩ = some (.string ⟨#[]⟩) ∧ w'.cell? ⟨w.heap.size + 1, 1, none⟩ = some (.slice none 0 0) ∧ w'.cell? ⟨w.heap.size + 1, 2, none⟩ = some (.slice none 0 0) ∧ w'.cell? ⟨w.heap.size + 1, 3, none⟩ = some (.slice none 0 0) ∧ w'.frozen? ⟨w.heap.size + 1, 0, none⟩ = false ∧ w'.frozen? ⟨w.heap.size + 1, 1, none⟩ = false ∧ w'.frozen? ⟨w.heap.size + 1, 2, none⟩ = false ∧ w'.frozen? ⟨w.heap.size + 1, 3, none⟩ = false)) := by
    refine Lib.hid (fun w' hb => ?_)
    have a := K0.out.after hb
    have b := K1.out.after hb
    exact ⟨⟨a.cell 0, a.cell 1, a.cell 2, a.cell 3⟩, b.cell 0, b.cell 1, b.cell 2, b.cell 3, b.frozen 0, b.frozen 1, b.frozen 2, b.frozen 3⟩
  go_region_held3 (fun w' => w'.cell? ⟨w.heap.size, 0, none⟩ = some (.string ⟨nm.toArray⟩) ∧ w'.cell? ⟨w.heap.size, 1, none⟩ = some (.slice sa ns sc) ∧ w'.cell? ⟨w.heap.size, 2, none⟩ = some (.slice ra nr rc) ∧ w'.cell? ⟨w.heap.size, 3, none⟩ = some (.slice ya ny yc)) (first | exact (KC.out _ Q3.out).1 | exact (KC.out _ Q2.out).1 | exact (KC.out _ Q1.out).1 | exact (KC.out _ (below_drew (Below.refl _ _))).1 | go_keep) (first
    | (go_at_call 69; (with_reducible refine (C3.out _ (keep_trans HW0.out Q2.out)).mono ?_); rintro e' w3 ⟨A3, c3, rfl, hc3, hO3, hb⟩; have Q3 := Lib.hid (keep_trans Q2.out hb); have O33 := Lib.hid hO3.out; have O23 := Lib.hid (own_after O22.out hb); have O13 := Lib.hid (own_after O12.out hb); obtain ⟨-, x0, x1, x2, x3, y0, y1, y2, y3⟩ := KC.out _ Q3.out; clear hb hO3)
    | (go_at_call 69; (with_reducible refine (C2.out _ (keep_trans HW0.out Q1.out)).mono ?_); rintro e' w2 ⟨A2, c2, rfl, hc2, hO2, hb⟩; have Q2 := Lib.hid (keep_trans Q1.out hb); have O22 := Lib.hid hO2.out; have O12 := Lib.hid (own_after O11.out hb); clear hb hO2)
    | (go_at_call 33; (with_reducible refine (C1.out _ (below_drew HW0.out)).mono ?_); rintro e' w1 ⟨A1, c1, rfl, hc1, hO1, hb⟩; have Q1 : Hid (Below W.heap.size W w1) := Lib.hid (keep_trans (below_drew (Below.refl _ W)) hb); have O11 := Lib.hid hO1.out; clear hb hO1)
    | fail)
  have KF := Lib.hid (((((K1.out.after Q3.out).set_ 0 (.string ⟨nm.toArray⟩)).set_ 1 (.slice A1 ns c1)).set_ 2 (.slice A2 nr c2)).set_ 3 (.slice A3 ny c3))
  have hz := K1.out.lt
  have z1 := Q1.out.size
  have z2 := Q2.out.size
  go_wp2
  refine bodyPost_ret (v := .agg #[.string ⟨nm.toArray⟩, .slice A1 ns c1, .slice A2 nr c2, .slice A3 ny c3]) (rt_read rfl KF.out) rfl ?_
  obtain ⟨e1, e2, e3⟩ := EE.out
  refine ⟨A1, A2, A3, c1, c2, c3, by rw [e1, e2, e3], ⟨rd_set4 (own_rd O13.out) (by show _ < W.heap.size; omega) (by show _ ≤ W.heap.size; omega), rd_set4 (own_rd O23.out) (by omega) (by omega), rd_set4 (own_rd O33.out) (by omega) (by omega)⟩, ?_⟩
  exact below_set1 (below_set1 (below_set1 (below_set1 (keep_trans HW0.out Q3.out) (by simp) _) (by simp) _) (by simp) _) (by simp) _
end Go.Proofs.YtcmlmfcnbmpajaaGreatDoor.Sh

