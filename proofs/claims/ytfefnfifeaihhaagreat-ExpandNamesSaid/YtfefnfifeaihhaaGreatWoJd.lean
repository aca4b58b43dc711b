/- Package world's judged, Check and Sheet: the sheet whose world it is, or what is wrong; proved by walking their texts. Conditions: at most 400 things of a kind. -/
import Derived.Test.YtfefnfifeaihhaaGreatWoJu
import Derived.Test.YtfefnfifeaihhaaGreatWoMake
import Derived.Test.YtfefnfifeaihhaaGreatWoTold
set_option linter.unusedVariables false
set_option linter.unusedSimpArgs false
set_option maxHeartbeats 8000000
set_option maxRecDepth 100000
namespace Go.Proofs.YtfefnfifeaihhaaGreat.Wo
open Go.ChangeShapes Go.WideShapes Go.ChangeAt Go.RowKit Go.Maps
open Lx Sh It
theorem told_lt {x : WorldM} (hl : WLt x) : XLt (toldW x) := by
  refine ⟨hl.n1, ?_, ?_, ?_, ?_, ?_, fun r hr => ?_⟩
  · have := hl.l2; simp only [toldW, List.length_zipWith]; omega
  · have := hl.l3; simp only [toldW, List.length_zipWith]; omega
  · have := hl.l4; simp only [toldW, List.length_zipWith]; omega
  · have := hl.l5; simp only [toldW, List.length_zipWith]; omega
  · have := hl.l6; simp only [toldW, List.length_zipWith]; omega
  · simp only [toldW] at hr
    rw [List.mem_iff_getElem?] at hr
    obtain ⟨i, hi⟩ := hr
    rw [List.getElem?_zipWith] at hi
    split at hi
    · rename_i a b ha hb
      injection hi with hi
      subst hi
      have := hl.lr b (List.mem_of_getElem? hb)
      simpa [tRoute] using this
    · cases hi
theorem ten_sto {w : World} {g h b : Nat} {u0 u1 u2 u3 u4 u5 u6 v0 v1 v2 : Value} (h1 : b ≠ g) (h2 : b ≠ h) : ((((((((((w.setCell ⟨g, 0, none⟩ u0).setCell ⟨g, 1, none⟩ u1).setCell ⟨g, 2, none⟩ u2).setCell ⟨g, 3, none⟩ u3).setCell ⟨g, 4, none⟩ u4).setCell ⟨g, 5, none⟩ u5).setCell ⟨g, 6, none⟩ u6).setCell ⟨h, 0, none⟩ v0).setCell ⟨h, 1, none⟩ v1).setCell ⟨h, 2, none⟩ v2).heap[b]? = w.heap[b]? :=
  ((Below.heap_setCell _ _ _ _ h2).trans ((Below.heap_setCell _ _ _ _ h2).trans (Below.heap_setCell _ _ _ _ h2))).trans ((Below.heap_setCell _ _ _ _ h1).trans ((Below.heap_setCell _ _ _ _ h1).trans ((Below.heap_setCell _ _ _ _ h1).trans ((Below.heap_setCell _ _ _ _ h1).trans ((Below.heap_setCell _ _ _ _ h1).trans ((Below.heap_setCell _ _ _ _ h1).trans (Below.heap_setCell _ _ _ _ h1)))))))
theorem ten_below {w a : World} {g h : Nat} {u0 u1 u2 u3 u4 u5 u6 v0 v1 v2 : Value} (hb : Below a.heap.size a w) (h1 : a.heap.size ≤ g) (h2 : a.heap.size ≤ h) : Below a.heap.size a ((((((((((w.setCell ⟨g, 0, none⟩ u0).setCell ⟨g, 1, none⟩ u1).setCell ⟨g, 2, none⟩ u2).setCell ⟨g, 3, none⟩ u3).setCell ⟨g, 4, none⟩ u4).setCell ⟨g, 5, none⟩ u5).setCell ⟨g, 6, none⟩ u6).setCell ⟨h, 0, none⟩ v0).setCell ⟨h, 1, none⟩ v1).setCell ⟨h, 2, none⟩ v2) :=
  below_set1 (below_set1 (below_set1 (below_set1 (below_set1 (below_set1 (below_set1 (below_set1 (below_set1 (below_set1 hb h1 _) h1 _) h1 _) h1 _) h1 _) h1 _) h1 _) h2 _) h2 _) h2 _
theorem ten_blk {w : World} {g h : Nat} {u0 u1 u2 u3 u4 u5 u6 v0 v1 v2 a0 a1 a2 a3 a4 a5 a6 b0 b1 b2 : Value} {t t' : TypeId} (hg : g ≠ h) (k0 : Blk w g t [a0, a1, a2, a3, a4, a5, a6]) (k1 : Blk w h t' [b0, b1, b2]) :
    Blk ((((((((((w.setCell ⟨g, 0, none⟩ u0).setCell ⟨g, 1, none⟩ u1).setCell ⟨g, 2, none⟩ u2).setCell ⟨g, 3, none⟩ u3).setCell ⟨g, 4, none⟩ u4).setCell ⟨g, 5, none⟩ u5).setCell ⟨g, 6, none⟩ u6).setCell ⟨h, 0, none⟩ v0).setCell ⟨h, 1, none⟩ v1).setCell ⟨h, 2, none⟩ v2) g t [u0, u1, u2, u3, u4, u5, u6] ∧
    Blk ((((((((((w.setCell ⟨g, 0, none⟩ u0).setCell ⟨g, 1, none⟩ u1).setCell ⟨g, 2, none⟩ u2).setCell ⟨g, 3, none⟩ u3).setCell ⟨g, 4, none⟩ u4).setCell ⟨g, 5, none⟩ u5).setCell ⟨g, 6, none⟩ u6).setCell ⟨h, 0, none⟩ v0).setCell ⟨h, 1, none⟩ v1).setCell ⟨h, 2, none⟩ v2) h t' [v0, v1, v2] :=
  ⟨(((((((((((k0.set_ 0 u0).set_ 1 u1).set_ 2 u2).set_ 3 u3).set_ 4 u4).set_ 5 u5).set_ 6 u6).far (p := ⟨h, 0, none⟩) hg v0).far (p := ⟨h, 1, none⟩) hg v1).far (p := ⟨h, 2, none⟩) hg v2)),
   (((((((((k1.far (p := ⟨g, 0, none⟩) hg.symm u0).far (p := ⟨g, 1, none⟩) hg.symm u1).far (p := ⟨g, 2, none⟩) hg.symm u2).far (p := ⟨g, 3, none⟩) hg.symm u3).far (p := ⟨g, 4, none⟩) hg.symm u4).far (p := ⟨g, 5, none⟩) hg.symm u5).far (p := ⟨g, 6, none⟩) hg.symm u6).set_ 0 v0).set_ 1 v1).set_ 2 v2⟩
def JdPost (w : World) (x : WorldM) (e : Ending) (w' : World) : Prop :=
  ∃ q : ShA, e = .returned (.tuple #[shV (sheetW x) q, wrV (wrongW x)]) ∧ Sh w' (fun b => w.heap.size ≤ b ∧ b < w'.heap.size) (sheetW x) q ∧ Below w.heap.size w w'
def noS : ShA := ⟨none, none, none, none, none, none, 0, 0, 0, 0, 0, 0⟩
theorem sh_none (w : World) (S : Nat → Prop) : Sh w S zSheetM noS := ⟨fun h => by simp [cs] at h, fun h => by simp [cs] at h, fun h => by simp [cs] at h, ⟨[], fun h => by simp at h, rfl⟩, fun h => by simp [cs] at h, fun h => by simp [cs] at h⟩
theorem jd_read {W : World} {n0 n1 : Nat} {a0 a1 a2 a3 a4 a5 a6 b0 b1 b2 : Value} {tmps : Array Value} (h2 : tmps[2]? = some (.pointer (some ⟨n0, 0, none⟩))) (h3 : tmps[3]? = some (.pointer (some ⟨n1, 0, none⟩))) (k0 : Blk W n0 88 [a0, a1, a2, a3, a4, a5, a6]) (k1 : Blk W n1 52 [b0, b1, b2]) :
    (results Tryz.f66 tmps).run Tryz.prog W = .ok (.tuple #[.agg #[a0, a1, a2, a3, a4, a5, a6], .agg #[b0, b1, b2]]) W := by
  have x0 : W.cell? ⟨n0, 0, none⟩ = some a0 := k0.cell 0
  have x1 : W.cell? ⟨n0, 1, none⟩ = some a1 := k0.cell 1
  have x2 : W.cell? ⟨n0, 2, none⟩ = some a2 := k0.cell 2
  have x3 : W.cell? ⟨n0, 3, none⟩ = some a3 := k0.cell 3
  have x4 : W.cell? ⟨n0, 4, none⟩ = some a4 := k0.cell 4
  have x5 : W.cell? ⟨n0, 5, none⟩ = some a5 := k0.cell 5
  have x6 : W.cell? ⟨n0, 6, none⟩ = some a6 := k0.cell 6
  have y0 : W.cell? ⟨n1, 0, none⟩ = some b0 := k1.cell 0
  have y1 : W.cell? ⟨n1, 1, none⟩ = some b1 := k1.cell 1
  have y2 : W.cell? ⟨n1, 2, none⟩ = some b2 := k1.cell 2
  simp [results, Tryz.results66, go_sem, h2, h3, x0, x1, x2, x3, x4, x5, x6, y0, y1, y2]
theorem judged_any (x : WorldM) (p : WoA) (w : World) (h : Wo w (· < w.heap.size) x p) (hl : WLt x) : Calls Tryz.prog 66 #[woG x p] w (JdPost w x) := by
  have HL := HH (fun w' => listed_any x p w' hl)
  have HA := HH (fun w' (hb : Below w.heap.size w w') => astray_any x p w' (h.later hb) hl)
  have HT := HH (fun (hw : wholeB x = true) w' (hb : Below w.heap.size w w') => told_any x p w' (h.later hb) hl hw)
  have HMK := HH (fun w' (q : ShA) (hs : Sh w' (· < w'.heap.size) (toldW x) q) => make_any (toldW x) q w' hs (told_lt hl))
  have HWE := HH (whole_eq x)
  have HW2 : Hid (wholeB x = false → wrongW x = ⟨2, 0, 0⟩ ∧ sheetW x = zSheetM) := HH (fun hw => by
    have h1 : wrongW x = ⟨2, 0, 0⟩ := by unfold wrongW; rw [if_pos hw]
    exact ⟨h1, by unfold sheetW; rw [h1, if_pos (by decide)]⟩)
  have HW3 : Hid (wholeB x = true → (wrongX (toldW x)).err ≠ 0 → wrongW x = wrongX (toldW x) ∧ sheetW x = zSheetM) := HH (fun hw he => by
    have h1 : wrongW x = wrongX (toldW x) := by unfold wrongW; rw [if_neg (by rw [hw]; decide)]
    exact ⟨h1, by unfold sheetW; rw [h1, if_pos he]⟩)
  have HW4 : Hid (wholeB x = true → (wrongX (toldW x)).err = 0 → wrongW x = okW ∧ sheetW x = toldW x) := HH (fun hw he => by
    have h1 : wrongW x = wrongX (toldW x) := by unfold wrongW; rw [if_neg (by rw [hw]; decide)]
    rw [(wrong_parts he).2.2.2] at h1
    exact ⟨h1, by unfold sheetW; rw [h1, if_neg (by decide)]⟩)
  clear h hl
  unfold JdPost
  generalize wrongW x = kw at *
  generalize sheetW x = sw at *
  generalize wholeB x = bw at *
  generalize listB x = lb at *
  generalize astB x = ab at *
  generalize toldW x = y at *
  dsimp only [woG] at HL HA HT ⊢
  generalize x.names.stops.length = L1 at *
  generalize x.names.paths.length = L2 at *
  generalize x.names.doors.length = L3 at *
  generalize x.names.routes.length = L4 at *
  generalize x.names.trips.length = L5 at *
  generalize x.names.hazards.length = L6 at *
  generalize x.paths.length = P2 at *
  generalize x.doors.length = P3 at *
  generalize x.routes.length = P4 at *
  generalize x.trips.length = P5 at *
  generalize x.hazards.length = P6 at *
  generalize x.horizon = hz at *
  obtain ⟨⟨a1, a2, a3, a4, a5, a6, c1, c2, c3, c4, c5, c6⟩, b2, b3, b4, b5, b6, d2, d3, d4, d5, d6⟩ := p
  dsimp only at HL HA HT ⊢
  have KC : Hid (∀ w', Below (((w.alloc (.cells #[.int .i64 hz, .slice a1 L1 c1, .slice a2 L2 c2, .slice a3 L3 c3, .slice a4 L4 c4, .slice a5 L5 c5, .slice a6 L6 c6, .slice b2 P2 d2, .slice b3 P3 d3, .slice b4 P4 d4, .slice b5 P5 d5, .slice b6 P6 d6] 37)).alloc (.cells #[.int .i64 0, .slice none 0 0, .slice none 0 0, .slice none 0 0, .slice none 0 0, .slice none 0 0, .slice none 0 0] 88)).alloc (.cells #[.int .i64 0, .int .i64 0, .int .i64 0] 52)).heap.size (((w.alloc (.cells #[.int .i64 hz, .slice a1 L1 c1, .slice a2 L2 c2, .slice a3 L3 c3, .slice a4 L4 c4, .slice a5 L5 c5, .slice a6 L6 c6, .slice b2 P2 d2, .slice b3 P3 d3, .slice b4 P4 d4, .slice b5 P5 d5, .slice b6 P6 d6] 37)).alloc (.cells #[.int .i64 0, .slice none 0 0, .slice none 0 0, .slice none 0 0, .slice none 0 0, .slice none 0 0, .slice none 0 0] 88)).alloc (.cells #[.int .i64 0, .int .i64 0, .int .i64 0] 52)) w' → (w'.cell? ⟨w.heap.size, 0, none⟩ = some (.int .i64 hz) ∧ w'.cell? ⟨w.heap.size, 1, none⟩ = some (.slice a1 L1 c1) ∧ w'.cell? ⟨w.heap.size, 2, none⟩ = some (.slice a2 L2 c2) ∧ w'.cell? ⟨w.heap.size, 3, none⟩ = some (.slice a3 L3 c3) ∧ w'.cell? ⟨w.heap.size, 4, none⟩ = some (.slice a4 L4 c4) ∧ w'.cell? ⟨w.heap.size, 5, none⟩ = some (.slice a5 L5 c5) ∧ w'.cell? ⟨w.heap.size, 6, none⟩ = some (.slice a6 L6 c6) ∧ w'.cell? ⟨w.heap.size, 7, none⟩ = some (.slice b2 P2 d2) ∧ w'.cell? ⟨w.heap.size, 8, none⟩ = some (.slice b3 P3 d3) ∧ w'.cell? ⟨w.heap.size, 9, none⟩ = some (.slice b4 P4 d4) ∧ w'.cell? ⟨w.heap.size, 10, none⟩ = some (.slice b5 P5 d5) ∧ w'.cell? ⟨w.heap.size, 11, none⟩ = some (.slice b6 P6 d6)) ∧ (w'.cell? ⟨w.heap.size + 1, 0, none⟩ = some (.int .i64 0) ∧ w'.cell? ⟨w.heap.size + 1, 1, none⟩ = some (.slice none 0 0) ∧ w'.cell? ⟨w.heap.size + 1, 2, none⟩ = some (.slice none 0 0) ∧ w'.cell? ⟨w.heap.size + 1, 3, none⟩ = some (.slice none 0 0) ∧ w'.cell? ⟨w.heap.size + 1, 4, none⟩ = some (.slice none 0 0) ∧ w'.cell? ⟨w.heap.size + 1, 5, none⟩ = some (.slice none 0 0) ∧ w'.cell? ⟨w.heap.size + 1, 6, none⟩ = some (.slice none 0 0) ∧ ∀ i, w'.frozen? ⟨w.heap.size + 1, i, none⟩ = false) ∧ (w'.cell? ⟨w.heap.size + 1 + 1, 0, none⟩ = some (.int .i64 0) ∧ w'.cell? ⟨w.heap.size + 1 + 1, 1, none⟩ = some (.int .i64 0) ∧ w'.cell? ⟨w.heap.size + 1 + 1, 2, none⟩ = some (.int .i64 0) ∧ ∀ i, w'.frozen? ⟨w.heap.size + 1 + 1, i, none⟩ = false)) := HH (fun w' hb => by
    have a := (blk1b w _ _ _ _).after hb
    have b := (blk2b w _ _ _ _).after hb
    have c := (blk3b w _ _ _ _).after hb
    exact ⟨⟨a.cell 0, a.cell 1, a.cell 2, a.cell 3, a.cell 4, a.cell 5, a.cell 6, a.cell 7, a.cell 8, a.cell 9, a.cell 10, a.cell 11⟩, ⟨b.cell 0, b.cell 1, b.cell 2, b.cell 3, b.cell 4, b.cell 5, b.cell 6, fun i => b.frozen i⟩, c.cell 0, c.cell 1, c.cell 2, fun i => c.frozen i⟩)
  have KS : Hid (∀ w', Below (((w.alloc (.cells #[.int .i64 hz, .slice a1 L1 c1, .slice a2 L2 c2, .slice a3 L3 c3, .slice a4 L4 c4, .slice a5 L5 c5, .slice a6 L6 c6, .slice b2 P2 d2, .slice b3 P3 d3, .slice b4 P4 d4, .slice b5 P5 d5, .slice b6 P6 d6] 37)).alloc (.cells #[.int .i64 0, .slice none 0 0, .slice none 0 0, .slice none 0 0, .slice none 0 0, .slice none 0 0, .slice none 0 0] 88)).alloc (.cells #[.int .i64 0, .int .i64 0, .int .i64 0] 52)).heap.size (((w.alloc (.cells #[.int .i64 hz, .slice a1 L1 c1, .slice a2 L2 c2, .slice a3 L3 c3, .slice a4 L4 c4, .slice a5 L5 c5, .slice a6 L6 c6, .slice b2 P2 d2, .slice b3 P3 d3, .slice b4 P4 d4, .slice b5 P5 d5, .slice b6 P6 d6] 37)).alloc (.cells #[.int .i64 0, .slice none 0 0, .slice none 0 0, .slice none 0 0, .slice none 0 0, .slice none 0 0, .slice none 0 0] 88)).alloc (.cells #[.int .i64 0, .int .i64 0, .int .i64 0] 52)) w' → Blk w' (w.heap.size + 1) 88 [.int .i64 0, .slice none 0 0, .slice none 0 0, .slice none 0 0, .slice none 0 0, .slice none 0 0, .slice none 0 0] ∧ Blk w' (w.heap.size + 1 + 1) 52 [.int .i64 0, .int .i64 0, .int .i64 0]) := HH (fun w' hb => ⟨(blk2b w _ _ _ _).after hb, (blk3b w _ _ _ _).after hb⟩)
  have HB0 : Hid (Below w.heap.size w (((w.alloc (.cells #[.int .i64 hz, .slice a1 L1 c1, .slice a2 L2 c2, .slice a3 L3 c3, .slice a4 L4 c4, .slice a5 L5 c5, .slice a6 L6 c6, .slice b2 P2 d2, .slice b3 P3 d3, .slice b4 P4 d4, .slice b5 P5 d5, .slice b6 P6 d6] 37)).alloc (.cells #[.int .i64 0, .slice none 0 0, .slice none 0 0, .slice none 0 0, .slice none 0 0, .slice none 0 0, .slice none 0 0] 88)).alloc (.cells #[.int .i64 0, .int .i64 0, .int .i64 0] 52))) := HH (box3b _ _ _ _)
  generalize hW0 : (((w.alloc (.cells #[.int .i64 hz, .slice a1 L1 c1, .slice a2 L2 c2, .slice a3 L3 c3, .slice a4 L4 c4, .slice a5 L5 c5, .slice a6 L6 c6, .slice b2 P2 d2, .slice b3 P3 d3, .slice b4 P4 d4, .slice b5 P5 d5, .slice b6 P6 d6] 37)).alloc (.cells #[.int .i64 0, .slice none 0 0, .slice none 0 0, .slice none 0 0, .slice none 0 0, .slice none 0 0, .slice none 0 0] 88)).alloc (.cells #[.int .i64 0, .int .i64 0, .int .i64 0] 52)) = W0 at *
  have HW0 := HH hW0
  clear hW0
  cases lb with
  | false =>
    obtain rfl : bw = false := by rw [HWE.out]; rfl
    obtain ⟨rfl, rfl⟩ := HW2.out rfl
    clear HWE HW2 HW3 HW4 HT HMK HA
    go_enter Tryz.func66, Tryz.ntmps66
    go_wp2_with (first
      | (go_at_call 85; rw [HW0.out]; (with_reducible refine (HL.out _).mono ?_); rintro e w1 ⟨rfl, hb⟩; have Q1 : Hid (Below W0.heap.size W0 w1) := HH hb; obtain ⟨-, ⟨n0, n1, n2, n3, n4, n5, n6, n7⟩, o0, o1, o2, o3⟩ := KC.out _ Q1.out; clear hb)
      | fail)
    have KK := KS.out _ Q1.out
    have TB := ten_blk (u0 := .int .i64 0) (u1 := .slice none 0 0) (u2 := .slice none 0 0) (u3 := .slice none 0 0) (u4 := .slice none 0 0) (u5 := .slice none 0 0) (u6 := .slice none 0 0) (v0 := .int .i64 2) (v1 := .int .i64 0) (v2 := .int .i64 0) (by omega) KK.1 KK.2
    refine bodyPost_ret (jd_read rfl rfl TB.1 TB.2) rfl ?_
    exact ⟨noS, rfl, sh_none _ _, ten_below (keep_trans HB0.out Q1.out) (by omega) (by omega)⟩
  | true =>
    cases ab with
    | true =>
      obtain rfl : bw = false := by rw [HWE.out]; rfl
      obtain ⟨rfl, rfl⟩ := HW2.out rfl
      clear HWE HW2 HW3 HW4 HT HMK
      go_enter Tryz.func66, Tryz.ntmps66
      go_wp2_with (first
        | (go_at_call 85; rw [HW0.out]; (with_reducible refine (HL.out _).mono ?_); rintro e w1 ⟨rfl, hb⟩; have Q1 : Hid (Below W0.heap.size W0 w1) := HH hb; obtain ⟨⟨m0, m1, m2, m3, m4, m5, m6, m7, m8, m9, m10, m11⟩, -, -⟩ := KC.out _ Q1.out; clear hb)
        | (go_at_call 86; (with_reducible refine (HA.out _ ?qa).mono ?_); (case qa => exact keep_trans HB0.out Q1.out); rintro e w2 ⟨rfl, hb⟩; have Q2 := HH (keep_trans Q1.out hb); clear hb m0 m1 m2 m3 m4 m5 m6 m7 m8 m9 m10 m11; obtain ⟨-, ⟨n0, n1, n2, n3, n4, n5, n6, n7⟩, o0, o1, o2, o3⟩ := KC.out _ Q2.out)
        | fail)
      have KK := KS.out _ Q2.out
      have TB := ten_blk (u0 := .int .i64 0) (u1 := .slice none 0 0) (u2 := .slice none 0 0) (u3 := .slice none 0 0) (u4 := .slice none 0 0) (u5 := .slice none 0 0) (u6 := .slice none 0 0) (v0 := .int .i64 2) (v1 := .int .i64 0) (v2 := .int .i64 0) (by omega) KK.1 KK.2
      refine bodyPost_ret (jd_read rfl rfl TB.1 TB.2) rfl ?_
      exact ⟨noS, rfl, sh_none _ _, ten_below (keep_trans HB0.out Q2.out) (by omega) (by omega)⟩
    | false =>
      obtain rfl : bw = true := by rw [HWE.out]; rfl
      clear HWE HW2
      (try dsimp only [ToPost, shV] at HT)
      have HMK2 : Hid (∀ w' q, Sh w' (· < w'.heap.size) y q → Calls Tryz.prog 88 #[.agg #[.int .i64 y.horizon, .slice q.a1 y.stops.length q.c1, .slice q.a2 y.paths.length q.c2, .slice q.a3 y.doors.length q.c3, .slice q.a4 y.routes.length q.c4, .slice q.a5 y.trips.length q.c5, .slice q.a6 y.hazards.length q.c6]] w' (fun e w'' => ∃ (n0 : Int) (u1 u2 u3 u4 u5 u6 u7 u8 u9 u10 u11 : Value), e = .returned (.tuple #[.agg #[.int .i64 n0, u1, u2, u3, u4, u5, u6, u7, u8, u9, u10, u11], wrV (wrongX y)]) ∧ (∃ A n c, u1 = .slice A n c) ∧ (∃ A n c, u2 = .slice A n c) ∧ (∃ A n c, u3 = .slice A n c) ∧ (∃ A n c, u4 = .slice A n c) ∧ (∃ A n c, u5 = .slice A n c) ∧ (∃ A n c, u6 = .slice A n c) ∧ (∃ A n c, u7 = .slice A n c) ∧ (∃ A n c, u8 = .slice A n c) ∧ (∃ A n c, u9 = .slice A n c) ∧ (∃ A n c, u10 = .slice A n c) ∧ (∃ A n c, u11 = .slice A n c) ∧ Below w'.heap.size w' w'')) := HH (fun w' q hs => (HMK.out w' q hs).mono fun e w'' he => by
        obtain ⟨qm, h1, -, h3⟩ := he
        exact ⟨_, _, _, _, _, _, _, _, _, _, _, _, h1, ⟨_, _, _, rfl⟩, ⟨_, _, _, rfl⟩, ⟨_, _, _, rfl⟩, ⟨_, _, _, rfl⟩, ⟨_, _, _, rfl⟩, ⟨_, _, _, rfl⟩, ⟨_, _, _, rfl⟩, ⟨_, _, _, rfl⟩, ⟨_, _, _, rfl⟩, ⟨_, _, _, rfl⟩, ⟨_, _, _, rfl⟩, h3⟩)
      clear HMK
      dsimp only [wrV] at HMK2
      have HSR : Hid (∀ w' q, Sh w' (fun b => w.heap.size ≤ b ∧ b < w'.heap.size) y q → Sh w' (fun b => w.heap.size ≤ b ∧ b < w'.heap.size) y q) := HH fun _ _ h => h
      obtain ⟨kz, hkz⟩ : ∃ z, z = wrongX y := ⟨_, rfl⟩
      rw [← hkz] at HMK2 HW3 HW4
      clear hkz HSR
      obtain ⟨ke, kk, ka⟩ := kz
      dsimp only at HMK2 HW3 HW4
      obtain ⟨N1, hN1⟩ : ∃ n, n = y.stops.length := ⟨_, rfl⟩
      obtain ⟨N2, hN2⟩ : ∃ n, n = y.paths.length := ⟨_, rfl⟩
      obtain ⟨N3, hN3⟩ : ∃ n, n = y.doors.length := ⟨_, rfl⟩
      obtain ⟨N4, hN4⟩ : ∃ n, n = y.routes.length := ⟨_, rfl⟩
      obtain ⟨N5, hN5⟩ : ∃ n, n = y.trips.length := ⟨_, rfl⟩
      obtain ⟨N6, hN6⟩ : ∃ n, n = y.hazards.length := ⟨_, rfl⟩
      obtain ⟨yz, hyz⟩ : ∃ z, z = y.horizon := ⟨_, rfl⟩
      rw [← hN1, ← hN2, ← hN3, ← hN4, ← hN5, ← hN6, ← hyz] at HMK2
      have HT2 : Hid (∀ w', Below w.heap.size w w' → Calls Tryz.prog 87 #[.agg #[.int .i64 hz, .slice a1 L1 c1, .slice a2 L2 c2, .slice a3 L3 c3, .slice a4 L4 c4, .slice a5 L5 c5, .slice a6 L6 c6, .slice b2 P2 d2, .slice b3 P3 d3, .slice b4 P4 d4, .slice b5 P5 d5, .slice b6 P6 d6]] w' (fun e w'' => ∃ (q1 q2 q3 q4 q5 q6 : Option Addr) (k1 k2 k3 k4 k5 k6 : Nat), e = .returned (.agg #[.int .i64 yz, .slice q1 N1 k1, .slice q2 N2 k2, .slice q3 N3 k3, .slice q4 N4 k4, .slice q5 N5 k5, .slice q6 N6 k6]) ∧ Sh w'' (fun b => w'.heap.size ≤ b ∧ b < w''.heap.size) y ⟨q1, q2, q3, q4, q5, q6, k1, k2, k3, k4, k5, k6⟩ ∧ Below w'.heap.size w' w'')) := HH (fun w' hb => (HT.out rfl w' hb).mono fun e w'' he => by
        obtain ⟨⟨q1, q2, q3, q4, q5, q6, k1, k2, k3, k4, k5, k6⟩, h1, h2, h3⟩ := he
        exact ⟨q1, q2, q3, q4, q5, q6, k1, k2, k3, k4, k5, k6, by rw [h1, hyz, hN1, hN2, hN3, hN4, hN5, hN6], h2, h3⟩)
      clear HT
      have HNS := HH (And.intro hyz (And.intro hN1 (And.intro hN2 (And.intro hN3 (And.intro hN4 (And.intro hN5 hN6))))))
      clear hN1 hN2 hN3 hN4 hN5 hN6 hyz
      have HEX : Hid (ke = 0 ∨ ke ≠ 0) := HH (by omega)
      go_enter Tryz.func66, Tryz.ntmps66
      go_upto_region 5 with (first
        | (go_at_call 85; rw [HW0.out]; (with_reducible refine (HL.out _).mono ?_); rintro e w1 ⟨rfl, hb⟩; have Q1 : Hid (Below W0.heap.size W0 w1) := HH hb; obtain ⟨⟨m0, m1, m2, m3, m4, m5, m6, m7, m8, m9, m10, m11⟩, -, -⟩ := KC.out _ Q1.out; clear hb)
        | (go_at_call 86; (with_reducible refine (HA.out _ ?qa).mono ?_); (case qa => exact keep_trans HB0.out Q1.out); rintro e w2 ⟨rfl, hb⟩; have Q2 := HH (keep_trans Q1.out hb); clear hb m0 m1 m2 m3 m4 m5 m6 m7 m8 m9 m10 m11; obtain ⟨⟨m0, m1, m2, m3, m4, m5, m6, m7, m8, m9, m10, m11⟩, -, -⟩ := KC.out _ Q2.out)
        | (go_at_call 87; (with_reducible refine (HT2.out _ ?qa).mono ?_); (case qa => exact keep_trans HB0.out Q2.out); rintro e w3 ⟨q1, q2, q3, q4, q5, q6, k1, k2, k3, k4, k5, k6, rfl, hs, hb⟩; have Q3 := HH (keep_trans Q2.out hb); have Q23 := HH hb; have HSH := HH hs; clear hb hs m0 m1 m2 m3 m4 m5 m6 m7 m8 m9 m10 m11)
        | (go_at_call 88; (with_reducible refine (HMK2.out _ ⟨q1, q2, q3, q4, q5, q6, k1, k2, k3, k4, k5, k6⟩ ?qs).mono ?_); (case qs => exact (HSH.out.keep fun b hk => (one_box _ _).block b hk.2).more fun b hk => by have := hk.2; simp; omega); rintro e w4 ⟨n0, u1, u2, u3, u4, u5, u6, u7, u8, u9, u10, u11, rfl, ⟨r1, r2, r3, rfl⟩, ⟨r4, r5, r6, rfl⟩, ⟨r7, r8, r9, rfl⟩, ⟨s1, s2, s3, rfl⟩, ⟨s4, s5, s6, rfl⟩, ⟨s7, s8, s9, rfl⟩, ⟨t1, t2, t3, rfl⟩, ⟨t4, t5, t6, rfl⟩, ⟨t7, t8, t9, rfl⟩, ⟨v1, v2, v3, rfl⟩, ⟨v4, v5, v6, rfl⟩, hb⟩; have Q4 : Hid (Below w3.heap.size w3 w4) := HH (keep_trans (one_box _ _) hb); have KT : Hid (Blk w4 w3.heap.size 88 [.int .i64 yz, .slice q1 N1 k1, .slice q2 N2 k2, .slice q3 N3 k3, .slice q4 N4 k4, .slice q5 N5 k5, .slice q6 N6 k6]) := HH ((Blk.new w3 _ _).after hb); clear hb)
        | fail)
      obtain ⟨W5, hW⟩ : ∃ W, W = (w4.alloc (.cells #[.int .i64 n0, .slice r1 r2 r3, .slice r4 r5 r6, .slice r7 r8 r9, .slice s1 s2 s3, .slice s4 s5 s6, .slice s7 s8 s9, .slice t1 t2 t3, .slice t4 t5 t6, .slice t7 t8 t9, .slice v1 v2 v3, .slice v4 v5 v6] 37)).alloc (.cells #[.int .i64 ke, .int .i64 kk, .int .i64 ka] 52) := ⟨_, rfl⟩
      have Q5 : Hid (Below w4.heap.size w4 W5) := HH (by rw [hW]; exact two_box _ _ _)
      have KE : Hid (Blk W5 (w4.heap.size + 1) 52 [.int .i64 ke, .int .i64 kk, .int .i64 ka]) := HH (by rw [hW]; exact Blk.new2 _ _ _ _)
      rw [← hW]
      clear hW
      have Q03 : Hid (Below W0.heap.size W0 w3) := Q3
      have Q05 : Hid (Below W0.heap.size W0 W5) := HH (keep_trans Q3.out (keep_trans Q4.out Q5.out))
      have KT := HH (KT.out.after Q5.out)
      have HSF : Hid (Sh W5 (fun b => w2.heap.size ≤ b ∧ b < W5.heap.size) y ⟨q1, q2, q3, q4, q5, q6, k1, k2, k3, k4, k5, k6⟩) := HH ((HSH.out.keep fun b hk => (keep_trans Q4.out Q5.out).block b hk.2).more fun b hk => ⟨hk.1, Nat.lt_of_lt_of_le hk.2 (keep_trans Q4.out Q5.out).size⟩)
      have HBW : Hid (Below w.heap.size w W5) := HH (keep_trans HB0.out Q05.out)
      have Z2 : Hid (W0.heap.size ≤ w2.heap.size) := HH Q2.out.size
      have ZC : Hid (w.heap.size + 1 + 1 < W0.heap.size) := HH (by rw [← HW0.out]; simp)
      have ZD : Hid (w.heap.size + 1 + 1 < w4.heap.size) := HH (Nat.lt_of_lt_of_le ZC.out (Nat.le_trans Q3.out.size Q4.out.size))
      have HKK := HH (KS.out _ Q05.out)
      have Zb : Hid (w.heap.size + 1 < W0.heap.size) := HH (by rw [← HW0.out]; simp)
      obtain ⟨-, ⟨n0', n1, n2, n3, n4, n5, n6, n7⟩, o0, o1, o2, o3⟩ := KC.out _ Q05.out
      have z0 : W5.cell? ⟨w4.heap.size + 1, 0, none⟩ = some (.int .i64 ke) := KE.out.cell 0
      have z1 : W5.cell? ⟨w4.heap.size + 1, 1, none⟩ = some (.int .i64 kk) := KE.out.cell 1
      have z2 : W5.cell? ⟨w4.heap.size + 1, 2, none⟩ = some (.int .i64 ka) := KE.out.cell 2
      have y0 : W5.cell? ⟨w3.heap.size, 0, none⟩ = some (.int .i64 yz) := KT.out.cell 0
      have y1 : W5.cell? ⟨w3.heap.size, 1, none⟩ = some (.slice q1 N1 k1) := KT.out.cell 1
      have y2 : W5.cell? ⟨w3.heap.size, 2, none⟩ = some (.slice q2 N2 k2) := KT.out.cell 2
      have y3 : W5.cell? ⟨w3.heap.size, 3, none⟩ = some (.slice q3 N3 k3) := KT.out.cell 3
      have y4 : W5.cell? ⟨w3.heap.size, 4, none⟩ = some (.slice q4 N4 k4) := KT.out.cell 4
      have y5 : W5.cell? ⟨w3.heap.size, 5, none⟩ = some (.slice q5 N5 k5) := KT.out.cell 5
      have y6 : W5.cell? ⟨w3.heap.size, 6, none⟩ = some (.slice q6 N6 k6) := KT.out.cell 6
      clear HL HA HT2 HMK2 KC KS Q1 Q2 Q3 Q4 Q5 Q03 Q23 HSH
      rcases HEX.out with he | he
      · obtain ⟨rfl, rfl⟩ := HW4.out trivial he
        subst he
        have hq : ((0 : Int) != 0) = false := rfl
        clear HW3 HW4 HEX
        go_wp2
        have TB := ten_blk (u0 := .int .i64 yz) (u1 := .slice q1 N1 k1) (u2 := .slice q2 N2 k2) (u3 := .slice q3 N3 k3) (u4 := .slice q4 N4 k4) (u5 := .slice q5 N5 k5) (u6 := .slice q6 N6 k6) (v0 := .int .i64 0) (v1 := .int .i64 0) (v2 := .int .i64 0) (by omega) HKK.out.1 HKK.out.2
        refine bodyPost_ret (jd_read rfl rfl TB.1 TB.2) rfl ?_
        obtain ⟨g0, g1, g2, g3, g4, g5, g6⟩ := HNS.out
        have zb := Zb.out
        have zz := Z2.out
        have zw := HB0.out.size
        refine ⟨⟨q1, q2, q3, q4, q5, q6, k1, k2, k3, k4, k5, k6⟩, by dsimp only [shV, wrV]; rw [g0, g1, g2, g3, g4, g5, g6], (HSF.out.keep fun b hk => ten_sto (by have := hk.1; have := hk.2; omega) (by have := hk.1; have := ZC.out; omega)).more fun b hk => ⟨by have := hk.1; omega, by simp; exact hk.2⟩, ten_below HBW.out (by omega) (by omega)⟩
      · obtain ⟨rfl, rfl⟩ := HW3.out trivial he
        have hq : (ke != 0) = true := by simpa using he
        have hq2 : (ke == 0) = false := by simpa using he
        clear HW3 HW4 HEX he
        have cf : (∀ i, W5.frozen? ⟨w.heap.size + 1, i, none⟩ = false) := fun i => HKK.out.1.frozen i
        go_upto_region 6 with fail
        have ne1 : ¬ (w4.heap.size = w.heap.size) := by have := ZD.out; omega
        have ne2 : ¬ (w.heap.size = w4.heap.size) := by have := ZD.out; omega
        have ne3 : ¬ (w4.heap.size = w.heap.size + 1) := by have := ZD.out; omega
        have ne4 : ¬ (w.heap.size + 1 = w4.heap.size) := by have := ZD.out; omega
        have ne5 : ¬ (w4.heap.size + 1 = w.heap.size + 1) := by have := ZD.out; omega
        have ne6 : ¬ (w.heap.size + 1 = w4.heap.size + 1) := by have := ZD.out; omega
        have ne7 : ¬ (w4.heap.size + 1 = w.heap.size + 1 + 1) := by have := ZD.out; omega
        have ne8 : ¬ (w.heap.size + 1 + 1 = w4.heap.size + 1) := by have := ZD.out; omega
        go_region
        all_goals
          go_wp2
          have TB := ten_blk (w := W5) (u0 := .int .i64 0) (u1 := .slice none 0 0) (u2 := .slice none 0 0) (u3 := .slice none 0 0) (u4 := .slice none 0 0) (u5 := .slice none 0 0) (u6 := .slice none 0 0) (v0 := .int .i64 ke) (v1 := .int .i64 kk) (v2 := .int .i64 ka) (by omega) HKK.out.1 HKK.out.2
          refine bodyPost_ret (v := .tuple #[.agg #[.int .i64 0, .slice none 0 0, .slice none 0 0, .slice none 0 0, .slice none 0 0, .slice none 0 0, .slice none 0 0], .agg #[.int .i64 ke, .int .i64 kk, .int .i64 ka]]) (jd_read rfl rfl (blk_dr TB.1) (blk_dr TB.2)) rfl ?_
          exact ⟨noS, rfl, sh_none _ _, below_drew (ten_below HBW.out (by omega) (by omega))⟩
end Go.Proofs.YtfefnfifeaihhaaGreat.Wo
