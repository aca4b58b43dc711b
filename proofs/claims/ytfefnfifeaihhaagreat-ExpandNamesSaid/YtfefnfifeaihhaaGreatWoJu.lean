/- Package world's listed and astray: are there as many things as names, and are all numbers of things?; proved by walking their texts. Conditions: at most 400 things of a kind. -/
import Derived.Test.YtfefnfifeaihhaaGreatWoAst
set_option linter.unusedVariables false
set_option linter.unusedSimpArgs false
set_option maxHeartbeats 4000000
set_option maxRecDepth 100000
namespace Go.Proofs.YtfefnfifeaihhaaGreat.Wo
open Go.ChangeShapes Go.WideShapes Go.ChangeAt Go.RowKit Go.Maps
open Lx Sh
def listB (x : WorldM) : Bool := decide (x.names.paths.length = x.paths.length) && (decide (x.names.doors.length = x.doors.length) && (decide (x.names.routes.length = x.routes.length) && (decide (x.names.trips.length = x.trips.length) && decide (x.names.hazards.length = x.hazards.length))))
def aPo (x : WorldM) : Bool := x.paths.any (fun p => [p.a, p.b].any (outB x.names.stops.length))
def aDo (x : WorldM) : Bool := x.doors.any (fun p => [p.a, p.b].any (outB x.names.stops.length))
def aRo (x : WorldM) : Bool := x.routes.any (fun r => r.stops.any (outB x.names.stops.length))
def aTo (x : WorldM) : Bool := x.trips.any (fun t => [t.route].any (outB x.names.routes.length))
def aHo (x : WorldM) : Bool := x.hazards.any (fun h => [h.on_].any (outB (clW x.names h.stop).length))
def astB (x : WorldM) : Bool := aPo x || (aDo x || (aRo x || (aTo x || aHo x)))
theorem whole_eq (x : WorldM) : wholeB x = (listB x && !astB x) := by
  have h1 : aPo x = !(x.paths.all fun p => inB p.a x.names.stops && inB p.b x.names.stops) := by
    unfold aPo; rw [List.not_all_eq_any_not]; congr 1; funext p; simp [inB_outB]
  have h2 : aDo x = !(x.doors.all fun p => inB p.a x.names.stops && inB p.b x.names.stops) := by
    unfold aDo; rw [List.not_all_eq_any_not]; congr 1; funext p; simp [inB_outB]
  have h3 : aRo x = !(x.routes.all fun r => r.stops.all fun n => inB n x.names.stops) := by
    unfold aRo; rw [List.not_all_eq_any_not]; congr 1; funext p; rw [List.not_all_eq_any_not]; congr 1; funext i; simp [inB_outB]
  have h4 : aTo x = !(x.trips.all fun t => inB t.route x.names.routes) := by
    unfold aTo; rw [List.not_all_eq_any_not]; congr 1; funext p; simp [inB_outB]
  have h5 : aHo x = !(x.hazards.all fun h => inB h.on_ (if h.stop then x.names.stops else x.names.paths)) := by
    unfold aHo; rw [List.not_all_eq_any_not]; congr 1; funext p
    have : clW x.names p.stop = if p.stop then x.names.stops else x.names.paths := rfl
    rw [this]; simp [inB_outB]
  unfold astB
  rw [h1, h2, h3, h4, h5]
  simp only [Bool.not_or, Bool.not_not]
  rfl
theorem listed_any (x : WorldM) (p : WoA) (w : World) (hl : WLt x) : Calls Tryz.prog 85 #[woG x p] w (BoolB w (listB x)) := by
  unfold listB
  clear hl
  dsimp only [woG]
  generalize x.names.stops.length = M1
  generalize x.names.paths.length = M2
  generalize x.names.doors.length = M3
  generalize x.names.routes.length = M4
  generalize x.names.trips.length = M5
  generalize x.names.hazards.length = M6
  generalize x.paths.length = P2
  generalize x.doors.length = P3
  generalize x.routes.length = P4
  generalize x.trips.length = P5
  generalize x.hazards.length = P6
  generalize x.horizon = hz
  by_cases h2 : M2 = P2
  · subst h2
    by_cases h3 : M3 = P3
    · subst h3
      by_cases h4 : M4 = P4
      · subst h4
        by_cases h5 : M5 = P5
        · subst h5
          by_cases h6 : M6 = P6
          · subst h6
            simp only [decide_true, Bool.true_and]
            go_enter Tryz.func85, Tryz.ntmps85
            go_wp2
            go_ret
            exact ⟨rfl, two_box _ _ _⟩
          · have hd : decide (M6 = P6) = false := decide_eq_false h6
            rw [hd]
            simp only [decide_true, Bool.true_and, Bool.false_and]
            have g1 : ((P6 : Int) == (M6 : Int)) = false := by simp; omega
            have g2 : decide (P6 = M6) = false := decide_eq_false (by omega)
            have g3 : ¬ P6 = M6 := by omega
            clear hd h6
            go_enter Tryz.func85, Tryz.ntmps85
            go_wp2
            go_ret
            exact ⟨rfl, two_box _ _ _⟩
        · have hd : decide (M5 = P5) = false := decide_eq_false h5
          rw [hd]
          simp only [decide_true, Bool.true_and, Bool.false_and]
          have g1 : ((P5 : Int) == (M5 : Int)) = false := by simp; omega
          have g2 : decide (P5 = M5) = false := decide_eq_false (by omega)
          have g3 : ¬ P5 = M5 := by omega
          clear hd h5
          go_enter Tryz.func85, Tryz.ntmps85
          go_wp2
          go_ret
          exact ⟨rfl, two_box _ _ _⟩
      · have hd : decide (M4 = P4) = false := decide_eq_false h4
        rw [hd]
        simp only [decide_true, Bool.true_and, Bool.false_and]
        have g1 : ((P4 : Int) == (M4 : Int)) = false := by simp; omega
        have g2 : decide (P4 = M4) = false := decide_eq_false (by omega)
        have g3 : ¬ P4 = M4 := by omega
        clear hd h4
        go_enter Tryz.func85, Tryz.ntmps85
        go_wp2
        go_ret
        exact ⟨rfl, two_box _ _ _⟩
    · have hd : decide (M3 = P3) = false := decide_eq_false h3
      rw [hd]
      simp only [decide_true, Bool.true_and, Bool.false_and]
      have g1 : ((P3 : Int) == (M3 : Int)) = false := by simp; omega
      have g2 : decide (P3 = M3) = false := decide_eq_false (by omega)
      have g3 : ¬ P3 = M3 := by omega
      clear hd h3
      go_enter Tryz.func85, Tryz.ntmps85
      go_wp2
      go_ret
      exact ⟨rfl, two_box _ _ _⟩
  · have hd : decide (M2 = P2) = false := decide_eq_false h2
    rw [hd]
    simp only [decide_true, Bool.true_and, Bool.false_and]
    have g1 : ((P2 : Int) == (M2 : Int)) = false := by simp; omega
    have g2 : decide (P2 = M2) = false := decide_eq_false (by omega)
    have g3 : ¬ P2 = M2 := by omega
    clear hd h2
    go_enter Tryz.func85, Tryz.ntmps85
    go_wp2
    go_ret
    exact ⟨rfl, two_box _ _ _⟩
theorem cont_ho2 (w : World) (A : Option Addr) (n c g : Nat) (l : List HazO) (nm_ : NamesM) (p : NaA) (hn : Hid (n = l.length)) (hN : n ≤ 400) (hx : Rd w (· < w.heap.size) A (cs hoC l)) (hb : Blk w g 30 (naL nm_ p)) :
    Calls Tryz.prog 103 #[.slice A n c, .func (.func 104) #[] #[.pointer (some ⟨g, 0, none⟩)]] w (BoolB w (l.any (fun h => [h.on_].any (outB (clW nm_ h.stop).length)))) :=
  cont_ho w A n c g l _ hn hN hx (HH fun a _ w' hk => ast5_any a g nm_ p w' (hb.after hk))
theorem astray_any (x : WorldM) (p : WoA) (w : World) (h : Wo w (· < w.heap.size) x p) (hl : WLt x) : Calls Tryz.prog 86 #[woG x p] w (BoolB w (astB x)) := by
  obtain ⟨cr, s4, s4'⟩ := h.r4
  obtain ⟨l1, l2, l3, l4, l5, l6, m2, m3, m4, m5, m6, lr⟩ := hl
  have C2 := HH (fun w' gN (hb : Below w.heap.size w w') (hn : Blk w' gN 30 (naL x.names p.n)) => cont_po w' p.b2 x.paths.length p.d2 gN x.paths (fun p => [p.a, p.b].any (outB x.names.stops.length)) (HH rfl) (by omega) (rd_later h.r2 hb) (HH fun a _ w2 h2 => ast1_any a gN x.names p.n w2 (hn.after h2)))
  have C3 := HH (fun w' gN (hb : Below w.heap.size w w') (hn : Blk w' gN 30 (naL x.names p.n)) => cont_dof w' p.b3 x.doors.length p.d3 gN x.doors (fun p => [p.a, p.b].any (outB x.names.stops.length)) (HH rfl) (by omega) (rd_later h.r3 hb) (HH fun a _ w2 h2 => ast2_any a gN x.names p.n w2 (hn.after h2)))
  have C4 := HH (fun w' gN (hb : Below w.heap.size w w') (hn : Blk w' gN 30 (naL x.names p.n)) => cont_ro w' p.b4 x.routes.length p.d4 gN x.routes cr (fun r => r.stops.any (outB x.names.stops.length)) (HH rfl) (by omega) (rd_later s4 hb) (s4'.later hb) (HH fun a ha w2 sa sc ra rc ya yc h2 hro => ast3_any a sa ra ya sc rc yc gN x.names p.n w2 (hn.after h2) hro (lr a ha).1))
  have C5 := HH (fun w' gN (hb : Below w.heap.size w w') (hn : Blk w' gN 30 (naL x.names p.n)) => cont_to w' p.b5 x.trips.length p.d5 gN x.trips (fun t => [t.route].any (outB x.names.routes.length)) (HH rfl) (by omega) (rd_later h.r5 hb) (HH fun a _ w2 h2 => ast4_any a gN x.names p.n w2 (hn.after h2)))
  have C6 := HH (fun w' gN (hb : Below w.heap.size w w') (hn : Blk w' gN 30 (naL x.names p.n)) => cont_ho2 w' p.b6 x.hazards.length p.d6 gN x.hazards x.names p.n (HH rfl) (by omega) (rd_later h.r6 hb) hn)
  change Hid (∀ w' gN, Below w.heap.size w w' → _ → Calls _ _ _ w' (BoolB w' (aPo x))) at C2
  change Hid (∀ w' gN, Below w.heap.size w w' → _ → Calls _ _ _ w' (BoolB w' (aDo x))) at C3
  change Hid (∀ w' gN, Below w.heap.size w w' → _ → Calls _ _ _ w' (BoolB w' (aRo x))) at C4
  change Hid (∀ w' gN, Below w.heap.size w w' → _ → Calls _ _ _ w' (BoolB w' (aTo x))) at C5
  change Hid (∀ w' gN, Below w.heap.size w w' → _ → Calls _ _ _ w' (BoolB w' (aHo x))) at C6
  unfold astB
  clear h s4 s4' l1 l2 l3 l4 l5 l6 m2 m3 m4 m5 m6 lr
  generalize aPo x = B2 at *
  generalize aDo x = B3 at *
  generalize aRo x = B4 at *
  generalize aTo x = B5 at *
  generalize aHo x = B6 at *
  dsimp only [naL] at C2 C3 C4 C5 C6
  dsimp only [woG]
  generalize x.names.stops.length = L1 at *
  generalize x.names.paths.length = L2 at *
  generalize x.names.doors.length = L3 at *
  generalize x.names.routes.length = L4 at *
  generalize x.names.trips.length = L5 at *
  generalize x.names.hazards.length = L6 at *
  generalize x.paths.length = P2 at *
  generalize x.doors.length = P3 at *
  generalize x.routes.length = P4 at *
  generalize x.trips.length = P5 at *
  generalize x.hazards.length = P6 at *
  generalize x.horizon = hz at *
  obtain ⟨⟨a1, a2, a3, a4, a5, a6, c1, c2, c3, c4, c5, c6⟩, b2, b3, b4, b5, b6, d2, d3, d4, d5, d6⟩ := p
  dsimp only at C2 C3 C4 C5 C6 ⊢
  cases B2 with
  | true =>
    simp only [Bool.true_or, Bool.false_or]
    go_enter Tryz.func86, Tryz.ntmps86
    go_wp2_with (first
        | (go_at_call 94; (with_reducible refine (C2.out _ _ ?qa ?qb).mono ?_); (case qa => exact (two_box _ _ _)); (case qb => exact (Blk.new2 _ _ _ _)); rintro e w2 ⟨rfl, hb⟩; have Q2 := HH hb; clear hb)
        | fail)
    go_ret
    exact ⟨rfl, keep_trans (two_box _ _ _) Q2.out⟩
  | false =>
    cases B3 with
    | true =>
      simp only [Bool.true_or, Bool.false_or]
      go_enter Tryz.func86, Tryz.ntmps86
      go_wp2_with (first
          | (go_at_call 94; (with_reducible refine (C2.out _ _ ?qa ?qb).mono ?_); (case qa => exact (two_box _ _ _)); (case qb => exact (Blk.new2 _ _ _ _)); rintro e w2 ⟨rfl, hb⟩; have Q2 := HH hb; have y3 : w2.cell? ⟨w.heap.size, 8, none⟩ = some (.slice b3 P3 d3) := (((Blk.new w 37 [.int .i64 hz, .slice a1 L1 c1, .slice a2 L2 c2, .slice a3 L3 c3, .slice a4 L4 c4, .slice a5 L5 c5, .slice a6 L6 c6, .slice b2 P2 d2, .slice b3 P3 d3, .slice b4 P4 d4, .slice b5 P5 d5, .slice b6 P6 d6]).alloc _).after Q2.out).cell 8; clear hb)
          | (go_at_call 97; (with_reducible refine (C3.out _ _ ?qa ?qb).mono ?_); (case qa => exact (keep_trans (two_box _ _ _) Q2.out)); (case qb => exact ((Blk.new2 _ _ _ _).after Q2.out)); rintro e w3 ⟨rfl, hb⟩; have Q3 := HH (keep_trans Q2.out hb); clear hb)
          | fail)
      go_ret
      exact ⟨rfl, keep_trans (two_box _ _ _) Q3.out⟩
    | false =>
      cases B4 with
      | true =>
        simp only [Bool.true_or, Bool.false_or]
        go_enter Tryz.func86, Tryz.ntmps86
        go_wp2_with (first
            | (go_at_call 94; (with_reducible refine (C2.out _ _ ?qa ?qb).mono ?_); (case qa => exact (two_box _ _ _)); (case qb => exact (Blk.new2 _ _ _ _)); rintro e w2 ⟨rfl, hb⟩; have Q2 := HH hb; have y3 : w2.cell? ⟨w.heap.size, 8, none⟩ = some (.slice b3 P3 d3) := (((Blk.new w 37 [.int .i64 hz, .slice a1 L1 c1, .slice a2 L2 c2, .slice a3 L3 c3, .slice a4 L4 c4, .slice a5 L5 c5, .slice a6 L6 c6, .slice b2 P2 d2, .slice b3 P3 d3, .slice b4 P4 d4, .slice b5 P5 d5, .slice b6 P6 d6]).alloc _).after Q2.out).cell 8; clear hb)
            | (go_at_call 97; (with_reducible refine (C3.out _ _ ?qa ?qb).mono ?_); (case qa => exact (keep_trans (two_box _ _ _) Q2.out)); (case qb => exact ((Blk.new2 _ _ _ _).after Q2.out)); rintro e w3 ⟨rfl, hb⟩; have Q3 := HH (keep_trans Q2.out hb); have y4 : w3.cell? ⟨w.heap.size, 9, none⟩ = some (.slice b4 P4 d4) := (((Blk.new w 37 [.int .i64 hz, .slice a1 L1 c1, .slice a2 L2 c2, .slice a3 L3 c3, .slice a4 L4 c4, .slice a5 L5 c5, .slice a6 L6 c6, .slice b2 P2 d2, .slice b3 P3 d3, .slice b4 P4 d4, .slice b5 P5 d5, .slice b6 P6 d6]).alloc _).after Q3.out).cell 9; clear hb)
            | (go_at_call 99; (with_reducible refine (C4.out _ _ ?qa ?qb).mono ?_); (case qa => exact (keep_trans (two_box _ _ _) Q3.out)); (case qb => exact ((Blk.new2 _ _ _ _).after Q3.out)); rintro e w4 ⟨rfl, hb⟩; have Q4 := HH (keep_trans Q3.out hb); clear hb)
            | fail)
        go_ret
        exact ⟨rfl, keep_trans (two_box _ _ _) Q4.out⟩
      | false =>
        cases B5 with
        | true =>
          simp only [Bool.true_or, Bool.false_or]
          go_enter Tryz.func86, Tryz.ntmps86
          go_wp2_with (first
              | (go_at_call 94; (with_reducible refine (C2.out _ _ ?qa ?qb).mono ?_); (case qa => exact (two_box _ _ _)); (case qb => exact (Blk.new2 _ _ _ _)); rintro e w2 ⟨rfl, hb⟩; have Q2 := HH hb; have y3 : w2.cell? ⟨w.heap.size, 8, none⟩ = some (.slice b3 P3 d3) := (((Blk.new w 37 [.int .i64 hz, .slice a1 L1 c1, .slice a2 L2 c2, .slice a3 L3 c3, .slice a4 L4 c4, .slice a5 L5 c5, .slice a6 L6 c6, .slice b2 P2 d2, .slice b3 P3 d3, .slice b4 P4 d4, .slice b5 P5 d5, .slice b6 P6 d6]).alloc _).after Q2.out).cell 8; clear hb)
              | (go_at_call 97; (with_reducible refine (C3.out _ _ ?qa ?qb).mono ?_); (case qa => exact (keep_trans (two_box _ _ _) Q2.out)); (case qb => exact ((Blk.new2 _ _ _ _).after Q2.out)); rintro e w3 ⟨rfl, hb⟩; have Q3 := HH (keep_trans Q2.out hb); have y4 : w3.cell? ⟨w.heap.size, 9, none⟩ = some (.slice b4 P4 d4) := (((Blk.new w 37 [.int .i64 hz, .slice a1 L1 c1, .slice a2 L2 c2, .slice a3 L3 c3, .slice a4 L4 c4, .slice a5 L5 c5, .slice a6 L6 c6, .slice b2 P2 d2, .slice b3 P3 d3, .slice b4 P4 d4, .slice b5 P5 d5, .slice b6 P6 d6]).alloc _).after Q3.out).cell 9; clear hb)
              | (go_at_call 99; (with_reducible refine (C4.out _ _ ?qa ?qb).mono ?_); (case qa => exact (keep_trans (two_box _ _ _) Q3.out)); (case qb => exact ((Blk.new2 _ _ _ _).after Q3.out)); rintro e w4 ⟨rfl, hb⟩; have Q4 := HH (keep_trans Q3.out hb); have y5 : w4.cell? ⟨w.heap.size, 10, none⟩ = some (.slice b5 P5 d5) := (((Blk.new w 37 [.int .i64 hz, .slice a1 L1 c1, .slice a2 L2 c2, .slice a3 L3 c3, .slice a4 L4 c4, .slice a5 L5 c5, .slice a6 L6 c6, .slice b2 P2 d2, .slice b3 P3 d3, .slice b4 P4 d4, .slice b5 P5 d5, .slice b6 P6 d6]).alloc _).after Q4.out).cell 10; clear hb)
              | (go_at_call 101; (with_reducible refine (C5.out _ _ ?qa ?qb).mono ?_); (case qa => exact (keep_trans (two_box _ _ _) Q4.out)); (case qb => exact ((Blk.new2 _ _ _ _).after Q4.out)); rintro e w5 ⟨rfl, hb⟩; have Q5 := HH (keep_trans Q4.out hb); clear hb)
              | fail)
          go_ret
          exact ⟨rfl, keep_trans (two_box _ _ _) Q5.out⟩
        | false =>
          cases B6 with
          | true =>
            simp only [Bool.true_or, Bool.false_or]
            go_enter Tryz.func86, Tryz.ntmps86
            go_wp2_with (first
                | (go_at_call 94; (with_reducible refine (C2.out _ _ ?qa ?qb).mono ?_); (case qa => exact (two_box _ _ _)); (case qb => exact (Blk.new2 _ _ _ _)); rintro e w2 ⟨rfl, hb⟩; have Q2 := HH hb; have y3 : w2.cell? ⟨w.heap.size, 8, none⟩ = some (.slice b3 P3 d3) := (((Blk.new w 37 [.int .i64 hz, .slice a1 L1 c1, .slice a2 L2 c2, .slice a3 L3 c3, .slice a4 L4 c4, .slice a5 L5 c5, .slice a6 L6 c6, .slice b2 P2 d2, .slice b3 P3 d3, .slice b4 P4 d4, .slice b5 P5 d5, .slice b6 P6 d6]).alloc _).after Q2.out).cell 8; clear hb)
                | (go_at_call 97; (with_reducible refine (C3.out _ _ ?qa ?qb).mono ?_); (case qa => exact (keep_trans (two_box _ _ _) Q2.out)); (case qb => exact ((Blk.new2 _ _ _ _).after Q2.out)); rintro e w3 ⟨rfl, hb⟩; have Q3 := HH (keep_trans Q2.out hb); have y4 : w3.cell? ⟨w.heap.size, 9, none⟩ = some (.slice b4 P4 d4) := (((Blk.new w 37 [.int .i64 hz, .slice a1 L1 c1, .slice a2 L2 c2, .slice a3 L3 c3, .slice a4 L4 c4, .slice a5 L5 c5, .slice a6 L6 c6, .slice b2 P2 d2, .slice b3 P3 d3, .slice b4 P4 d4, .slice b5 P5 d5, .slice b6 P6 d6]).alloc _).after Q3.out).cell 9; clear hb)
                | (go_at_call 99; (with_reducible refine (C4.out _ _ ?qa ?qb).mono ?_); (case qa => exact (keep_trans (two_box _ _ _) Q3.out)); (case qb => exact ((Blk.new2 _ _ _ _).after Q3.out)); rintro e w4 ⟨rfl, hb⟩; have Q4 := HH (keep_trans Q3.out hb); have y5 : w4.cell? ⟨w.heap.size, 10, none⟩ = some (.slice b5 P5 d5) := (((Blk.new w 37 [.int .i64 hz, .slice a1 L1 c1, .slice a2 L2 c2, .slice a3 L3 c3, .slice a4 L4 c4, .slice a5 L5 c5, .slice a6 L6 c6, .slice b2 P2 d2, .slice b3 P3 d3, .slice b4 P4 d4, .slice b5 P5 d5, .slice b6 P6 d6]).alloc _).after Q4.out).cell 10; clear hb)
                | (go_at_call 101; (with_reducible refine (C5.out _ _ ?qa ?qb).mono ?_); (case qa => exact (keep_trans (two_box _ _ _) Q4.out)); (case qb => exact ((Blk.new2 _ _ _ _).after Q4.out)); rintro e w5 ⟨rfl, hb⟩; have Q5 := HH (keep_trans Q4.out hb); have y6 : w5.cell? ⟨w.heap.size, 11, none⟩ = some (.slice b6 P6 d6) := (((Blk.new w 37 [.int .i64 hz, .slice a1 L1 c1, .slice a2 L2 c2, .slice a3 L3 c3, .slice a4 L4 c4, .slice a5 L5 c5, .slice a6 L6 c6, .slice b2 P2 d2, .slice b3 P3 d3, .slice b4 P4 d4, .slice b5 P5 d5, .slice b6 P6 d6]).alloc _).after Q5.out).cell 11; clear hb)
                | (go_at_call 103; (with_reducible refine (C6.out _ _ ?qa ?qb).mono ?_); (case qa => exact (keep_trans (two_box _ _ _) Q5.out)); (case qb => exact ((Blk.new2 _ _ _ _).after Q5.out)); rintro e w6 ⟨rfl, hb⟩; have Q6 := HH (keep_trans Q5.out hb); clear hb)
                | fail)
            go_ret
            exact ⟨rfl, keep_trans (two_box _ _ _) Q6.out⟩
          | false =>
            simp only [Bool.false_or]
            go_enter Tryz.func86, Tryz.ntmps86
            go_wp2_with (first
                | (go_at_call 94; (with_reducible refine (C2.out _ _ ?qa ?qb).mono ?_); (case qa => exact (two_box _ _ _)); (case qb => exact (Blk.new2 _ _ _ _)); rintro e w2 ⟨rfl, hb⟩; have Q2 := HH hb; have y3 : w2.cell? ⟨w.heap.size, 8, none⟩ = some (.slice b3 P3 d3) := (((Blk.new w 37 [.int .i64 hz, .slice a1 L1 c1, .slice a2 L2 c2, .slice a3 L3 c3, .slice a4 L4 c4, .slice a5 L5 c5, .slice a6 L6 c6, .slice b2 P2 d2, .slice b3 P3 d3, .slice b4 P4 d4, .slice b5 P5 d5, .slice b6 P6 d6]).alloc _).after Q2.out).cell 8; clear hb)
                | (go_at_call 97; (with_reducible refine (C3.out _ _ ?qa ?qb).mono ?_); (case qa => exact (keep_trans (two_box _ _ _) Q2.out)); (case qb => exact ((Blk.new2 _ _ _ _).after Q2.out)); rintro e w3 ⟨rfl, hb⟩; have Q3 := HH (keep_trans Q2.out hb); have y4 : w3.cell? ⟨w.heap.size, 9, none⟩ = some (.slice b4 P4 d4) := (((Blk.new w 37 [.int .i64 hz, .slice a1 L1 c1, .slice a2 L2 c2, .slice a3 L3 c3, .slice a4 L4 c4, .slice a5 L5 c5, .slice a6 L6 c6, .slice b2 P2 d2, .slice b3 P3 d3, .slice b4 P4 d4, .slice b5 P5 d5, .slice b6 P6 d6]).alloc _).after Q3.out).cell 9; clear hb)
                | (go_at_call 99; (with_reducible refine (C4.out _ _ ?qa ?qb).mono ?_); (case qa => exact (keep_trans (two_box _ _ _) Q3.out)); (case qb => exact ((Blk.new2 _ _ _ _).after Q3.out)); rintro e w4 ⟨rfl, hb⟩; have Q4 := HH (keep_trans Q3.out hb); have y5 : w4.cell? ⟨w.heap.size, 10, none⟩ = some (.slice b5 P5 d5) := (((Blk.new w 37 [.int .i64 hz, .slice a1 L1 c1, .slice a2 L2 c2, .slice a3 L3 c3, .slice a4 L4 c4, .slice a5 L5 c5, .slice a6 L6 c6, .slice b2 P2 d2, .slice b3 P3 d3, .slice b4 P4 d4, .slice b5 P5 d5, .slice b6 P6 d6]).alloc _).after Q4.out).cell 10; clear hb)
                | (go_at_call 101; (with_reducible refine (C5.out _ _ ?qa ?qb).mono ?_); (case qa => exact (keep_trans (two_box _ _ _) Q4.out)); (case qb => exact ((Blk.new2 _ _ _ _).after Q4.out)); rintro e w5 ⟨rfl, hb⟩; have Q5 := HH (keep_trans Q4.out hb); have y6 : w5.cell? ⟨w.heap.size, 11, none⟩ = some (.slice b6 P6 d6) := (((Blk.new w 37 [.int .i64 hz, .slice a1 L1 c1, .slice a2 L2 c2, .slice a3 L3 c3, .slice a4 L4 c4, .slice a5 L5 c5, .slice a6 L6 c6, .slice b2 P2 d2, .slice b3 P3 d3, .slice b4 P4 d4, .slice b5 P5 d5, .slice b6 P6 d6]).alloc _).after Q5.out).cell 11; clear hb)
                | (go_at_call 103; (with_reducible refine (C6.out _ _ ?qa ?qb).mono ?_); (case qa => exact (keep_trans (two_box _ _ _) Q5.out)); (case qb => exact ((Blk.new2 _ _ _ _).after Q5.out)); rintro e w6 ⟨rfl, hb⟩; have Q6 := HH (keep_trans Q5.out hb); clear hb)
                | fail)
            go_ret
            exact ⟨rfl, keep_trans (two_box _ _ _) Q6.out⟩
end Go.Proofs.YtfefnfifeaihhaaGreat.Wo
