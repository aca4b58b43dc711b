/- Package world's missing, closable and the closures of astray: is a number of no thing?; proved by walking their texts. Conditions: at most 400 numbers. -/
import Derived.Test.YtfefnfifeaihhaaGreatWoCont
set_option linter.unusedVariables false
set_option linter.unusedSimpArgs false
set_option maxHeartbeats 1000000
set_option maxRecDepth 100000
namespace Go.Proofs.YtfefnfifeaihhaaGreat.Wo
open Go.ChangeShapes Go.WideShapes Go.ChangeAt Go.RowKit Go.Maps
open Lx Sh
/-- no place of a list of so many -/
def outB (m : Nat) (i : Int) : Bool := decide (i < 0) || decide ((m : Int) ≤ i)
theorem inB_outB (i : Int) (S : List Nm) : inB i S = !outB S.length i := by
  unfold inB outB
  rw [Bool.eq_iff_iff]
  simp
theorem miss1_any (i : Int) (g m c : Nat) (A : Option Addr) (w : World) (hb : Blk w g 28 [.slice A m c]) : Calls Tryz.prog 130 #[.int .i64 i, .pointer (some ⟨g, 0, none⟩)] w (BoolB w (outB m i)) := by
  have z0 : w.cell? ⟨g, 0, none⟩ = some (.slice A m c) := hb.cell 0
  clear hb
  by_cases h0 : i < 0
  · have hq : outB m i = true := by unfold outB; rw [decide_eq_true h0]; rfl
    have HQ := HH hq
    clear hq
    have hd : decide (i < 0) = true := decide_eq_true h0
    go_enter Tryz.func130, Tryz.ntmps130
    go_wp2
    go_ret
    exact ⟨by rw [HQ.out]; rfl, Below.refl _ _⟩
  · have hd : decide (i < 0) = false := decide_eq_false h0
    by_cases h1 : (m : Int) ≤ i
    · have hq : outB m i = true := by unfold outB; rw [decide_eq_true h1]; simp
      have HQ := HH hq
      clear hq
      have hd1 : decide ((m : Int) ≤ i) = true := decide_eq_true h1
      go_enter Tryz.func130, Tryz.ntmps130
      go_wp2
      go_ret
      exact ⟨by rw [HQ.out]; rfl, Below.refl _ _⟩
    · have hq : outB m i = false := by unfold outB; rw [hd, decide_eq_false h1]; rfl
      have HQ := HH hq
      clear hq
      have hd1 : decide ((m : Int) ≤ i) = false := decide_eq_false h1
      go_enter Tryz.func130, Tryz.ntmps130
      go_wp2
      go_ret
      exact ⟨by rw [HQ.out]; rfl, Below.refl _ _⟩
theorem missing_any (w : World) (A B : Option Addr) (m c n d : Nat) (l : List Int) (hn : Hid (n = l.length)) (hN : n ≤ 400) (hx : Rd w (· < w.heap.size) B (cs intC l)) :
    Calls Tryz.prog 96 #[.slice A m c, .slice B n d] w (BoolB w (l.any (outB m))) := by
  have HC := HH (fun w' (hb : Below w.heap.size w w') (hk : Blk w' w.heap.size 28 [.slice A m c]) => cont_ii w' B n d w.heap.size l (outB m) hn hN (rd_later hx hb) (HH fun a _ w2 h2 => miss1_any a w.heap.size m c A w2 (hk.after h2)))
  clear hx
  generalize l.any (outB m) = R at *
  go_enter Tryz.func96, Tryz.ntmps96
  go_wp2_with (go_at_call 129; refine (HC.out _ (one_box _ _) (Blk.new _ _ _)).mono ?_; rintro e w2 ⟨rfl, hb⟩; have HB2 := HH (keep_trans (one_box _ _) hb); clear hb)
  go_ret
  exact ⟨rfl, HB2.out⟩
/-- the rows of a world's names, as a box holds them -/
abbrev naL (n : NamesM) (p : NaA) : List Value := [.slice p.a1 n.stops.length p.c1, .slice p.a2 n.paths.length p.c2, .slice p.a3 n.doors.length p.c3, .slice p.a4 n.routes.length p.c4, .slice p.a5 n.trips.length p.c5, .slice p.a6 n.hazards.length p.c6]
theorem ast1_any (a : PathO) (g : Nat) (n : NamesM) (p : NaA) (w : World) (hb : Blk w g 30 (naL n p)) : Calls Tryz.prog 95 #[poV a, .pointer (some ⟨g, 0, none⟩)] w (BoolB w ([a.a, a.b].any (outB n.stops.length))) := by
  have KB := HH hb
  have zg : g < w.heap.size := hb.lt
  clear hb
  have HM := HH (fun w' (b : Nat) (hx : Rd w' (· < w'.heap.size) (some ⟨b, 0, none⟩) [.int .i64 a.a, .int .i64 a.b]) => missing_any w' p.a1 (some ⟨b, 0, none⟩) n.stops.length p.c1 2 2 [a.a, a.b] (HH rfl) (by omega) hx)
  obtain ⟨x0, x1, x2⟩ := a
  have z0 : w.cell? ⟨g, 0, none⟩ = some (.slice p.a1 n.stops.length p.c1) := KB.out.cell 0
  dsimp only at HM ⊢
  generalize ([x0, x1].any (outB n.stops.length)) = R at *
  generalize n.stops.length = m at *
  go_enter Tryz.func95, Tryz.ntmps95
  go_wp2_with (go_at_call 96; refine (HM.out _ _ (Sh.lit_at _ _ _ _ _ (by simp) rfl)).mono ?_; rintro e w2 ⟨rfl, hb⟩; have HB2 := HH (keep_trans (two_box _ _ _) hb); clear hb)
  go_ret
  exact ⟨rfl, HB2.out⟩
theorem ast2_any (a : DoorO) (g : Nat) (n : NamesM) (p : NaA) (w : World) (hb : Blk w g 30 (naL n p)) : Calls Tryz.prog 98 #[dooG a, .pointer (some ⟨g, 0, none⟩)] w (BoolB w ([a.a, a.b].any (outB n.stops.length))) := by
  have KB := HH hb
  have zg : g < w.heap.size := hb.lt
  clear hb
  have HM := HH (fun w' (b : Nat) (hx : Rd w' (· < w'.heap.size) (some ⟨b, 0, none⟩) [.int .i64 a.a, .int .i64 a.b]) => missing_any w' p.a1 (some ⟨b, 0, none⟩) n.stops.length p.c1 2 2 [a.a, a.b] (HH rfl) (by omega) hx)
  obtain ⟨x0, x1, x2, ⟨x3, x4, x5⟩⟩ := a
  have z0 : w.cell? ⟨g, 0, none⟩ = some (.slice p.a1 n.stops.length p.c1) := KB.out.cell 0
  dsimp only at HM ⊢
  generalize ([x0, x1].any (outB n.stops.length)) = R at *
  generalize n.stops.length = m at *
  go_enter Tryz.func98, Tryz.ntmps98
  go_wp2_with (go_at_call 96; refine (HM.out _ _ (Sh.lit_at _ _ _ _ _ (by simp) rfl)).mono ?_; rintro e w2 ⟨rfl, hb⟩; have HB2 := HH (keep_trans (two_box _ _ _) hb); clear hb)
  go_ret
  exact ⟨rfl, HB2.out⟩
theorem ast4_any (a : TripO) (g : Nat) (n : NamesM) (p : NaA) (w : World) (hb : Blk w g 30 (naL n p)) : Calls Tryz.prog 102 #[toV a, .pointer (some ⟨g, 0, none⟩)] w (BoolB w ([a.route].any (outB n.routes.length))) := by
  have KB := HH hb
  have zg : g < w.heap.size := hb.lt
  clear hb
  have HM := HH (fun w' (b : Nat) (hx : Rd w' (· < w'.heap.size) (some ⟨b, 0, none⟩) [.int .i64 a.route]) => missing_any w' p.a4 (some ⟨b, 0, none⟩) n.routes.length p.c4 1 1 [a.route] (HH rfl) (by omega) hx)
  obtain ⟨x0, x1, x2, x3⟩ := a
  have z0 : w.cell? ⟨g, 3, none⟩ = some (.slice p.a4 n.routes.length p.c4) := KB.out.cell 3
  dsimp only at HM ⊢
  generalize ([x0].any (outB n.routes.length)) = R at *
  generalize n.routes.length = m at *
  go_enter Tryz.func102, Tryz.ntmps102
  go_wp2_with (go_at_call 96; refine (HM.out _ _ (Sh.lit_at _ _ _ _ _ (by simp) rfl)).mono ?_; rintro e w2 ⟨rfl, hb⟩; have HB2 := HH (keep_trans (two_box _ _ _) hb); clear hb)
  go_ret
  exact ⟨rfl, HB2.out⟩
theorem ast3_any (a : RouteO) (sa ra ya : Option Addr) (sc rc yc g : Nat) (n : NamesM) (p : NaA) (w : World) (hb : Blk w g 30 (naL n p)) (hr : RoAt w (· < w.heap.size) a sa ra ya) (hl : a.stops.length ≤ 400) : Calls Tryz.prog 100 #[roV a sa ra ya sc rc yc, .pointer (some ⟨g, 0, none⟩)] w (BoolB w (a.stops.any (outB n.stops.length))) := by
  have KB := HH hb
  have zg : g < w.heap.size := hb.lt
  clear hb
  obtain ⟨m1, hm1⟩ : ∃ m, m = a.stops.length := ⟨_, rfl⟩
  have HM := HH (fun w' (hx : Below w.heap.size w w') => missing_any w' p.a1 sa n.stops.length p.c1 m1 sc a.stops (HH hm1) (by omega) (rd_later hr.hs hx))
  have z0 : w.cell? ⟨g, 0, none⟩ = some (.slice p.a1 n.stops.length p.c1) := KB.out.cell 0
  dsimp only [roV]
  rw [← hm1]
  clear hm1 hl hr
  generalize (a.stops.any (outB n.stops.length)) = R at *
  generalize n.stops.length = m at *
  generalize a.rides.length = m2 at *
  generalize a.stays.length = m3 at *
  go_enter Tryz.func100, Tryz.ntmps100
  go_wp2_with (go_at_call 96; refine (HM.out _ (one_box _ _)).mono ?_; rintro e w2 ⟨rfl, hb⟩; have HB2 := HH (keep_trans (one_box _ _) hb); clear hb)
  go_ret
  exact ⟨rfl, HB2.out⟩
/-- the names of all that a hazard may be on -/
def clW (n : NamesM) (b : Bool) : List Nm := if b then n.stops else n.paths
def clA (p : NaA) (b : Bool) : Option Addr := if b then p.a1 else p.a2
def clC (p : NaA) (b : Bool) : Nat := if b then p.c1 else p.c2
theorem clos_any (n : NamesM) (p : NaA) (a : HazO) (w : World) : Calls Tryz.prog 105 #[naV n p, hoG a] w (fun e w' => e = .returned (.slice (clA p a.stop) (clW n a.stop).length (clC p a.stop)) ∧ Below w.heap.size w w') := by
  obtain ⟨x0, x1, ⟨x2, x3, x4⟩⟩ := a
  cases x0
  all_goals
    dsimp only [clA, clC, clW, if_true, if_false, Bool.false_eq_true]
    go_enter Tryz.func105, Tryz.ntmps105
    go_wp2
    go_ret
    exact ⟨rfl, two_box _ _ _⟩
end Go.Proofs.YtfefnfifeaihhaaGreat.Wo
