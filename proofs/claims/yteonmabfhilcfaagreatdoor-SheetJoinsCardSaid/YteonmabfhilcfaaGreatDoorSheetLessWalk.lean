/- Without one of its lines a sheet's text tells all other things: walked. Conditions: the library's variables hold what start-up lays. -/
import Derived.Test.YteonmabfhilcfaaGreatDoorSheetLessMath
import Derived.Test.YteonmabfhilcfaaGreatDoorKitOwn
namespace Go.Proofs.YteonmabfhilcfaaGreatDoor.Sh
open Go.ChangeShapes Go.WideShapes Go.ChangeAt Go.RowKit
open Lx
set_option linter.unusedVariables false
set_option linter.unusedSimpArgs false
theorem refcheck_ok {x : SheetM} (hl : lightM x = true) (hx : May x) (p : ShA) (w : World) (h : Sh w (· < w.heap.size) x p) : Calls Tryz.prog 14 #[shV x p] w (fun e w' => e = .returned (.int .i64 0) ∧ Below w.heap.size w w') := by
  have := refcheck_any x p w h (lt_of hl)
  rwa [hx.check] at this
theorem cs_drop {α : Type} (f : α → List Value) (k : Nat) (h : ∀ a, (f a).length = k) (l : List α) (n : Nat) : cs f (l.drop n) = (cs f l).drop (n * k) := by
  induction l generalizing n with
  | nil => simp [cs]
  | cons a l ih =>
    cases n with
    | zero => simp
    | succ n => rw [List.drop_succ_cons, ih, cs_cons, Nat.succ_mul, Nat.add_comm, ← List.drop_drop, List.drop_left' (h a)]
theorem rd_drop2 {w : World} {S : Nat → Prop} {A : Option Addr} {xs : List Value} (h : Rd w S A xs) {c k : Nat} (hc : xs.length ≤ c) : Rd w S (if c = k + 2 then A else Option.map (fun x => { block := x.block, off := x.off + (k + 1 + 1) }) A) (xs.drop (k + 2)) := by
  have := h.drop (k := k + 2) (c := c = k + 2) (fun h => by omega)
  have e : (fun x : Addr => x.add (k + 2)) = fun x : Addr => { block := x.block, off := x.off + (k + 1 + 1) } := by
    funext x
    unfold Addr.add
    rw [if_neg (by omega)]
  rwa [e] at this
theorem same_str2 (w : World) (A B : Option Addr) (n m c d : Nat) (l : List (List UInt8)) (hn : Hid (n = l.length)) (hm : Hid (m = l.length)) (hN : n ≤ 1000000) (hx : Rd w (· < w.heap.size) A (cs strC l)) (hy : Rd w (· < w.heap.size) B (cs strC l)) :
    Calls Tryz.prog 19 #[.slice A n c, .slice B m d] w (BPost w true) := by
  obtain rfl : n = m := hn.out.trans hm.out.symm
  exact same_str w A B n c d l hn hN hx hy
set_option maxRecDepth 100000 in
set_option maxHeartbeats 2000000 in
theorem less_dark (x : SheetM) (p : ShA) (at_ : Int) (w : World) (hE : Tk.Env w) (hsh : Sh w (· < w.heap.size) x p) (hl : lightM x = false) :
    Calls Tryz.prog 8 #[shV x p, .int .i64 at_] w fun e w' => e = .returned (.bool true) ∧ Below w.heap.size w w' := by
  have H := Lib.hid (fun w' (h : Below w.heap.size w w') => lives_any w' (hE.on h))
  have CL : Hid (∀ w', Below w.heap.size w w' → Calls Tryz.prog 13 #[(.agg #[.int .i64 x.horizon, .slice p.a1 x.stops.length p.c1, .slice p.a2 x.paths.length p.c2, .slice p.a3 x.doors.length p.c3, .slice p.a4 x.routes.length p.c4, .slice p.a5 x.trips.length p.c5, .slice p.a6 x.hazards.length p.c6]), .int .i64 60] w' (BPost w' false)) := Lib.hid (fun w' h => by have := light_any x p w' (hsh.later h); rw [hl] at this; exact this)
  clear hE hsh hl
  show Calls _ _ #[(.agg #[.int .i64 x.horizon, .slice p.a1 x.stops.length p.c1, .slice p.a2 x.paths.length p.c2, .slice p.a3 x.doors.length p.c3, .slice p.a4 x.routes.length p.c4, .slice p.a5 x.trips.length p.c5, .slice p.a6 x.hazards.length p.c6]), .int .i64 at_] _ _
  go_enter Tryz.func8, Tryz.ntmps8
  go_wp2_with (first
    | (go_at_call 10; refine (H.out _ (one_box _ _)).mono ?_; rintro e' w1 ⟨rfl, hb⟩; have G1 := Lib.hid (keep_trans (one_box w _) hb); have K1 := Lib.hid ((Blk.new w 29 (shL' x p)).after hb); have u0 : w1.cell? ⟨w.heap.size, 0, none⟩ = some (.int .i64 x.horizon) := K1.out.cell 0; have u1 : w1.cell? ⟨w.heap.size, 1, none⟩ = some (.slice p.a1 x.stops.length p.c1) := K1.out.cell 1; have u2 : w1.cell? ⟨w.heap.size, 2, none⟩ = some (.slice p.a2 x.paths.length p.c2) := K1.out.cell 2; have u3 : w1.cell? ⟨w.heap.size, 3, none⟩ = some (.slice p.a3 x.doors.length p.c3) := K1.out.cell 3; have u4 : w1.cell? ⟨w.heap.size, 4, none⟩ = some (.slice p.a4 x.routes.length p.c4) := K1.out.cell 4; have u5 : w1.cell? ⟨w.heap.size, 5, none⟩ = some (.slice p.a5 x.trips.length p.c5) := K1.out.cell 5; have u6 : w1.cell? ⟨w.heap.size, 6, none⟩ = some (.slice p.a6 x.hazards.length p.c6) := K1.out.cell 6; clear hb)
    | (go_at_call 13; (with_reducible refine (CL.out _ G1.out).mono ?_); rintro e' w2 ⟨rfl, hb⟩; have G2 := Lib.hid (keep_trans G1.out hb); clear hb)
    | fail)
  go_ret
  exact ⟨rfl, G2.out⟩
set_option maxRecDepth 100000 in
set_option maxHeartbeats 2000000 in
theorem less_not (x : SheetM) (p : ShA) (at_ : Int) (w : World) (hE : Tk.Env w) (hsh : Sh w (· < w.heap.size) x p) (hl : lightM x = true) (hc : checkM x ≠ 0) :
    Calls Tryz.prog 8 #[shV x p, .int .i64 at_] w fun e w' => e = .returned (.bool true) ∧ Below w.heap.size w w' := by
  have H := Lib.hid (fun w' (h : Below w.heap.size w w') => lives_any w' (hE.on h))
  have CL : Hid (∀ w', Below w.heap.size w w' → Calls Tryz.prog 13 #[(.agg #[.int .i64 x.horizon, .slice p.a1 x.stops.length p.c1, .slice p.a2 x.paths.length p.c2, .slice p.a3 x.doors.length p.c3, .slice p.a4 x.routes.length p.c4, .slice p.a5 x.trips.length p.c5, .slice p.a6 x.hazards.length p.c6]), .int .i64 60] w' (BPost w' true)) := Lib.hid (fun w' h => by have := light_any x p w' (hsh.later h); rw [hl] at this; exact this)
  have CR : Hid (∀ w', Below w.heap.size w w' → Calls Tryz.prog 14 #[(.agg #[.int .i64 x.horizon, .slice p.a1 x.stops.length p.c1, .slice p.a2 x.paths.length p.c2, .slice p.a3 x.doors.length p.c3, .slice p.a4 x.routes.length p.c4, .slice p.a5 x.trips.length p.c5, .slice p.a6 x.hazards.length p.c6])] w' (fun e w'' => e = .returned (.int .i64 (checkM x)) ∧ Below w'.heap.size w' w'')) := Lib.hid (fun w' h => refcheck_any x p w' (hsh.later h) (lt_of hl))
  clear hE hsh hl
  generalize checkM x = C at *
  have hcb : (C == 0) = false := by rw [beq_eq_false_iff_ne]; exact hc
  show Calls _ _ #[(.agg #[.int .i64 x.horizon, .slice p.a1 x.stops.length p.c1, .slice p.a2 x.paths.length p.c2, .slice p.a3 x.doors.length p.c3, .slice p.a4 x.routes.length p.c4, .slice p.a5 x.trips.length p.c5, .slice p.a6 x.hazards.length p.c6]), .int .i64 at_] _ _
  go_enter Tryz.func8, Tryz.ntmps8
  go_wp2_with (first
    | (go_at_call 10; refine (H.out _ (one_box _ _)).mono ?_; rintro e' w1 ⟨rfl, hb⟩; have G1 := Lib.hid (keep_trans (one_box w _) hb); have K1 := Lib.hid ((Blk.new w 29 (shL' x p)).after hb); have u0 : w1.cell? ⟨w.heap.size, 0, none⟩ = some (.int .i64 x.horizon) := K1.out.cell 0; have u1 : w1.cell? ⟨w.heap.size, 1, none⟩ = some (.slice p.a1 x.stops.length p.c1) := K1.out.cell 1; have u2 : w1.cell? ⟨w.heap.size, 2, none⟩ = some (.slice p.a2 x.paths.length p.c2) := K1.out.cell 2; have u3 : w1.cell? ⟨w.heap.size, 3, none⟩ = some (.slice p.a3 x.doors.length p.c3) := K1.out.cell 3; have u4 : w1.cell? ⟨w.heap.size, 4, none⟩ = some (.slice p.a4 x.routes.length p.c4) := K1.out.cell 4; have u5 : w1.cell? ⟨w.heap.size, 5, none⟩ = some (.slice p.a5 x.trips.length p.c5) := K1.out.cell 5; have u6 : w1.cell? ⟨w.heap.size, 6, none⟩ = some (.slice p.a6 x.hazards.length p.c6) := K1.out.cell 6; clear hb)
    | (go_at_call 13; (with_reducible refine (CL.out _ G1.out).mono ?_); rintro e' w2 ⟨rfl, hb⟩; have G2 := Lib.hid (keep_trans G1.out hb); have K2 := Lib.hid (K1.out.after hb); have v0 : w2.cell? ⟨w.heap.size, 0, none⟩ = some (.int .i64 x.horizon) := K2.out.cell 0; have v1 : w2.cell? ⟨w.heap.size, 1, none⟩ = some (.slice p.a1 x.stops.length p.c1) := K2.out.cell 1; have v2 : w2.cell? ⟨w.heap.size, 2, none⟩ = some (.slice p.a2 x.paths.length p.c2) := K2.out.cell 2; have v3 : w2.cell? ⟨w.heap.size, 3, none⟩ = some (.slice p.a3 x.doors.length p.c3) := K2.out.cell 3; have v4 : w2.cell? ⟨w.heap.size, 4, none⟩ = some (.slice p.a4 x.routes.length p.c4) := K2.out.cell 4; have v5 : w2.cell? ⟨w.heap.size, 5, none⟩ = some (.slice p.a5 x.trips.length p.c5) := K2.out.cell 5; have v6 : w2.cell? ⟨w.heap.size, 6, none⟩ = some (.slice p.a6 x.hazards.length p.c6) := K2.out.cell 6; clear hb)
    | (go_at_call 14; (with_reducible refine (CR.out _ G2.out).mono ?_); rintro e' w3 ⟨rfl, hb⟩; have G3 := Lib.hid (keep_trans G2.out hb); clear hb)
    | fail)
  go_ret
  exact ⟨rfl, G3.out⟩
set_option maxRecDepth 100000 in
set_option maxHeartbeats 2000000 in
theorem less_none (x : SheetM) (p : ShA) (at_ : Int) (w : World) (hE : Tk.Env w) (hsh : Sh w (· < w.heap.size) x p) (hl : lightM x = true) (hx : May x) (h0 : x.stops.length + x.paths.length + x.doors.length + x.routes.length + x.trips.length + x.hazards.length = 0) :
    Calls Tryz.prog 8 #[shV x p, .int .i64 at_] w fun e w' => e = .returned (.bool true) ∧ Below w.heap.size w w' := by
  have H := Lib.hid (fun w' (h : Below w.heap.size w w') => lives_any w' (hE.on h))
  have CL : Hid (∀ w', Below w.heap.size w w' → Calls Tryz.prog 13 #[(.agg #[.int .i64 x.horizon, .slice p.a1 x.stops.length p.c1, .slice p.a2 x.paths.length p.c2, .slice p.a3 x.doors.length p.c3, .slice p.a4 x.routes.length p.c4, .slice p.a5 x.trips.length p.c5, .slice p.a6 x.hazards.length p.c6]), .int .i64 60] w' (BPost w' true)) := Lib.hid (fun w' h => by have := light_any x p w' (hsh.later h); rw [hl] at this; exact this)
  have CR : Hid (∀ w', Below w.heap.size w w' → Calls Tryz.prog 14 #[(.agg #[.int .i64 x.horizon, .slice p.a1 x.stops.length p.c1, .slice p.a2 x.paths.length p.c2, .slice p.a3 x.doors.length p.c3, .slice p.a4 x.routes.length p.c4, .slice p.a5 x.trips.length p.c5, .slice p.a6 x.hazards.length p.c6])] w' (fun e w'' => e = .returned (.int .i64 0) ∧ Below w'.heap.size w' w'')) := Lib.hid (fun w' h => refcheck_ok hl hx p w' (hsh.later h))
  obtain ⟨T, hT⟩ : ∃ T : Nat, T = x.stops.length + x.paths.length + x.doors.length + x.routes.length + x.trips.length + x.hazards.length := ⟨_, rfl⟩
  have CT : Hid (∀ w', Calls Tryz.prog 11 #[(.agg #[.int .i64 x.horizon, .slice p.a1 x.stops.length p.c1, .slice p.a2 x.paths.length p.c2, .slice p.a3 x.doors.length p.c3, .slice p.a4 x.routes.length p.c4, .slice p.a5 x.trips.length p.c5, .slice p.a6 x.hazards.length p.c6])] w' (fun e w'' => e = .returned (.int .i64 (T : Int)) ∧ Below w'.heap.size w' w'')) := Lib.hid (fun w' => by rw [hT]; exact things_any x p w' (mayfew hx))
  obtain rfl : T = 0 := by omega
  clear hE hsh hl hx hT h0
  show Calls _ _ #[(.agg #[.int .i64 x.horizon, .slice p.a1 x.stops.length p.c1, .slice p.a2 x.paths.length p.c2, .slice p.a3 x.doors.length p.c3, .slice p.a4 x.routes.length p.c4, .slice p.a5 x.trips.length p.c5, .slice p.a6 x.hazards.length p.c6]), .int .i64 at_] _ _
  go_enter Tryz.func8, Tryz.ntmps8
  go_wp2_with (first
    | (go_at_call 10; refine (H.out _ (one_box _ _)).mono ?_; rintro e' w1 ⟨rfl, hb⟩; have G1 := Lib.hid (keep_trans (one_box w _) hb); have K1 := Lib.hid ((Blk.new w 29 (shL' x p)).after hb); have u0 : w1.cell? ⟨w.heap.size, 0, none⟩ = some (.int .i64 x.horizon) := K1.out.cell 0; have u1 : w1.cell? ⟨w.heap.size, 1, none⟩ = some (.slice p.a1 x.stops.length p.c1) := K1.out.cell 1; have u2 : w1.cell? ⟨w.heap.size, 2, none⟩ = some (.slice p.a2 x.paths.length p.c2) := K1.out.cell 2; have u3 : w1.cell? ⟨w.heap.size, 3, none⟩ = some (.slice p.a3 x.doors.length p.c3) := K1.out.cell 3; have u4 : w1.cell? ⟨w.heap.size, 4, none⟩ = some (.slice p.a4 x.routes.length p.c4) := K1.out.cell 4; have u5 : w1.cell? ⟨w.heap.size, 5, none⟩ = some (.slice p.a5 x.trips.length p.c5) := K1.out.cell 5; have u6 : w1.cell? ⟨w.heap.size, 6, none⟩ = some (.slice p.a6 x.hazards.length p.c6) := K1.out.cell 6; clear hb)
    | (go_at_call 13; (with_reducible refine (CL.out _ G1.out).mono ?_); rintro e' w2 ⟨rfl, hb⟩; have G2 := Lib.hid (keep_trans G1.out hb); have K2 := Lib.hid (K1.out.after hb); have v0 : w2.cell? ⟨w.heap.size, 0, none⟩ = some (.int .i64 x.horizon) := K2.out.cell 0; have v1 : w2.cell? ⟨w.heap.size, 1, none⟩ = some (.slice p.a1 x.stops.length p.c1) := K2.out.cell 1; have v2 : w2.cell? ⟨w.heap.size, 2, none⟩ = some (.slice p.a2 x.paths.length p.c2) := K2.out.cell 2; have v3 : w2.cell? ⟨w.heap.size, 3, none⟩ = some (.slice p.a3 x.doors.length p.c3) := K2.out.cell 3; have v4 : w2.cell? ⟨w.heap.size, 4, none⟩ = some (.slice p.a4 x.routes.length p.c4) := K2.out.cell 4; have v5 : w2.cell? ⟨w.heap.size, 5, none⟩ = some (.slice p.a5 x.trips.length p.c5) := K2.out.cell 5; have v6 : w2.cell? ⟨w.heap.size, 6, none⟩ = some (.slice p.a6 x.hazards.length p.c6) := K2.out.cell 6; clear hb)
    | (go_at_call 14; (with_reducible refine (CR.out _ G2.out).mono ?_); rintro e' w3 ⟨rfl, hb⟩; have G3 := Lib.hid (keep_trans G2.out hb); have K3 := Lib.hid (K2.out.after hb); have y0 : w3.cell? ⟨w.heap.size, 0, none⟩ = some (.int .i64 x.horizon) := K3.out.cell 0; have y1 : w3.cell? ⟨w.heap.size, 1, none⟩ = some (.slice p.a1 x.stops.length p.c1) := K3.out.cell 1; have y2 : w3.cell? ⟨w.heap.size, 2, none⟩ = some (.slice p.a2 x.paths.length p.c2) := K3.out.cell 2; have y3 : w3.cell? ⟨w.heap.size, 3, none⟩ = some (.slice p.a3 x.doors.length p.c3) := K3.out.cell 3; have y4 : w3.cell? ⟨w.heap.size, 4, none⟩ = some (.slice p.a4 x.routes.length p.c4) := K3.out.cell 4; have y5 : w3.cell? ⟨w.heap.size, 5, none⟩ = some (.slice p.a5 x.trips.length p.c5) := K3.out.cell 5; have y6 : w3.cell? ⟨w.heap.size, 6, none⟩ = some (.slice p.a6 x.hazards.length p.c6) := K3.out.cell 6; clear hb)
    | (go_at_call 11; (with_reducible refine (CT.out _).mono ?_); rintro e' w4 ⟨rfl, hb⟩; have G4 := Lib.hid (keep_trans G3.out hb); have K4 := Lib.hid (K3.out.after hb); have z0 : w4.cell? ⟨w.heap.size, 0, none⟩ = some (.int .i64 x.horizon) := K4.out.cell 0; have z1 : w4.cell? ⟨w.heap.size, 1, none⟩ = some (.slice p.a1 x.stops.length p.c1) := K4.out.cell 1; have z2 : w4.cell? ⟨w.heap.size, 2, none⟩ = some (.slice p.a2 x.paths.length p.c2) := K4.out.cell 2; have z3 : w4.cell? ⟨w.heap.size, 3, none⟩ = some (.slice p.a3 x.doors.length p.c3) := K4.out.cell 3; have z4 : w4.cell? ⟨w.heap.size, 4, none⟩ = some (.slice p.a4 x.routes.length p.c4) := K4.out.cell 4; have z5 : w4.cell? ⟨w.heap.size, 5, none⟩ = some (.slice p.a5 x.trips.length p.c5) := K4.out.cell 5; have z6 : w4.cell? ⟨w.heap.size, 6, none⟩ = some (.slice p.a6 x.hazards.length p.c6) := K4.out.cell 6; clear hb)
    | fail)
  go_ret
  exact ⟨rfl, G4.out⟩
set_option maxRecDepth 100000 in
set_option maxHeartbeats 8000000 in
theorem less_ok (x : SheetM) (p : ShA) (at_ : Int) (w : World) (hE : Tk.Env w) (h0 : -9223372036854775808 ≤ at_) (h1 : at_ ≤ 9223372036854775807) (hsh : Sh w (· < w.heap.size) x p) (hl : lightM x = true) (hx : May x) (hT1 : 1 ≤ x.stops.length + x.paths.length + x.doors.length + x.routes.length + x.trips.length + x.hazards.length) :
    Calls Tryz.prog 8 #[shV x p, .int .i64 at_] w fun e w' => e = .returned (.bool true) ∧ Below w.heap.size w w' := by
  have H := Lib.hid (fun w' (h : Below w.heap.size w w') => lives_any w' (hE.on h))
  have CL : Hid (∀ w', Below w.heap.size w w' → Calls Tryz.prog 13 #[(.agg #[.int .i64 x.horizon, .slice p.a1 x.stops.length p.c1, .slice p.a2 x.paths.length p.c2, .slice p.a3 x.doors.length p.c3, .slice p.a4 x.routes.length p.c4, .slice p.a5 x.trips.length p.c5, .slice p.a6 x.hazards.length p.c6]), .int .i64 60] w' (BPost w' true)) := Lib.hid (fun w' h => by have := light_any x p w' (hsh.later h); rw [hl] at this; exact this)
  have CR : Hid (∀ w', Below w.heap.size w w' → Calls Tryz.prog 14 #[(.agg #[.int .i64 x.horizon, .slice p.a1 x.stops.length p.c1, .slice p.a2 x.paths.length p.c2, .slice p.a3 x.doors.length p.c3, .slice p.a4 x.routes.length p.c4, .slice p.a5 x.trips.length p.c5, .slice p.a6 x.hazards.length p.c6])] w' (fun e w'' => e = .returned (.int .i64 0) ∧ Below w'.heap.size w' w'')) := Lib.hid (fun w' h => refcheck_ok hl hx p w' (hsh.later h))
  obtain ⟨T, hT⟩ : ∃ T : Nat, T = x.stops.length + x.paths.length + x.doors.length + x.routes.length + x.trips.length + x.hazards.length := ⟨_, rfl⟩
  have CT : Hid (∀ w', Calls Tryz.prog 11 #[(.agg #[.int .i64 x.horizon, .slice p.a1 x.stops.length p.c1, .slice p.a2 x.paths.length p.c2, .slice p.a3 x.doors.length p.c3, .slice p.a4 x.routes.length p.c4, .slice p.a5 x.trips.length p.c5, .slice p.a6 x.hazards.length p.c6])] w' (fun e w'' => e = .returned (.int .i64 (T : Int)) ∧ Below w'.heap.size w' w'')) := Lib.hid (fun w' => by rw [hT]; exact things_any x p w' (mayfew hx))
  have HE := Lib.hid hE
  have HX := Lib.hid hx
  have HSH := Lib.hid hsh
  have HL := Lib.hid hl
  obtain ⟨LL, hLL⟩ : ∃ L, L = linesT x := ⟨_, rfl⟩
  have CN : Hid (∀ w', Below w.heap.size w w' → Calls Tryz.prog 15 #[(.agg #[.int .i64 x.horizon, .slice p.a1 x.stops.length p.c1, .slice p.a2 x.paths.length p.c2, .slice p.a3 x.doors.length p.c3, .slice p.a4 x.routes.length p.c4, .slice p.a5 x.trips.length p.c5, .slice p.a6 x.hazards.length p.c6])] w' (LnPost w' LL)) := Lib.hid (fun w' h => by rw [hLL]; exact lines_any x p w' (hsh.later h) hx)
  have hlen : LL.length = T + 1 := by rw [hLL, hT, lines_len]
  have hT3 : T ≤ 360 := by
    have q := lt_of hl
    have := q.l1; have := q.l2; have := q.l3; have := q.l4; have := q.l5; have := q.l6
    omega
  have hT2 : 1 ≤ T := by omega
  have hTb : ((T : Int) == 0) = false := by rw [beq_eq_false_iff_ne]; omega
  have hshort : ∀ l ∈ LL, l.length ≤ 4000 := by rw [hLL]; exact lines_short hx
  have HLL := Lib.hid hLL
  have HTT := Lib.hid hT
  have HLEN := Lib.hid hlen
  have HSHORT := Lib.hid hshort
  clear hE hsh hl hx hLL hT hlen hshort hT1
  show Calls _ _ #[(.agg #[.int .i64 x.horizon, .slice p.a1 x.stops.length p.c1, .slice p.a2 x.paths.length p.c2, .slice p.a3 x.doors.length p.c3, .slice p.a4 x.routes.length p.c4, .slice p.a5 x.trips.length p.c5, .slice p.a6 x.hazards.length p.c6]), .int .i64 at_] _ _
  go_enter Tryz.func8, Tryz.ntmps8
  go_wp2_with (first
    | (go_at_call 10; refine (H.out _ (one_box _ _)).mono ?_; rintro e' w1 ⟨rfl, hb⟩; have G1 := Lib.hid (keep_trans (one_box w _) hb); have K1 := Lib.hid ((Blk.new w 29 (shL' x p)).after hb); have u0 : w1.cell? ⟨w.heap.size, 0, none⟩ = some (.int .i64 x.horizon) := K1.out.cell 0; have u1 : w1.cell? ⟨w.heap.size, 1, none⟩ = some (.slice p.a1 x.stops.length p.c1) := K1.out.cell 1; have u2 : w1.cell? ⟨w.heap.size, 2, none⟩ = some (.slice p.a2 x.paths.length p.c2) := K1.out.cell 2; have u3 : w1.cell? ⟨w.heap.size, 3, none⟩ = some (.slice p.a3 x.doors.length p.c3) := K1.out.cell 3; have u4 : w1.cell? ⟨w.heap.size, 4, none⟩ = some (.slice p.a4 x.routes.length p.c4) := K1.out.cell 4; have u5 : w1.cell? ⟨w.heap.size, 5, none⟩ = some (.slice p.a5 x.trips.length p.c5) := K1.out.cell 5; have u6 : w1.cell? ⟨w.heap.size, 6, none⟩ = some (.slice p.a6 x.hazards.length p.c6) := K1.out.cell 6; clear hb)
    | (go_at_call 13; (with_reducible refine (CL.out _ G1.out).mono ?_); rintro e' w2 ⟨rfl, hb⟩; have G2 := Lib.hid (keep_trans G1.out hb); have K2 := Lib.hid (K1.out.after hb); have v0 : w2.cell? ⟨w.heap.size, 0, none⟩ = some (.int .i64 x.horizon) := K2.out.cell 0; have v1 : w2.cell? ⟨w.heap.size, 1, none⟩ = some (.slice p.a1 x.stops.length p.c1) := K2.out.cell 1; have v2 : w2.cell? ⟨w.heap.size, 2, none⟩ = some (.slice p.a2 x.paths.length p.c2) := K2.out.cell 2; have v3 : w2.cell? ⟨w.heap.size, 3, none⟩ = some (.slice p.a3 x.doors.length p.c3) := K2.out.cell 3; have v4 : w2.cell? ⟨w.heap.size, 4, none⟩ = some (.slice p.a4 x.routes.length p.c4) := K2.out.cell 4; have v5 : w2.cell? ⟨w.heap.size, 5, none⟩ = some (.slice p.a5 x.trips.length p.c5) := K2.out.cell 5; have v6 : w2.cell? ⟨w.heap.size, 6, none⟩ = some (.slice p.a6 x.hazards.length p.c6) := K2.out.cell 6; clear hb)
    | (go_at_call 14; (with_reducible refine (CR.out _ G2.out).mono ?_); rintro e' w3 ⟨rfl, hb⟩; have G3 := Lib.hid (keep_trans G2.out hb); have K3 := Lib.hid (K2.out.after hb); have y0 : w3.cell? ⟨w.heap.size, 0, none⟩ = some (.int .i64 x.horizon) := K3.out.cell 0; have y1 : w3.cell? ⟨w.heap.size, 1, none⟩ = some (.slice p.a1 x.stops.length p.c1) := K3.out.cell 1; have y2 : w3.cell? ⟨w.heap.size, 2, none⟩ = some (.slice p.a2 x.paths.length p.c2) := K3.out.cell 2; have y3 : w3.cell? ⟨w.heap.size, 3, none⟩ = some (.slice p.a3 x.doors.length p.c3) := K3.out.cell 3; have y4 : w3.cell? ⟨w.heap.size, 4, none⟩ = some (.slice p.a4 x.routes.length p.c4) := K3.out.cell 4; have y5 : w3.cell? ⟨w.heap.size, 5, none⟩ = some (.slice p.a5 x.trips.length p.c5) := K3.out.cell 5; have y6 : w3.cell? ⟨w.heap.size, 6, none⟩ = some (.slice p.a6 x.hazards.length p.c6) := K3.out.cell 6; clear hb)
    | (go_at_call 11; (with_reducible refine (CT.out _).mono ?_); rintro e' w6 ⟨rfl, hb⟩; have G6 := Lib.hid (keep_trans G5.out hb); have R6 := Lib.hid (rd_later R5.out hb); clear hb)
    | (go_at_call 11; (with_reducible refine (CT.out _).mono ?_); rintro e' w4 ⟨rfl, hb⟩; have G4 := Lib.hid (keep_trans G3.out hb); have K4 := Lib.hid (K3.out.after hb); have z0 : w4.cell? ⟨w.heap.size, 0, none⟩ = some (.int .i64 x.horizon) := K4.out.cell 0; have z1 : w4.cell? ⟨w.heap.size, 1, none⟩ = some (.slice p.a1 x.stops.length p.c1) := K4.out.cell 1; have z2 : w4.cell? ⟨w.heap.size, 2, none⟩ = some (.slice p.a2 x.paths.length p.c2) := K4.out.cell 2; have z3 : w4.cell? ⟨w.heap.size, 3, none⟩ = some (.slice p.a3 x.doors.length p.c3) := K4.out.cell 3; have z4 : w4.cell? ⟨w.heap.size, 4, none⟩ = some (.slice p.a4 x.routes.length p.c4) := K4.out.cell 4; have z5 : w4.cell? ⟨w.heap.size, 5, none⟩ = some (.slice p.a5 x.trips.length p.c5) := K4.out.cell 5; have z6 : w4.cell? ⟨w.heap.size, 6, none⟩ = some (.slice p.a6 x.hazards.length p.c6) := K4.out.cell 6; clear hb)
    | (go_at_call 15; (with_reducible refine (CN.out _ G4.out).mono ?_); rintro e' w5 ⟨A, c, n, rfl, hnc, hnl, hrd, hb⟩; have G5 := Lib.hid (keep_trans G4.out hb); have K5 := Lib.hid (K4.out.after hb); have R5 : Hid (Rd w5 (· < w5.heap.size) A (cs strC LL)) := Lib.hid (rd_old hrd.out); have HNT : Hid (n = T + 1) := Lib.hid (hnl.out.trans HLEN.out); have hnTi : ((n : Int) == (T : Int) + 1) = true := (by rw [beq_iff_eq]; have := HNT.out; omega); have hn1 : 2 ≤ n := (by have := HNT.out; omega); have hn2 : n ≤ 361 := (by have := HNT.out; omega); have q0 : w5.cell? ⟨w.heap.size, 0, none⟩ = some (.int .i64 x.horizon) := K5.out.cell 0; have q1 : w5.cell? ⟨w.heap.size, 1, none⟩ = some (.slice p.a1 x.stops.length p.c1) := K5.out.cell 1; have q2 : w5.cell? ⟨w.heap.size, 2, none⟩ = some (.slice p.a2 x.paths.length p.c2) := K5.out.cell 2; have q3 : w5.cell? ⟨w.heap.size, 3, none⟩ = some (.slice p.a3 x.doors.length p.c3) := K5.out.cell 3; have q4 : w5.cell? ⟨w.heap.size, 4, none⟩ = some (.slice p.a4 x.routes.length p.c4) := K5.out.cell 4; have q5 : w5.cell? ⟨w.heap.size, 5, none⟩ = some (.slice p.a5 x.trips.length p.c5) := K5.out.cell 5; have q6 : w5.cell? ⟨w.heap.size, 6, none⟩ = some (.slice p.a6 x.hazards.length p.c6) := K5.out.cell 6; clear hb hrd hnl)
    | fail)
  go_wp2_with fail
  go_at_call 16
  clear hnTi hTb
  refine (pick_any at_ _ _ h0 h1 (by omega) (by omega)).mono ?_
  rintro e' w7 ⟨r, rfl, hr, rfl⟩
  have hrn : (r : Int) < (n : Int) - 1 := hr.out
  have hrn2 : r + 1 < n := by omega
  clear hr
  go_wp2_with fail
  have HST : Hid (Below w6.heap.size w6 w6) := Lib.hid (Below.refl _ _)
  go_loopw [6, 7] (fun v6 v7 wr => ∃ i : Nat, v6 = .string ⟨(endsOf ((LL.take i).eraseIdx (r + 1))).toArray⟩ ∧ v7 = .int .i64 i ∧ i ≤ n ∧ Hid (Below w6.heap.size w6 wr)) (fun _ v _ => n - (intOf v).toNat)
  case atStart => exact ⟨0, by simp [endsOf], rfl, by omega, HST⟩
  case round =>
    obtain ⟨i, rfl, rfl, hi, HB⟩ := hrel
    by_cases hlt : i < n
    · have hi1 : (i : Int) < (n : Int) := by omega
      obtain ⟨a, ha⟩ := at_in (k := i) (n := n) LL (Lib.hid (by rw [HLEN.out]; exact HNT.out)) hlt
      obtain ⟨ad, rfl, hS, x0, -⟩ := rd_at 1 (fun _ => rfl) (by omega) (rd_later R6.out HB.out) ha
      have x1 : wr.cell? (ad.add (i * 1)) = some (.string ⟨a.toArray⟩) := x0
      rw [Nat.mul_one] at x1
      have hal := HSHORT.out a (List.mem_of_getElem? ha)
      have q1 : (endsOf ((LL.take i).eraseIdx (r + 1))).length ≤ 5000 * i := by
        have h2 := ends_any (M := (LL.take i).eraseIdx (r + 1)) (fun l hl => HSHORT.out l (List.mem_of_mem_take (erase_mem hl)))
        have h3 : ((LL.take i).eraseIdx (r + 1)).length ≤ i := Nat.le_trans (List.eraseIdx_sublist _ _).length_le (List.length_take_le _ _)
        omega
      obtain ⟨m1, m2⟩ := less_more (k := r + 1) ha
      by_cases hk : i = r + 1
      · have m3 := Lib.hid (m1 hk)
        have hkb : ((i : Int) == 1 + (r : Int)) = true := by rw [beq_iff_eq]; omega
        clear m1 m2 x0 ha hk
        generalize endsOf ((LL.take i).eraseIdx (r + 1)) = P at *
        go_wp2
        go_roundw
        case rel => exact ⟨i + 1, congrArg Value.string (bytes_eq (by rw [m3.out])), by go_num, by omega, HB⟩
        case measure => simp [intOf]; omega
      · have m3 := Lib.hid (m2 hk)
        have hkb : ((i : Int) == 1 + (r : Int)) = false := by rw [beq_eq_false_iff_ne]; omega
        clear m1 m2 x0 ha hk
        generalize endsOf ((LL.take i).eraseIdx (r + 1)) = P at *
        have f1 : ¬ 9223372036854775807 < P.length + a.length := by omega
        have f2 : ¬ 9223372036854775807 < P.length + a.length + 1 := by omega
        go_wp2
        go_roundw
        case rel => exact ⟨i + 1, congrArg Value.string (bytes_eq (by rw [m3.out]; simp)), by go_num, by omega, HB⟩
        case measure => simp [intOf]; omega
    · obtain rfl : n = i := by omega
      have hi1 : ¬ (n : Int) < (n : Int) := by omega
      have hfull : LL.take n = LL := List.take_of_length_le (by rw [HLEN.out, HNT.out]; exact Nat.le_refl _)
      have q1 : (endsOf (LL.eraseIdx (r + 1))).length ≤ 5000 * n := by
        have h2 := ends_any (M := LL.eraseIdx (r + 1)) (fun l hl => HSHORT.out l (erase_mem hl))
        have h3 : (LL.eraseIdx (r + 1)).length ≤ n := Nat.le_trans (List.eraseIdx_sublist _ _).length_le (by rw [HLEN.out, HNT.out]; exact Nat.le_refl _)
        omega
      rw [hfull]
      have HB7 := Lib.hid (keep_trans G6.out HB.out)
      have R7 := Lib.hid (rd_later R6.out HB.out)
      clear hfull HB hlt hi K1 K2 K3 K4 K5 G1 G2 G3 G4 G5 R5 R6 HST
      have HP1 : Hid ((endsOf (LL.eraseIdx (r + 1))).length ≤ 65536 → parseT ⟨(endsOf (LL.eraseIdx (r + 1))).toArray⟩ = .ok (lessM x r) []) := Lib.hid (fun h => less_parse HX.out r (by rw [HLL.out]) (by rw [Lib.size_eq]; simpa using h))
      generalize endsOf (LL.eraseIdx (r + 1)) = S1 at *
      by_cases hbig : 65536 < S1.length
      · have hb1 : (65536 : Int) < (S1.length : Int) := by omega
        have P1 := Lib.hid (parse_long (s := ⟨S1.toArray⟩) (by rw [Lib.size_eq]; simpa using hbig))
        go_wp2_with (first
          | (go_at_call 9; (with_reducible refine (parse_no P1.out _ (HE.out.on HB7.out)).mono ?_); rintro e' w8 ⟨rfl, hb⟩; have B8 := Lib.hid (keep_trans HB7.out hb); clear hb)
          | fail)
        go_ret
        exact ⟨rfl, keep_trans B8.out (two_box _ _ _)⟩
      · have hb1 : ¬ (65536 : Int) < (S1.length : Int) := by omega
        have P1 := Lib.hid (HP1.out (by omega))
        have HMY := Lib.hid (parse_may P1.out)
        have HLY := Lib.hid ((less_sub x r).light HL.out)
        have HLI := Lib.hid (less_lines x r)
        clear HP1 hbig
        generalize lessM x r = Y at *
        clear HX HL HSH H CL CR CN CT HSHORT
        go_wp2_with (first
          | (go_at_call 9; (with_reducible refine (parse_ok P1.out _ (HE.out.on HB7.out)).mono ?_); rintro e' w8 ⟨pc, -, rfl, hs8, hb⟩; have B8 := Lib.hid (keep_trans HB7.out hb); have S8 := Lib.hid hs8.old; have R8 := Lib.hid (rd_later R7.out hb); clear hb hs8; dsimp only [shV])
          | (go_at_call 14; refine (refcheck_ok HLY.out HMY.out pc _ (S8.out.later (two_box w8 _ _))).mono ?_; rintro e' w9 ⟨rfl, hb⟩; have J9 := Lib.hid (keep_trans (two_box w8 _ _) hb); have B9 := Lib.hid (keep_trans B8.out J9.out); have S9 := Lib.hid (S8.out.later J9.out); have R9 := Lib.hid (rd_later R8.out J9.out); have KY9 := Lib.hid (((Blk.new w8 29 (shL' Y pc)).alloc _).after hb); have yc0 : w9.cell? ⟨w8.heap.size, 0, none⟩ = some (.int .i64 Y.horizon) := KY9.out.cell 0; have yc1 : w9.cell? ⟨w8.heap.size, 1, none⟩ = some (.slice pc.a1 Y.stops.length pc.c1) := KY9.out.cell 1; have yc2 : w9.cell? ⟨w8.heap.size, 2, none⟩ = some (.slice pc.a2 Y.paths.length pc.c2) := KY9.out.cell 2; have yc3 : w9.cell? ⟨w8.heap.size, 3, none⟩ = some (.slice pc.a3 Y.doors.length pc.c3) := KY9.out.cell 3; have yc4 : w9.cell? ⟨w8.heap.size, 4, none⟩ = some (.slice pc.a4 Y.routes.length pc.c4) := KY9.out.cell 4; have yc5 : w9.cell? ⟨w8.heap.size, 5, none⟩ = some (.slice pc.a5 Y.trips.length pc.c5) := KY9.out.cell 5; have yc6 : w9.cell? ⟨w8.heap.size, 6, none⟩ = some (.slice pc.a6 Y.hazards.length pc.c6) := KY9.out.cell 6; clear hb)
          | (go_at_call 15; refine (lines_any Y pc _ S9.out HMY.out).mono ?_; rintro e' w10 ⟨A', c', n', rfl, hnc', hnl', hrd', hb⟩; have B10 := Lib.hid (keep_trans B9.out hb); have R10 := Lib.hid (rd_later R9.out hb); have M10 : Hid (Rd w10 (· < w10.heap.size) A' (cs strC (linesT Y))) := Lib.hid (rd_old hrd'.out); clear hb hrd')
          | fail)
        go_wp2_with fail
        clear u0 u1 u2 u3 u4 u5 u6 v0 v1 v2 v3 v4 v5 v6 y0 y1 y2 y3 y4 y5 y6 z0 z1 z2 z3 z4 z5 z6 yc0 yc1 yc2 yc3 yc4 yc5 yc6 q0 q2 q3 q4 q5 q6
        have k1 : (0 : Int) ≤ 1 + (r : Int) := by omega
        have k2 : 1 + (r : Int) ≤ (c : Int) := by omega
        have k3 : IntKind.i64.wrap (1 + (r : Int) + 1) = 1 + (r : Int) + 1 := IntWalk.i64_in _ (by omega)
        have k4 : (0 : Int) ≤ 1 + (r : Int) + 1 := by omega
        have k5 : 1 + (r : Int) + 1 ≤ (n : Int) := by omega
        have k6 : (n : Int) ≤ (c : Int) := by omega
        have k7 : (1 + (r : Int)).toNat = r + 1 := by omega
        have k8 : (1 + (r : Int) + 1).toNat = r + 2 := by omega
        have CO : Hid (∀ w', Below w10.heap.size w10 w' → Calls Tryz.prog 23 #[.slice A (r + 1) c] w' (NewRow w' 9 1 (cs strC (LL.take (r + 1))) (r + 1))) := Lib.hid (fun w' h => own_str w' A (r + 1) c (LL.take (r + 1)) (Lib.hid (by rw [List.length_take, HLEN.out, ← HNT.out]; omega)) (by omega) (by rw [cs_take strC 1 (fun _ => rfl)]; exact (rd_later R10.out h).take _))
        have CA : Hid (∀ w', Below w10.heap.size w10 w' → Rd w' (· < w'.heap.size) (if c = r + 2 then A else Option.map (fun x => { block := x.block, off := x.off + (r + 1 + 1) }) A) (cs strC (LL.drop (r + 2)))) := Lib.hid (fun w' h => by rw [cs_drop strC 1 (fun _ => rfl), Nat.mul_one]; exact rd_drop2 (rd_later R10.out h) (by rw [cs_length strC 1 (fun _ => rfl), HLEN.out, ← HNT.out]; omega))
        have HLD : Hid ((cs strC (LL.drop (r + 2))).length = (n - (r + 2)) * 1) := Lib.hid (by rw [cs_length strC 1 (fun _ => rfl), List.length_drop, HLEN.out, ← HNT.out])
        have HLT : Hid (n' = (linesT Y).length) := hnl'
        have HL2 : Hid (r + 1 + (n - (r + 2)) = (linesT Y).length) := Lib.hid (by rw [HLI.out, (less_len HTT.out (by have := HNT.out; omega)).2]; have := HNT.out; omega)
        have HL3 : Hid (linesT Y = LL.take (r + 1) ++ LL.drop (r + 2)) := Lib.hid (by rw [HLI.out, (less_len HTT.out (by have := HNT.out; omega)).1, HLL.out])
        have hn3 : n' ≤ 1000000 := by have := HLT.out; have := HL2.out; omega
        clear hnl'
        go_region_held_law (fun _ => True) (exact trivial) (first
          | (refine step_append_rd (by rfl) (.tmp 78) (.tmp 82) 22 (by rfl) w10.drew.heap.size 9 _ 1 16 Tryz.underlying22 info_Str rfl (by omega) (by omega) (.slice A5 (r + 1) c5) (r + 1) (cs strC (LL.take (r + 1))) (by rfl) hO5 _ _ (n - (r + 2)) (c - (r + 2)) (cs strC (LL.drop (r + 2))) (by rfl) HLD (Lib.hid (CA.out _ J11.out)) (cs_each str_one _) (by omega) (by have := J11.out.size; simpa using this) ?_; intro v' w12 hown hbel hg; obtain ⟨A6, c6, rfl, hc6, hrd6⟩ := own_form hown.out; have J12 : Hid (Below w10.heap.size w10 w12) := Lib.hid (J11.out.trans hbel.out); have RD6 : Hid (Rd w12 (· < w12.heap.size) A6 (cs strC (linesT Y))) := Lib.hid (by rw [HL3.out, cs_append]; exact rd_old hrd6); clear hown hbel hg hrd6)
          | (go_simp; go_at_call 19; (with_reducible refine (same_str2 _ A' A6 n' _ c' c6 (linesT Y) HLT HL2 hn3 (rd_later M10.out J12.out) RD6.out).mono ?_); rintro e' w13 ⟨rfl, hb⟩; have J13 := Lib.hid (keep_trans J12.out hb); clear hb; dsimp only)
          | (go_simp; go_at_call 23; (with_reducible refine (CO.out _ (below_drew (Below.refl _ _))).mono ?_); rintro e' w11 ⟨A5, c5, rfl, hc5, hO5, hb⟩; have J11 := Lib.hid (keep_trans (below_drew (Below.refl _ w10)) hb); clear hb; dsimp only)
          | fail)
        go_wp2
        all_goals
          go_ret
          exact ⟨rfl, keep_trans B10.out J13.out⟩
theorem less_all (x : SheetM) (p : ShA) (at_ : Int) (w : World) (hE : Tk.Env w) (h0 : -9223372036854775808 ≤ at_) (h1 : at_ ≤ 9223372036854775807) (hsh : Sh w (· < w.heap.size) x p) :
    Calls Tryz.prog 8 #[shV x p, .int .i64 at_] w fun e w' => e = .returned (.bool true) ∧ Below w.heap.size w w' := by
  cases hl : lightM x with
  | false => exact less_dark x p at_ w hE hsh hl
  | true =>
    by_cases hc : checkM x = 0
    · by_cases hT : 1 ≤ x.stops.length + x.paths.length + x.doors.length + x.routes.length + x.trips.length + x.hazards.length
      · exact less_ok x p at_ w hE h0 h1 hsh hl (may_of hc) hT
      · exact less_none x p at_ w hE hsh hl (may_of hc) (by omega)
    · exact less_not x p at_ w hE hsh hl hc
end Go.Proofs.YteonmabfhilcfaaGreatDoor.Sh
