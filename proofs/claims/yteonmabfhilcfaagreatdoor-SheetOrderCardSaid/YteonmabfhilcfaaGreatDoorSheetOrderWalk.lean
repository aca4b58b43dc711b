/- The order of lines of unlike kinds does not matter: walked. Conditions: the library's variables hold what start-up lays. -/
import Derived.Test.YteonmabfhilcfaaGreatDoorSheetOrderMath
import Derived.Test.YteonmabfhilcfaaGreatDoorSheetLessWalk
import Derived.Deep.QuietTactic
import Derived.BigQuiet
import Derived.StillTailTactics
namespace Go.Proofs.YteonmabfhilcfaaGreatDoor.Sh
open Go.ChangeShapes Go.WideShapes Go.ChangeAt Go.RowKit
open Lx
set_option linter.unusedVariables false
set_option linter.unusedSimpArgs false
theorem info_int6 : (Tryz.prog.info? 3).map (fun i => (i.zero, i.size, i.bytes)) = some (some (.int .i64 0), 1, 8) := by kernel_rfl
def natV (n : Nat) : Value := .int .i64 (n : Int)
theorem nat_cell {l : List Nat} {k : Nat} (h : k < l.length) : (l.map natV)[k]? = some (.int .i64 (l.getD k 0 : Nat)) := by
  rw [List.getElem?_map, List.getElem?_eq_getElem h, List.getD_eq_getElem?_getD, List.getElem?_eq_getElem h]
  rfl
theorem blk_nat {w : World} {g : Nat} {t : TypeId} {nx : List Nat} {k nk : Nat} (h : Blk w g t (nx.map natV)) : Blk (w.setCell ⟨g, k, none⟩ (.int .i64 ((nk : Int) + 1))) g t ((nx.set k (nk + 1)).map natV) := by
  have := h.set_ k (.int .i64 ((nk + 1 : Nat) : Int))
  rw [List.map_set]
  have e : natV (nk + 1) = .int .i64 ((nk : Int) + 1) := by simp [natV]
  rw [e]
  simpa using this
theorem nat_set (l : List Nat) (k n : Nat) : (l.map natV).set k (.int .i64 (n : Int)) = (l.set k n).map natV := by rw [List.map_set]; rfl
set_option maxRecDepth 100000 in
set_option maxHeartbeats 2000000 in
theorem order_dark (x : SheetM) (p : ShA) (AP : Option Addr) (lp cp : Nat) (w : World) (hE : Tk.Env w) (hsh : Sh w (· < w.heap.size) x p) (hl : lightM x = false) :
    Calls Tryz.prog 6 #[shV x p, .slice AP lp cp] w fun e w' => e = .returned (.bool true) ∧ Below w.heap.size w w' := by
  have H := Lib.hid (fun w' (h : Below w.heap.size w w') => lives_any w' (hE.on h))
  have CL : Hid (∀ w', Below w.heap.size w w' → Calls Tryz.prog 13 #[(.agg #[.int .i64 x.horizon, .slice p.a1 x.stops.length p.c1, .slice p.a2 x.paths.length p.c2, .slice p.a3 x.doors.length p.c3, .slice p.a4 x.routes.length p.c4, .slice p.a5 x.trips.length p.c5, .slice p.a6 x.hazards.length p.c6]), .int .i64 60] w' (BPost w' false)) := Lib.hid (fun w' h => by have := light_any x p w' (hsh.later h); rw [hl] at this; exact this)
  clear hE hsh hl
  show Calls _ _ #[(.agg #[.int .i64 x.horizon, .slice p.a1 x.stops.length p.c1, .slice p.a2 x.paths.length p.c2, .slice p.a3 x.doors.length p.c3, .slice p.a4 x.routes.length p.c4, .slice p.a5 x.trips.length p.c5, .slice p.a6 x.hazards.length p.c6]), .slice AP lp cp] _ _
  go_enter Tryz.func6, Tryz.ntmps6
  go_wp2_with (first
    | (go_at_call 10; refine (H.out _ (one_box _ _)).mono ?_; rintro e' w1 ⟨rfl, hb⟩; have G1 := Lib.hid (keep_trans (one_box w _) hb); have K1 := Lib.hid ((Blk.new w 29 (shL' x p)).after hb); have u0 : w1.cell? ⟨w.heap.size, 0, none⟩ = some (.int .i64 x.horizon) := K1.out.cell 0; have u1 : w1.cell? ⟨w.heap.size, 1, none⟩ = some (.slice p.a1 x.stops.length p.c1) := K1.out.cell 1; have u2 : w1.cell? ⟨w.heap.size, 2, none⟩ = some (.slice p.a2 x.paths.length p.c2) := K1.out.cell 2; have u3 : w1.cell? ⟨w.heap.size, 3, none⟩ = some (.slice p.a3 x.doors.length p.c3) := K1.out.cell 3; have u4 : w1.cell? ⟨w.heap.size, 4, none⟩ = some (.slice p.a4 x.routes.length p.c4) := K1.out.cell 4; have u5 : w1.cell? ⟨w.heap.size, 5, none⟩ = some (.slice p.a5 x.trips.length p.c5) := K1.out.cell 5; have u6 : w1.cell? ⟨w.heap.size, 6, none⟩ = some (.slice p.a6 x.hazards.length p.c6) := K1.out.cell 6; clear hb)
    | (go_at_call 13; (with_reducible refine (CL.out _ G1.out).mono ?_); rintro e' w2 ⟨rfl, hb⟩; have G2 := Lib.hid (keep_trans G1.out hb); clear hb)
    | fail)
  go_ret
  exact ⟨rfl, G2.out⟩
set_option maxRecDepth 100000 in
set_option maxHeartbeats 2000000 in
theorem order_not (x : SheetM) (p : ShA) (AP : Option Addr) (lp cp : Nat) (w : World) (hE : Tk.Env w) (hsh : Sh w (· < w.heap.size) x p) (hl : lightM x = true) (hc : checkM x ≠ 0) :
    Calls Tryz.prog 6 #[shV x p, .slice AP lp cp] w fun e w' => e = .returned (.bool true) ∧ Below w.heap.size w w' := by
  have H := Lib.hid (fun w' (h : Below w.heap.size w w') => lives_any w' (hE.on h))
  have CL : Hid (∀ w', Below w.heap.size w w' → Calls Tryz.prog 13 #[(.agg #[.int .i64 x.horizon, .slice p.a1 x.stops.length p.c1, .slice p.a2 x.paths.length p.c2, .slice p.a3 x.doors.length p.c3, .slice p.a4 x.routes.length p.c4, .slice p.a5 x.trips.length p.c5, .slice p.a6 x.hazards.length p.c6]), .int .i64 60] w' (BPost w' true)) := Lib.hid (fun w' h => by have := light_any x p w' (hsh.later h); rw [hl] at this; exact this)
  have CR : Hid (∀ w', Below w.heap.size w w' → Calls Tryz.prog 14 #[(.agg #[.int .i64 x.horizon, .slice p.a1 x.stops.length p.c1, .slice p.a2 x.paths.length p.c2, .slice p.a3 x.doors.length p.c3, .slice p.a4 x.routes.length p.c4, .slice p.a5 x.trips.length p.c5, .slice p.a6 x.hazards.length p.c6])] w' (fun e w'' => e = .returned (.int .i64 (checkM x)) ∧ Below w'.heap.size w' w'')) := Lib.hid (fun w' h => refcheck_any x p w' (hsh.later h) (lt_of hl))
  clear hE hsh hl
  generalize checkM x = C at *
  have hcb : (C == 0) = false := by rw [beq_eq_false_iff_ne]; exact hc
  show Calls _ _ #[(.agg #[.int .i64 x.horizon, .slice p.a1 x.stops.length p.c1, .slice p.a2 x.paths.length p.c2, .slice p.a3 x.doors.length p.c3, .slice p.a4 x.routes.length p.c4, .slice p.a5 x.trips.length p.c5, .slice p.a6 x.hazards.length p.c6]), .slice AP lp cp] _ _
  go_enter Tryz.func6, Tryz.ntmps6
  go_wp2_with (first
    | (go_at_call 10; refine (H.out _ (one_box _ _)).mono ?_; rintro e' w1 ⟨rfl, hb⟩; have G1 := Lib.hid (keep_trans (one_box w _) hb); have K1 := Lib.hid ((Blk.new w 29 (shL' x p)).after hb); have u0 : w1.cell? ⟨w.heap.size, 0, none⟩ = some (.int .i64 x.horizon) := K1.out.cell 0; have u1 : w1.cell? ⟨w.heap.size, 1, none⟩ = some (.slice p.a1 x.stops.length p.c1) := K1.out.cell 1; have u2 : w1.cell? ⟨w.heap.size, 2, none⟩ = some (.slice p.a2 x.paths.length p.c2) := K1.out.cell 2; have u3 : w1.cell? ⟨w.heap.size, 3, none⟩ = some (.slice p.a3 x.doors.length p.c3) := K1.out.cell 3; have u4 : w1.cell? ⟨w.heap.size, 4, none⟩ = some (.slice p.a4 x.routes.length p.c4) := K1.out.cell 4; have u5 : w1.cell? ⟨w.heap.size, 5, none⟩ = some (.slice p.a5 x.trips.length p.c5) := K1.out.cell 5; have u6 : w1.cell? ⟨w.heap.size, 6, none⟩ = some (.slice p.a6 x.hazards.length p.c6) := K1.out.cell 6; clear hb)
    | (go_at_call 13; (with_reducible refine (CL.out _ G1.out).mono ?_); rintro e' w2 ⟨rfl, hb⟩; have G2 := Lib.hid (keep_trans G1.out hb); have K2 := Lib.hid (K1.out.after hb); have v0 : w2.cell? ⟨w.heap.size, 0, none⟩ = some (.int .i64 x.horizon) := K2.out.cell 0; have v1 : w2.cell? ⟨w.heap.size, 1, none⟩ = some (.slice p.a1 x.stops.length p.c1) := K2.out.cell 1; have v2 : w2.cell? ⟨w.heap.size, 2, none⟩ = some (.slice p.a2 x.paths.length p.c2) := K2.out.cell 2; have v3 : w2.cell? ⟨w.heap.size, 3, none⟩ = some (.slice p.a3 x.doors.length p.c3) := K2.out.cell 3; have v4 : w2.cell? ⟨w.heap.size, 4, none⟩ = some (.slice p.a4 x.routes.length p.c4) := K2.out.cell 4; have v5 : w2.cell? ⟨w.heap.size, 5, none⟩ = some (.slice p.a5 x.trips.length p.c5) := K2.out.cell 5; have v6 : w2.cell? ⟨w.heap.size, 6, none⟩ = some (.slice p.a6 x.hazards.length p.c6) := K2.out.cell 6; clear hb)
    | (go_at_call 14; (with_reducible refine (CR.out _ G2.out).mono ?_); rintro e' w3 ⟨rfl, hb⟩; have G3 := Lib.hid (keep_trans G2.out hb); clear hb)
    | fail)
  go_ret
  exact ⟨rfl, G3.out⟩
set_option maxRecDepth 100000 in
set_option maxHeartbeats 2000000 in
theorem order_long (x : SheetM) (p : ShA) (AP : Option Addr) (lp cp : Nat) (w : World) (hE : Tk.Env w) (hsh : Sh w (· < w.heap.size) x p) (hl : lightM x = true) (hx : May x) (hlp : 400 < lp) :
    Calls Tryz.prog 6 #[shV x p, .slice AP lp cp] w fun e w' => e = .returned (.bool true) ∧ Below w.heap.size w w' := by
  have H := Lib.hid (fun w' (h : Below w.heap.size w w') => lives_any w' (hE.on h))
  have CL : Hid (∀ w', Below w.heap.size w w' → Calls Tryz.prog 13 #[(.agg #[.int .i64 x.horizon, .slice p.a1 x.stops.length p.c1, .slice p.a2 x.paths.length p.c2, .slice p.a3 x.doors.length p.c3, .slice p.a4 x.routes.length p.c4, .slice p.a5 x.trips.length p.c5, .slice p.a6 x.hazards.length p.c6]), .int .i64 60] w' (BPost w' true)) := Lib.hid (fun w' h => by have := light_any x p w' (hsh.later h); rw [hl] at this; exact this)
  have CR : Hid (∀ w', Below w.heap.size w w' → Calls Tryz.prog 14 #[(.agg #[.int .i64 x.horizon, .slice p.a1 x.stops.length p.c1, .slice p.a2 x.paths.length p.c2, .slice p.a3 x.doors.length p.c3, .slice p.a4 x.routes.length p.c4, .slice p.a5 x.trips.length p.c5, .slice p.a6 x.hazards.length p.c6])] w' (fun e w'' => e = .returned (.int .i64 0) ∧ Below w'.heap.size w' w'')) := Lib.hid (fun w' h => refcheck_ok hl hx p w' (hsh.later h))
  have hlpi : (400 : Int) < (lp : Int) := by omega
  clear hE hsh hl hx
  show Calls _ _ #[(.agg #[.int .i64 x.horizon, .slice p.a1 x.stops.length p.c1, .slice p.a2 x.paths.length p.c2, .slice p.a3 x.doors.length p.c3, .slice p.a4 x.routes.length p.c4, .slice p.a5 x.trips.length p.c5, .slice p.a6 x.hazards.length p.c6]), .slice AP lp cp] _ _
  go_enter Tryz.func6, Tryz.ntmps6
  go_wp2_with (first
    | (go_at_call 10; refine (H.out _ (one_box _ _)).mono ?_; rintro e' w1 ⟨rfl, hb⟩; have G1 := Lib.hid (keep_trans (one_box w _) hb); have K1 := Lib.hid ((Blk.new w 29 (shL' x p)).after hb); have u0 : w1.cell? ⟨w.heap.size, 0, none⟩ = some (.int .i64 x.horizon) := K1.out.cell 0; have u1 : w1.cell? ⟨w.heap.size, 1, none⟩ = some (.slice p.a1 x.stops.length p.c1) := K1.out.cell 1; have u2 : w1.cell? ⟨w.heap.size, 2, none⟩ = some (.slice p.a2 x.paths.length p.c2) := K1.out.cell 2; have u3 : w1.cell? ⟨w.heap.size, 3, none⟩ = some (.slice p.a3 x.doors.length p.c3) := K1.out.cell 3; have u4 : w1.cell? ⟨w.heap.size, 4, none⟩ = some (.slice p.a4 x.routes.length p.c4) := K1.out.cell 4; have u5 : w1.cell? ⟨w.heap.size, 5, none⟩ = some (.slice p.a5 x.trips.length p.c5) := K1.out.cell 5; have u6 : w1.cell? ⟨w.heap.size, 6, none⟩ = some (.slice p.a6 x.hazards.length p.c6) := K1.out.cell 6; clear hb)
    | (go_at_call 13; (with_reducible refine (CL.out _ G1.out).mono ?_); rintro e' w2 ⟨rfl, hb⟩; have G2 := Lib.hid (keep_trans G1.out hb); have K2 := Lib.hid (K1.out.after hb); have v0 : w2.cell? ⟨w.heap.size, 0, none⟩ = some (.int .i64 x.horizon) := K2.out.cell 0; have v1 : w2.cell? ⟨w.heap.size, 1, none⟩ = some (.slice p.a1 x.stops.length p.c1) := K2.out.cell 1; have v2 : w2.cell? ⟨w.heap.size, 2, none⟩ = some (.slice p.a2 x.paths.length p.c2) := K2.out.cell 2; have v3 : w2.cell? ⟨w.heap.size, 3, none⟩ = some (.slice p.a3 x.doors.length p.c3) := K2.out.cell 3; have v4 : w2.cell? ⟨w.heap.size, 4, none⟩ = some (.slice p.a4 x.routes.length p.c4) := K2.out.cell 4; have v5 : w2.cell? ⟨w.heap.size, 5, none⟩ = some (.slice p.a5 x.trips.length p.c5) := K2.out.cell 5; have v6 : w2.cell? ⟨w.heap.size, 6, none⟩ = some (.slice p.a6 x.hazards.length p.c6) := K2.out.cell 6; clear hb)
    | (go_at_call 14; (with_reducible refine (CR.out _ G2.out).mono ?_); rintro e' w3 ⟨rfl, hb⟩; have G3 := Lib.hid (keep_trans G2.out hb); have K3 := Lib.hid (K2.out.after hb); have y0 : w3.cell? ⟨w.heap.size, 0, none⟩ = some (.int .i64 x.horizon) := K3.out.cell 0; have y1 : w3.cell? ⟨w.heap.size, 1, none⟩ = some (.slice p.a1 x.stops.length p.c1) := K3.out.cell 1; have y2 : w3.cell? ⟨w.heap.size, 2, none⟩ = some (.slice p.a2 x.paths.length p.c2) := K3.out.cell 2; have y3 : w3.cell? ⟨w.heap.size, 3, none⟩ = some (.slice p.a3 x.doors.length p.c3) := K3.out.cell 3; have y4 : w3.cell? ⟨w.heap.size, 4, none⟩ = some (.slice p.a4 x.routes.length p.c4) := K3.out.cell 4; have y5 : w3.cell? ⟨w.heap.size, 5, none⟩ = some (.slice p.a5 x.trips.length p.c5) := K3.out.cell 5; have y6 : w3.cell? ⟨w.heap.size, 6, none⟩ = some (.slice p.a6 x.hazards.length p.c6) := K3.out.cell 6; clear hb)
    | fail)
  go_ret
  exact ⟨rfl, G3.out⟩
set_option maxRecDepth 100000 in
set_option maxHeartbeats 8000000 in
theorem order_ok (x : SheetM) (p : ShA) (AP : Option Addr) (lp cp : Nat) (w : World) (hE : Tk.Env w) (P : List Int) (hP : lp = P.length) (hb0 : ∀ z ∈ P, -9223372036854775808 ≤ z ∧ z ≤ 9223372036854775807) (hrP : Rd w (· < w.heap.size) AP (cs intC P)) (hsh : Sh w (· < w.heap.size) x p) (hl : lightM x = true) (hx : May x) (hlp : lp ≤ 400) :
    Calls Tryz.prog 6 #[shV x p, .slice AP lp cp] w fun e w' => e = .returned (.bool true) ∧ Below w.heap.size w w' := by
  have H := Lib.hid (fun w' (h : Below w.heap.size w w') => lives_any w' (hE.on h))
  have CL : Hid (∀ w', Below w.heap.size w w' → Calls Tryz.prog 13 #[(.agg #[.int .i64 x.horizon, .slice p.a1 x.stops.length p.c1, .slice p.a2 x.paths.length p.c2, .slice p.a3 x.doors.length p.c3, .slice p.a4 x.routes.length p.c4, .slice p.a5 x.trips.length p.c5, .slice p.a6 x.hazards.length p.c6]), .int .i64 60] w' (BPost w' true)) := Lib.hid (fun w' h => by have := light_any x p w' (hsh.later h); rw [hl] at this; exact this)
  have CR : Hid (∀ w', Below w.heap.size w w' → Calls Tryz.prog 14 #[(.agg #[.int .i64 x.horizon, .slice p.a1 x.stops.length p.c1, .slice p.a2 x.paths.length p.c2, .slice p.a3 x.doors.length p.c3, .slice p.a4 x.routes.length p.c4, .slice p.a5 x.trips.length p.c5, .slice p.a6 x.hazards.length p.c6])] w' (fun e w'' => e = .returned (.int .i64 0) ∧ Below w'.heap.size w' w'')) := Lib.hid (fun w' h => refcheck_ok hl hx p w' (hsh.later h))
  obtain ⟨T, hT⟩ : ∃ T : Nat, T = x.stops.length + x.paths.length + x.doors.length + x.routes.length + x.trips.length + x.hazards.length := ⟨_, rfl⟩
  have CT : Hid (∀ w', Calls Tryz.prog 11 #[(.agg #[.int .i64 x.horizon, .slice p.a1 x.stops.length p.c1, .slice p.a2 x.paths.length p.c2, .slice p.a3 x.doors.length p.c3, .slice p.a4 x.routes.length p.c4, .slice p.a5 x.trips.length p.c5, .slice p.a6 x.hazards.length p.c6])] w' (fun e w'' => e = .returned (.int .i64 (T : Int)) ∧ Below w'.heap.size w' w'')) := Lib.hid (fun w' => by rw [hT]; exact things_any x p w' (mayfew hx))
  have HE := Lib.hid hE
  have HX := Lib.hid hx
  have HSH := Lib.hid hsh
  have HPL := Lib.hid hP
  have HPB := Lib.hid hb0
  have HPR := Lib.hid hrP
  obtain ⟨LL, hLL⟩ : ∃ L, L = linesT x := ⟨_, rfl⟩
  have CN : Hid (∀ w', Below w.heap.size w w' → Calls Tryz.prog 15 #[(.agg #[.int .i64 x.horizon, .slice p.a1 x.stops.length p.c1, .slice p.a2 x.paths.length p.c2, .slice p.a3 x.doors.length p.c3, .slice p.a4 x.routes.length p.c4, .slice p.a5 x.trips.length p.c5, .slice p.a6 x.hazards.length p.c6])] w' (LnPost w' LL)) := Lib.hid (fun w' h => by rw [hLL]; exact lines_any x p w' (hsh.later h) hx)
  have hlen : LL.length = T + 1 := by rw [hLL, hT, lines_len]
  have q := lt_of hl
  have ql1 := q.l1
  have ql2 := q.l2
  have ql3 := q.l3
  have ql4 := q.l4
  have ql5 := q.l5
  have ql6 := q.l6
  have hT3 : T ≤ 360 := by omega
  have hshort : ∀ l ∈ LL, l.length ≤ 4000 := by rw [hLL]; exact lines_short hx
  have hlpi : decide ((400 : Int) < (lp : Int)) = false := by rw [decide_eq_false_iff_not]; omega
  have HLL := Lib.hid hLL
  have HTT := Lib.hid hT
  have HLEN := Lib.hid hlen
  have HSHORT := Lib.hid hshort
  clear hE hsh hl hx hLL hT hlen hshort q hP hb0 hrP
  show Calls _ _ #[(.agg #[.int .i64 x.horizon, .slice p.a1 x.stops.length p.c1, .slice p.a2 x.paths.length p.c2, .slice p.a3 x.doors.length p.c3, .slice p.a4 x.routes.length p.c4, .slice p.a5 x.trips.length p.c5, .slice p.a6 x.hazards.length p.c6]), .slice AP lp cp] _ _
  go_enter Tryz.func6, Tryz.ntmps6
  go_wp2_with (first
    | (go_at_call 10; refine (H.out _ (one_box _ _)).mono ?_; rintro e' w1 ⟨rfl, hb⟩; have G1 := Lib.hid (keep_trans (one_box w _) hb); have K1 := Lib.hid ((Blk.new w 29 (shL' x p)).after hb); have u0 : w1.cell? ⟨w.heap.size, 0, none⟩ = some (.int .i64 x.horizon) := K1.out.cell 0; have u1 : w1.cell? ⟨w.heap.size, 1, none⟩ = some (.slice p.a1 x.stops.length p.c1) := K1.out.cell 1; have u2 : w1.cell? ⟨w.heap.size, 2, none⟩ = some (.slice p.a2 x.paths.length p.c2) := K1.out.cell 2; have u3 : w1.cell? ⟨w.heap.size, 3, none⟩ = some (.slice p.a3 x.doors.length p.c3) := K1.out.cell 3; have u4 : w1.cell? ⟨w.heap.size, 4, none⟩ = some (.slice p.a4 x.routes.length p.c4) := K1.out.cell 4; have u5 : w1.cell? ⟨w.heap.size, 5, none⟩ = some (.slice p.a5 x.trips.length p.c5) := K1.out.cell 5; have u6 : w1.cell? ⟨w.heap.size, 6, none⟩ = some (.slice p.a6 x.hazards.length p.c6) := K1.out.cell 6; clear hb)
    | (go_at_call 13; (with_reducible refine (CL.out _ G1.out).mono ?_); rintro e' w2 ⟨rfl, hb⟩; have G2 := Lib.hid (keep_trans G1.out hb); have K2 := Lib.hid (K1.out.after hb); have v0 : w2.cell? ⟨w.heap.size, 0, none⟩ = some (.int .i64 x.horizon) := K2.out.cell 0; have v1 : w2.cell? ⟨w.heap.size, 1, none⟩ = some (.slice p.a1 x.stops.length p.c1) := K2.out.cell 1; have v2 : w2.cell? ⟨w.heap.size, 2, none⟩ = some (.slice p.a2 x.paths.length p.c2) := K2.out.cell 2; have v3 : w2.cell? ⟨w.heap.size, 3, none⟩ = some (.slice p.a3 x.doors.length p.c3) := K2.out.cell 3; have v4 : w2.cell? ⟨w.heap.size, 4, none⟩ = some (.slice p.a4 x.routes.length p.c4) := K2.out.cell 4; have v5 : w2.cell? ⟨w.heap.size, 5, none⟩ = some (.slice p.a5 x.trips.length p.c5) := K2.out.cell 5; have v6 : w2.cell? ⟨w.heap.size, 6, none⟩ = some (.slice p.a6 x.hazards.length p.c6) := K2.out.cell 6; clear hb)
    | (go_at_call 14; (with_reducible refine (CR.out _ G2.out).mono ?_); rintro e' w3 ⟨rfl, hb⟩; have G3 := Lib.hid (keep_trans G2.out hb); have K3 := Lib.hid (K2.out.after hb); have y0 : w3.cell? ⟨w.heap.size, 0, none⟩ = some (.int .i64 x.horizon) := K3.out.cell 0; have y1 : w3.cell? ⟨w.heap.size, 1, none⟩ = some (.slice p.a1 x.stops.length p.c1) := K3.out.cell 1; have y2 : w3.cell? ⟨w.heap.size, 2, none⟩ = some (.slice p.a2 x.paths.length p.c2) := K3.out.cell 2; have y3 : w3.cell? ⟨w.heap.size, 3, none⟩ = some (.slice p.a3 x.doors.length p.c3) := K3.out.cell 3; have y4 : w3.cell? ⟨w.heap.size, 4, none⟩ = some (.slice p.a4 x.routes.length p.c4) := K3.out.cell 4; have y5 : w3.cell? ⟨w.heap.size, 5, none⟩ = some (.slice p.a5 x.trips.length p.c5) := K3.out.cell 5; have y6 : w3.cell? ⟨w.heap.size, 6, none⟩ = some (.slice p.a6 x.hazards.length p.c6) := K3.out.cell 6; clear hb)
    | (go_at_call 15; (with_reducible refine (CN.out _ G3.out).mono ?_); rintro e' w4 ⟨A, c, n, rfl, hnc, hnl, hrd, hb⟩; have G4 := Lib.hid (keep_trans G3.out hb); have K4 := Lib.hid (K3.out.after hb); have R4 : Hid (Rd w4 (· < w4.heap.size) A (cs strC LL)) := Lib.hid (rd_old hrd.out); have HNT : Hid (n = T + 1) := Lib.hid (hnl.out.trans HLEN.out); have hnTi : ((n : Int) == (T : Int) + 1) = true := (by rw [beq_iff_eq]; have := HNT.out; omega); have hnTj : ((n : Int) != (T : Int) + 1) = false := (by rw [bne_eq_false_iff_eq]; have := HNT.out; omega); have hn1 : 1 ≤ n := (by have := HNT.out; omega); have hn2 : n ≤ 361 := (by have := HNT.out; omega); have z0 : w4.cell? ⟨w.heap.size, 0, none⟩ = some (.int .i64 x.horizon) := K4.out.cell 0; have z1 : w4.cell? ⟨w.heap.size, 1, none⟩ = some (.slice p.a1 x.stops.length p.c1) := K4.out.cell 1; have z2 : w4.cell? ⟨w.heap.size, 2, none⟩ = some (.slice p.a2 x.paths.length p.c2) := K4.out.cell 2; have z3 : w4.cell? ⟨w.heap.size, 3, none⟩ = some (.slice p.a3 x.doors.length p.c3) := K4.out.cell 3; have z4 : w4.cell? ⟨w.heap.size, 4, none⟩ = some (.slice p.a4 x.routes.length p.c4) := K4.out.cell 4; have z5 : w4.cell? ⟨w.heap.size, 5, none⟩ = some (.slice p.a5 x.trips.length p.c5) := K4.out.cell 5; have z6 : w4.cell? ⟨w.heap.size, 6, none⟩ = some (.slice p.a6 x.hazards.length p.c6) := K4.out.cell 6; clear hb hrd hnl)
    | (go_at_call 11; (with_reducible refine (CT.out _).mono ?_); rintro e' w5 ⟨rfl, hb⟩; have G5 := Lib.hid (keep_trans G4.out hb); have K5 := Lib.hid (K4.out.after hb); have R5 := Lib.hid (rd_later R4.out hb); have q0 : w5.cell? ⟨w.heap.size, 0, none⟩ = some (.int .i64 x.horizon) := K5.out.cell 0; have q1 : w5.cell? ⟨w.heap.size, 1, none⟩ = some (.slice p.a1 x.stops.length p.c1) := K5.out.cell 1; have q2 : w5.cell? ⟨w.heap.size, 2, none⟩ = some (.slice p.a2 x.paths.length p.c2) := K5.out.cell 2; have q3 : w5.cell? ⟨w.heap.size, 3, none⟩ = some (.slice p.a3 x.doors.length p.c3) := K5.out.cell 3; have q4 : w5.cell? ⟨w.heap.size, 4, none⟩ = some (.slice p.a4 x.routes.length p.c4) := K5.out.cell 4; have q5 : w5.cell? ⟨w.heap.size, 5, none⟩ = some (.slice p.a5 x.trips.length p.c5) := K5.out.cell 5; have q6 : w5.cell? ⟨w.heap.size, 6, none⟩ = some (.slice p.a6 x.hazards.length p.c6) := K5.out.cell 6; clear hb)
    | fail)
  go_wp2_with fail
  have HSTL : Hid (stL x = [1, 1 + x.stops.length, 1 + x.stops.length + x.paths.length, 1 + x.stops.length + x.paths.length + x.doors.length, 1 + x.stops.length + x.paths.length + x.doors.length + x.routes.length, 1 + x.stops.length + x.paths.length + x.doors.length + x.routes.length + x.trips.length]) := Lib.hid rfl
  have HKC : Hid (cntL x = [x.stops.length, x.paths.length, x.doors.length, x.routes.length, x.trips.length, x.hazards.length]) := Lib.hid rfl
  have B6 : Hid (Below w5.heap.size w5 ((w5.alloc (.cells #[.int .i64 (x.stops.length : Int), .int .i64 (x.paths.length : Int), .int .i64 (x.doors.length : Int), .int .i64 (x.routes.length : Int), .int .i64 (x.trips.length : Int), .int .i64 (x.hazards.length : Int)] 3)).alloc (.cells #[.int .i64 1] 3))) := Lib.hid (two_box _ _ _)
  have KC : Hid (Blk ((w5.alloc (.cells #[.int .i64 (x.stops.length : Int), .int .i64 (x.paths.length : Int), .int .i64 (x.doors.length : Int), .int .i64 (x.routes.length : Int), .int .i64 (x.trips.length : Int), .int .i64 (x.hazards.length : Int)] 3)).alloc (.cells #[.int .i64 1] 3)) w5.heap.size 3 [.int .i64 (x.stops.length : Int), .int .i64 (x.paths.length : Int), .int .i64 (x.doors.length : Int), .int .i64 (x.routes.length : Int), .int .i64 (x.trips.length : Int), .int .i64 (x.hazards.length : Int)]) := Lib.hid ((Blk.new w5 _ _).alloc _)
  have OS : Hid (World.ownsRow ((w5.alloc (.cells #[.int .i64 (x.stops.length : Int), .int .i64 (x.paths.length : Int), .int .i64 (x.doors.length : Int), .int .i64 (x.routes.length : Int), .int .i64 (x.trips.length : Int), .int .i64 (x.hazards.length : Int)] 3)).alloc (.cells #[.int .i64 1] 3)) (w5.heap.size + 1) 3 1 (.slice (some ⟨w5.heap.size + 1, 0, none⟩) 1 1) 1 [.int .i64 1]) := Lib.hid (by have := own_lit1 (w5.alloc (.cells #[.int .i64 (x.stops.length : Int), .int .i64 (x.paths.length : Int), .int .i64 (x.doors.length : Int), .int .i64 (x.routes.length : Int), .int .i64 (x.trips.length : Int), .int .i64 (x.hazards.length : Int)] 3)) (w5.heap.size + 1) 3 (.int .i64 1) rfl (by simp); simpa using this)
  have hs6 : ((w5.alloc (.cells #[.int .i64 (x.stops.length : Int), .int .i64 (x.paths.length : Int), .int .i64 (x.doors.length : Int), .int .i64 (x.routes.length : Int), .int .i64 (x.trips.length : Int), .int .i64 (x.hazards.length : Int)] 3)).alloc (.cells #[.int .i64 1] 3)).heap.size = w5.heap.size + 2 := by simp
  have HS6 := Lib.hid hs6
  clear hs6
  generalize (w5.alloc (.cells #[.int .i64 (x.stops.length : Int), .int .i64 (x.paths.length : Int), .int .i64 (x.doors.length : Int), .int .i64 (x.routes.length : Int), .int .i64 (x.trips.length : Int), .int .i64 (x.hazards.length : Int)] 3)).alloc (.cells #[.int .i64 1] 3) = w6 at *
  clear hnTi hnTj hlpi
  clear u0 u1 u2 u3 u4 u5 u6 v0 v1 v2 v3 v4 v5 v6 y0 y1 y2 y3 y4 y5 y6 z0 z1 z2 z3 z4 z5 z6
  have HST : Hid (Below (w5.heap.size + 1) w6 w6) := Lib.hid (Below.refl _ _)
  go_loopw [7, 8] (fun v7 v8 wr => ∃ (i m c' : Nat) (A' : Option Addr), v7 = .slice A' m c' ∧ v8 = .int .i64 i ∧ i ≤ 5 ∧ m ≤ c' ∧ Hid (m = i + 1) ∧ Hid (wr.ownsRow (w5.heap.size + 1) 3 1 (.slice A' m c') m (cs intC (((stL x).take (i + 1)).map Int.ofNat))) ∧ Hid (Below (w5.heap.size + 1) w6 wr)) (fun _ v _ => 5 - (intOf v).toNat)
  case atStart => exact ⟨0, 1, 1, _, rfl, rfl, by omega, by omega, Lib.hid rfl, OS, HST⟩
  case round =>
    rename World => wa
    obtain ⟨i, m, c', A', rfl, rfl, hi, hic, HMI, HO, HB⟩ := hrel
    by_cases hlt : i < 5
    · have hi1 : (i : Int) < (5 : Int) := by omega
      obtain ⟨si, hsi⟩ : ∃ s, s = (stL x).getD i 0 := ⟨_, rfl⟩
      obtain ⟨ci, hci⟩ : ∃ s, s = (cntL x).getD i 0 := ⟨_, rfl⟩
      have hz : (((stL x).take (i + 1)).map Int.ofNat)[i]? = some (si : Int) := by
        rw [List.getElem?_map, List.getElem?_take_of_lt (by omega), List.getElem?_eq_getElem (show i < (stL x).length by simp [stL]; omega), hsi, List.getD_eq_getElem?_getD, List.getElem?_eq_getElem (show i < (stL x).length by simp [stL]; omega)]
        rfl
      have hnext : ((stL x).take (i + 2)).map Int.ofNat = ((stL x).take (i + 1)).map Int.ofNat ++ [(si : Int) + (ci : Int)] := by
        have h6 : i = 0 ∨ i = 1 ∨ i = 2 ∨ i = 3 ∨ i = 4 := by omega
        subst hsi hci
        rcases h6 with rfl | rfl | rfl | rfl | rfl <;> simp [stL, cntL]
      have hsb : si ≤ 400 ∧ ci ≤ 60 := by
        have h6 : i = 0 ∨ i = 1 ∨ i = 2 ∨ i = 3 ∨ i = 4 := by omega
        subst hsi hci
        rcases h6 with rfl | rfl | rfl | rfl | rfl <;> (simp [stL, cntL]; omega)
      have HNX := Lib.hid hnext
      obtain ⟨ads, rfl, -, y0, -⟩ := rd_at 1 (fun _ => rfl) (by omega) (own_rd' HO.out) hz
      have y1 : wa.cell? (ads.add (i * 1)) = some (.int .i64 (si : Int)) := y0
      rw [Nat.mul_one] at y1
      have cc : wa.cell? ⟨w5.heap.size, i, none⟩ = some (.int .i64 (ci : Int)) := by
        rw [hci]
        exact ((KC.out.below HB.out (by omega)).cell i).trans (nat_cell (l := cntL x) (show i < 6 by omega))
      obtain ⟨s1, s2⟩ := hsb
      have hi6 : (i : Int) < (6 : Int) := by omega
      have hi66 : i < 6 := by omega
      have hmi : m = i + 1 := HMI.out
      have him : (i : Int) < (m : Int) := by omega
      have hm7 : m ≤ 6 := by omega
      have him2 : i < m := by omega
      clear hz hnext y0 hsi hci hmi hic
      have e1 : IntKind.i64.wrap ((si : Int) + (ci : Int)) = (si : Int) + (ci : Int) := IntWalk.i64_in _ (by omega)
      go_wp2_with fail
      have y2 : wa.drew.cell? (ads.add i) = some (.int .i64 (si : Int)) := y1
      have cc2 : wa.drew.cell? ⟨w5.heap.size, i, none⟩ = some (.int .i64 (ci : Int)) := cc
      go_region_law (first
        | (refine step_append_rd (by rfl) (.tmp 62) (.tmp 72) 53 (by rfl) (w5.heap.size + 1) 3 _ 1 8 Tryz.underlying53 info_int6 rfl (by omega) (by omega) (.slice (some ads) m c') m (cs intC (((stL x).take (i + 1)).map Int.ofNat)) (by rfl) (Lib.hid (own_after HO.out (by repeat (first | exact Below.refl _ _ | exact one_box _ _ | refine below_drew ?_ | refine Below.alloc ?_ (by simp; try omega) _)))) _ _ 1 1 [.int .i64 ((si : Int) + (ci : Int))] (by rfl) (Lib.hid rfl) (by first | exact Lib.hid (litd_at _ _ _ _ _ (by simp) rfl) | exact Lib.hid (lit_at _ _ _ _ _ (by simp) rfl)) (by simp [Value.oneCell']) (by omega) (by have := HB.out.size; have := HS6.out; simp; omega) ?_; intro v' w4' hown hbel hg; obtain ⟨A'', c'', rfl, hcap, -⟩ := own_form hown.out; clear hg)
        | fail)
      all_goals clear e1
      all_goals
        go_wp2
        go_roundw
        case rel => exact ⟨i + 1, m + 1, c'', A'', rfl, by go_num, by omega, hcap, Lib.hid (by rw [HMI.out]), Lib.hid (by rw [HNX.out, cs_append]; exact hown.out), Lib.hid ((below_drew (HB.out.alloc (by have := HB.out.size; have := HS6.out; omega) _)).trans hbel.out)⟩
        case measure => simp [intOf]; omega
    · have hi1 : ¬ (i : Int) < (5 : Int) := by omega
      have HI5 : Hid (i = 5) := Lib.hid (by omega)
      have hm6 : 6 ≤ m := by have := HMI.out; omega
      have hmk : ∀ w : World, (Instr.makeSlice 53 (.int .i64 6) (.int .i64 6)).run Tryz.prog w = .ok (.slice (some ⟨w.heap.size, 0, none⟩) 6 6) (w.alloc (.cells (List.replicate 6 (.int .i64 0)).toArray 3)) := fun w => run_mk Tryz.underlying53 info_int6 (by omega) rfl 6 6 (by omega) (by omega) w
      have hmr := hmk wa
      clear hmk
      have G6 : Hid (Below w5.heap.size w5 wa) := Lib.hid (B6.out.trans (HB.out.mono (by omega)))
      obtain ⟨l0, hl0⟩ := at_in (k := 0) (n := n) LL (Lib.hid (by rw [HLEN.out]; exact HNT.out)) (by omega)
      obtain ⟨ad, rfl, hS, x0, -⟩ := rd_at 1 (fun _ => rfl) (by omega) (rd_later R5.out G6.out) hl0
      have x1 : wa.cell? (ad.add (0 * 1)) = some (.string ⟨l0.toArray⟩) := x0
      rw [Nat.zero_mul] at x1
      have x2 : ∀ o, (wa.alloc o).cell? (ad.add 0) = some (.string ⟨l0.toArray⟩) := fun o => (World.cell?_of_block (Below.heap_alloc wa o _ hS)).trans x1
      have x3 : ∀ o, (wa.alloc o).cell? ad = some (.string ⟨l0.toArray⟩) := fun o => by have := x2 o; simpa [Addr.add] using this
      have h0e : l0 = lineB (horT x.horizon) := by
        have := line_zero x
        rw [← HLL.out, hl0] at this
        injection this
      have HL0 := Lib.hid h0e
      have hn0 : (0 : Int) < (n : Int) := by omega
      have hn00 : 0 < n := by omega
      clear x0 x1 x2 hl0 h0e hS
      go_wp2_with fail
      have hC9 : w5.heap.size < wa.heap.size := by have := HB.out.size; have := HS6.out; omega
      have B8 : Hid (Below wa.heap.size wa (wa.alloc (.cells #[.int .i64 0, .int .i64 0, .int .i64 0, .int .i64 0, .int .i64 0, .int .i64 0] 3))) := Lib.hid (one_box wa _)
      have K8 : Hid (Blk (wa.alloc (.cells #[.int .i64 0, .int .i64 0, .int .i64 0, .int .i64 0, .int .i64 0, .int .i64 0] 3)) wa.heap.size 3 (([0, 0, 0, 0, 0, 0] : List Nat).map natV)) := Lib.hid (Blk.new wa 3 [.int .i64 0, .int .i64 0, .int .i64 0, .int .i64 0, .int .i64 0, .int .i64 0])
      generalize wa.alloc (.cells #[.int .i64 0, .int .i64 0, .int .i64 0, .int .i64 0, .int .i64 0, .int .i64 0] 3) = w8 at *
      have G8 : Hid (Below w.heap.size w w8) := Lib.hid (keep_trans G5.out (keep_trans G6.out B8.out))
      have HKC8 : Hid (Blk w8 w5.heap.size 3 ((cntL x).map natV)) := Lib.hid ((KC.out.below HB.out (by omega)).after B8.out)
      have R8 : Hid (Rd w8 (· < wa.heap.size) (some ad) (cs strC LL)) := Lib.hid ((rd_later R5.out G6.out).below B8.out)
      have P8 : Hid (Rd w8 (· < wa.heap.size) AP (cs intC P)) := Lib.hid ((rd_later HPR.out (keep_trans G5.out G6.out)).below B8.out)
      have S8 : Hid (Rd w8 (· < wa.heap.size) A' (cs intC ((stL x).map Int.ofNat))) := Lib.hid (by have h := own_rd' HO.out; rw [HI5.out] at h; exact (h.more fun b hb => hb.2).below B8.out)
      have X8 : Hid (Blk w8 w.heap.size 29 (shL' x p)) := Lib.hid ((K5.out.after G6.out).after B8.out)
      have hX9 : w.heap.size < wa.heap.size := by have := K5.out.lt; have := G6.out.size; omega
      clear hmr x3 HMI B8 KC OS HO HB HST hi1 K1 K2 K3 K4 K5 G1 G2 G3 G4 R4 R5 G6 HS6 B6 hi hlt hic hn0 hn00 q0 q1 q2 q3 q4 q5 q6
      go_loopw [10, 11] (fun v10 v11 wq => ∃ (i : Nat) (nx : List Nat) (acc : List Item), v10 = .string ⟨(ordT x.horizon acc).toArray⟩ ∧ v11 = .int .i64 i ∧ i ≤ T ∧ Hid (acc.length = i) ∧ Hid (Far x nx acc) ∧ Hid (Blk wq wa.heap.size 3 (nx.map natV)) ∧ Hid (Below wa.heap.size w8 wq)) (fun _ v _ => T - (intOf v).toNat)
      case atStart => exact ⟨0, [0, 0, 0, 0, 0, 0], [], by rw [HL0.out]; simp [ordT], rfl, by omega, Lib.hid rfl, Lib.hid (far_start x), K8, Lib.hid (Below.refl _ _)⟩
      case round =>
        rename World => wq
        obtain ⟨i, nx, acc, rfl, rfl, hi, HACC, HFAR, HK, HBQ⟩ := hrel
        by_cases hlt : i < T
        · have hi1 : (i : Int) < (n : Int) - 1 := by have := HNT.out; omega
          obtain ⟨j0, hj6, hj⟩ := HFAR.out.more (by rw [HACC.out]; show i < sumL x; rw [show sumL x = T from HTT.out.symm]; exact hlt)
          have HJ := Lib.hid hj
          have hlen := ord_len HX.out HFAR.out.mem
          rw [HACC.out] at hlen
          obtain ⟨SS, hSS⟩ : ∃ S, S = ordT x.horizon acc := ⟨_, rfl⟩
          rw [← hSS] at hlen ⊢
          have HSS := Lib.hid hSS
          clear hj hSS
          by_cases hp : i < lp
          · have hp1 : (i : Int) < (lp : Int) := by omega
            obtain ⟨z, hz⟩ := at_in (k := i) (n := lp) P HPL hp
            obtain ⟨adp, rfl, hS, x0, -⟩ := rd_at 1 (fun _ => rfl) (by omega) (P8.out.below HBQ.out) hz
            have x1 : wq.cell? (adp.add (i * 1)) = some (.int .i64 z) := x0
            rw [Nat.mul_one] at x1
            have hzb := HPB.out z (List.mem_of_getElem? hz)
            clear x0 hz hS
            go_wp2_with (first
              | (go_at_call 16; refine (pick_any z 6 _ hzb.1 hzb.2 (by omega) (by omega)).mono ?_; rintro e' wp ⟨r, rfl, hr, rfl⟩; have hr6 : r < 6 := (by have := hr.out; omega); clear hr)
              | fail)
            go_loopw [12] (fun v12 wr => ∃ k : Nat, v12 = .int .i64 k ∧ k < 6 ∧ Hid (Blk wr wa.heap.size 3 (nx.map natV)) ∧ Hid (Below wa.heap.size w8 wr)) (fun v _ => (j0 + 6 - (intOf v).toNat) % 6)
            case atStart => exact ⟨r, rfl, by omega, HK, HBQ⟩
            case round =>
              rename World => ws
              obtain ⟨k, rfl, hk6, HKS, HBS⟩ := hrel
              have hkn : k < nx.length := by rw [HFAR.out.len]; exact hk6
              have cn : ws.cell? ⟨wa.heap.size, k, none⟩ = some (.int .i64 (nx.getD k 0 : Nat)) := (HKS.out.cell k).trans (nat_cell hkn)
              have cc : ws.cell? ⟨w5.heap.size, k, none⟩ = some (.int .i64 ((cntL x).getD k 0 : Nat)) := ((HKC8.out.below HBS.out hC9).cell k).trans (nat_cell hk6)
              have hkc := cnt_kind x hk6
              have hle := HFAR.out.le k hk6
              have hjk : k = j0 → nx.getD k 0 < (cntL x).getD k 0 := by rintro rfl; rw [hkc]; exact HJ.out
              obtain ⟨nk, hnk⟩ : ∃ m, m = nx.getD k 0 := ⟨_, rfl⟩
              obtain ⟨ck, hck⟩ : ∃ m, m = (cntL x).getD k 0 := ⟨_, rfl⟩
              rw [← hnk] at cn hjk hle
              rw [← hck] at cc hjk hkc
              have HNK := Lib.hid hnk
              have HCK := Lib.hid hck
              have HKCE := Lib.hid hkc
              rw [← hkc] at hle
              have hki : (k : Int) < 6 := by omega
              have hki0 : (0 : Int) ≤ (k : Int) := by omega
              clear hnk hck hkc hkn
              by_cases hfull : nk = ck
              · have hb : ((nk : Int) == (ck : Int)) = true := by rw [beq_iff_eq]; omega
                have hkj : k ≠ j0 := fun e => by have := hjk e; omega
                clear hfull hjk
                go_wp2_with fail
                go_quiet (fail)
                go_wp2
                go_roundw
                case rel => exact ⟨(k + 1) % 6, congrArg (Value.int .i64) (by omega), by omega, Lib.hid HKS.out, Lib.hid (below_drewN HBS.out _)⟩
                case measure => simp [intOf]; omega
              · have hb : ((nk : Int) == (ck : Int)) = false := by rw [beq_eq_false_iff_ne]; omega
                have hlt2 : nk < ck := by omega
                clear hfull hjk
                go_wp2_with fail
                go_quiet (fail)
                go_wp2_with fail
                obtain ⟨it, hit⟩ : ∃ it, (kindL x k)[nx.getD k 0]? = some it := ⟨_, List.getElem?_eq_getElem (by rw [← HNK.out, ← HKCE.out]; exact hlt2)⟩
                have HIT := Lib.hid hit
                have hline := line_kind hk6 hit
                rw [← HNK.out, ← HLL.out] at hline
                obtain ⟨stk, hstk⟩ : ∃ m, m = (stL x).getD k 0 := ⟨_, rfl⟩
                rw [← hstk] at hline
                have hsl : ((stL x).map Int.ofNat)[k]? = some (stk : Int) := by
                  rw [List.getElem?_map, List.getElem?_eq_getElem (show k < (stL x).length from hk6), hstk, List.getD_eq_getElem?_getD, List.getElem?_eq_getElem (show k < (stL x).length from hk6)]
                  rfl
                obtain ⟨ads, rfl, -, y0, -⟩ := rd_at 1 (fun _ => rfl) (by omega) (S8.out.below HBS.out) hsl
                obtain ⟨adl, hadl, -, z0, -⟩ := rd_at 1 (fun _ => rfl) (by omega) (R8.out.below HBS.out) hline
                cases hadl
                have y1 : ws.cell? (ads.add (k * 1)) = some (.int .i64 (stk : Int)) := y0
                have z1 : ws.cell? (ad.add ((stk + nk) * 1)) = some (.string ⟨(lineB it.toks).toArray⟩) := z0
                rw [Nat.mul_one] at y1 z1
                have hal := HSHORT.out _ (List.mem_of_getElem? hline)
                have hln := (List.getElem?_eq_some_iff.1 hline).1
                rw [HLEN.out, ← HNT.out] at hln
                have HMORE := Lib.hid (ord_more x.horizon acc it)
                clear y0 z0 hline hstk hsl hit
                generalize lineB it.toks = aL at *
                have e2 : (0 : Int) ≤ (stk : Int) + (nk : Int) := by omega
                have e3 : ((stk : Int) + (nk : Int)).toNat = stk + nk := by omega
                have e4 : (stk : Int) + (nk : Int) < (n : Int) := by omega
                have e5 : stk + nk < n := hln
                have f1 : ¬ 9223372036854775807 < SS.length + 1 := by omega
                have f2 : ¬ 9223372036854775807 < SS.length + 1 + aL.length := by omega
                have km : (k : Int) < (m : Int) := by omega
                have km2 : k < m := by omega
                have hfz : ws.frozen? ⟨wa.heap.size, k, none⟩ = false := HKS.out.frozen k
                have e1 : IntKind.i64.wrap ((stk : Int) + (nk : Int)) = (stk : Int) + (nk : Int) := IntWalk.i64_in _ (by omega)
                go_quiet (fail)
                clear e1 e2 e3 e4 e5
                go_wp2
                go_roundw
                case rel => exact ⟨i + 1, nx.set k (nk + 1), acc ++ [it], congrArg Value.string (bytes_eq (by rw [HMORE.out, ← HSS.out]; simp)), by go_num, by omega, Lib.hid (by rw [List.length_append, HACC.out]; rfl), Lib.hid (by have := HFAR.out.step hk6 HIT.out; rwa [← HNK.out] at this), Lib.hid (blk_nat HKS.out), Lib.hid (below_set (below_drewN HBS.out _) (Nat.le_refl _) _)⟩
                case measure => simp [intOf]; omega
          · have hp1 : ¬ (i : Int) < (lp : Int) := by omega
            go_wp2_with fail
            go_loopw [12] (fun v12 wr => ∃ k : Nat, v12 = .int .i64 k ∧ k < 6 ∧ Hid (Blk wr wa.heap.size 3 (nx.map natV)) ∧ Hid (Below wa.heap.size w8 wr)) (fun v _ => (j0 + 6 - (intOf v).toNat) % 6)
            case atStart => exact ⟨0, rfl, by omega, HK, HBQ⟩
            case round =>
              rename World => ws
              obtain ⟨k, rfl, hk6, HKS, HBS⟩ := hrel
              have hkn : k < nx.length := by rw [HFAR.out.len]; exact hk6
              have cn : ws.cell? ⟨wa.heap.size, k, none⟩ = some (.int .i64 (nx.getD k 0 : Nat)) := (HKS.out.cell k).trans (nat_cell hkn)
              have cc : ws.cell? ⟨w5.heap.size, k, none⟩ = some (.int .i64 ((cntL x).getD k 0 : Nat)) := ((HKC8.out.below HBS.out hC9).cell k).trans (nat_cell hk6)
              have hkc := cnt_kind x hk6
              have hle := HFAR.out.le k hk6
              have hjk : k = j0 → nx.getD k 0 < (cntL x).getD k 0 := by rintro rfl; rw [hkc]; exact HJ.out
              obtain ⟨nk, hnk⟩ : ∃ m, m = nx.getD k 0 := ⟨_, rfl⟩
              obtain ⟨ck, hck⟩ : ∃ m, m = (cntL x).getD k 0 := ⟨_, rfl⟩
              rw [← hnk] at cn hjk hle
              rw [← hck] at cc hjk hkc
              have HNK := Lib.hid hnk
              have HCK := Lib.hid hck
              have HKCE := Lib.hid hkc
              rw [← hkc] at hle
              have hki : (k : Int) < 6 := by omega
              have hki0 : (0 : Int) ≤ (k : Int) := by omega
              clear hnk hck hkc hkn
              by_cases hfull : nk = ck
              · have hb : ((nk : Int) == (ck : Int)) = true := by rw [beq_iff_eq]; omega
                have hkj : k ≠ j0 := fun e => by have := hjk e; omega
                clear hfull hjk
                go_wp2_with fail
                go_quiet (fail)
                go_wp2
                go_roundw
                case rel => exact ⟨(k + 1) % 6, congrArg (Value.int .i64) (by omega), by omega, Lib.hid HKS.out, Lib.hid (below_drewN HBS.out _)⟩
                case measure => simp [intOf]; omega
              · have hb : ((nk : Int) == (ck : Int)) = false := by rw [beq_eq_false_iff_ne]; omega
                have hlt2 : nk < ck := by omega
                clear hfull hjk
                go_wp2_with fail
                go_quiet (fail)
                go_wp2_with fail
                obtain ⟨it, hit⟩ : ∃ it, (kindL x k)[nx.getD k 0]? = some it := ⟨_, List.getElem?_eq_getElem (by rw [← HNK.out, ← HKCE.out]; exact hlt2)⟩
                have HIT := Lib.hid hit
                have hline := line_kind hk6 hit
                rw [← HNK.out, ← HLL.out] at hline
                obtain ⟨stk, hstk⟩ : ∃ m, m = (stL x).getD k 0 := ⟨_, rfl⟩
                rw [← hstk] at hline
                have hsl : ((stL x).map Int.ofNat)[k]? = some (stk : Int) := by
                  rw [List.getElem?_map, List.getElem?_eq_getElem (show k < (stL x).length from hk6), hstk, List.getD_eq_getElem?_getD, List.getElem?_eq_getElem (show k < (stL x).length from hk6)]
                  rfl
                obtain ⟨ads, rfl, -, y0, -⟩ := rd_at 1 (fun _ => rfl) (by omega) (S8.out.below HBS.out) hsl
                obtain ⟨adl, hadl, -, z0, -⟩ := rd_at 1 (fun _ => rfl) (by omega) (R8.out.below HBS.out) hline
                cases hadl
                have y1 : ws.cell? (ads.add (k * 1)) = some (.int .i64 (stk : Int)) := y0
                have z1 : ws.cell? (ad.add ((stk + nk) * 1)) = some (.string ⟨(lineB it.toks).toArray⟩) := z0
                rw [Nat.mul_one] at y1 z1
                have hal := HSHORT.out _ (List.mem_of_getElem? hline)
                have hln := (List.getElem?_eq_some_iff.1 hline).1
                rw [HLEN.out, ← HNT.out] at hln
                have HMORE := Lib.hid (ord_more x.horizon acc it)
                clear y0 z0 hline hstk hsl hit
                generalize lineB it.toks = aL at *
                have e2 : (0 : Int) ≤ (stk : Int) + (nk : Int) := by omega
                have e3 : ((stk : Int) + (nk : Int)).toNat = stk + nk := by omega
                have e4 : (stk : Int) + (nk : Int) < (n : Int) := by omega
                have e5 : stk + nk < n := hln
                have f1 : ¬ 9223372036854775807 < SS.length + 1 := by omega
                have f2 : ¬ 9223372036854775807 < SS.length + 1 + aL.length := by omega
                have km : (k : Int) < (m : Int) := by omega
                have km2 : k < m := by omega
                have hfz : ws.frozen? ⟨wa.heap.size, k, none⟩ = false := HKS.out.frozen k
                have e1 : IntKind.i64.wrap ((stk : Int) + (nk : Int)) = (stk : Int) + (nk : Int) := IntWalk.i64_in _ (by omega)
                go_quiet (fail)
                clear e1 e2 e3 e4 e5
                go_wp2
                go_roundw
                case rel => exact ⟨i + 1, nx.set k (nk + 1), acc ++ [it], congrArg Value.string (bytes_eq (by rw [HMORE.out, ← HSS.out]; simp)), by go_num, by omega, Lib.hid (by rw [List.length_append, HACC.out]; rfl), Lib.hid (by have := HFAR.out.step hk6 HIT.out; rwa [← HNK.out] at this), Lib.hid (blk_nat HKS.out), Lib.hid (below_set (below_drewN HBS.out _) (Nat.le_refl _) _)⟩
                case measure => simp [intOf]; omega
        · have HIT : Hid (i = T) := Lib.hid (by omega)
          have hi1 : ¬ (i : Int) < (n : Int) - 1 := by have := HNT.out; omega
          have hlen := ord_len HX.out HFAR.out.mem
          rw [HACC.out] at hlen
          have HP1 : Hid ((ordT x.horizon acc).length ≤ 65536 → parseT ⟨(ordT x.horizon acc).toArray⟩ = .ok x []) := Lib.hid (fun h => ord_parse HX.out HFAR.out (by rw [HACC.out, HIT.out]; exact HTT.out) rfl (by rw [Lib.size_eq]; simpa using h))
          have GQ : Hid (Below w.heap.size w wq) := Lib.hid (G8.out.trans (HBQ.out.mono (by omega)))
          have XQ : Hid (Blk wq w.heap.size 29 (shL' x p)) := Lib.hid (X8.out.below HBQ.out hX9)
          clear hlt hi HKC8 R8 P8 S8 X8 HK
          generalize ordT x.horizon acc = S1 at *
          by_cases hbig : 65536 < S1.length
          · have hb1 : (65536 : Int) < (S1.length : Int) := by omega
            have P1 := Lib.hid (parse_long (s := ⟨S1.toArray⟩) (by rw [Lib.size_eq]; simpa using hbig))
            go_wp2_with (first
              | (go_at_call 9; (with_reducible refine (parse_no P1.out _ (HE.out.on GQ.out)).mono ?_); rintro e' w10 ⟨rfl, hb⟩; have B10 := Lib.hid (keep_trans GQ.out hb); clear hb)
              | fail)
            go_ret
            exact ⟨rfl, keep_trans B10.out (two_box _ _ _)⟩
          · have hb1 : ¬ (65536 : Int) < (S1.length : Int) := by omega
            have P1 := Lib.hid (HP1.out (by omega))
            clear HP1 hbig
            go_wp2_with (first
              | (go_at_call 9; (with_reducible refine (parse_ok P1.out _ (HE.out.on GQ.out)).mono ?_); rintro e' w10 ⟨pc, -, rfl, hs, hb⟩; have B10 := Lib.hid (keep_trans GQ.out hb); have S10 := Lib.hid hs.old; have XW := Lib.hid (XQ.out.after hb); have xq0 : ∀ o q, ((w10.alloc o).alloc q).cell? ⟨w.heap.size, 0, none⟩ = some (.int .i64 x.horizon) := fun o q => ((XW.out.alloc o).alloc q).cell 0; have xq1 : ∀ o q, ((w10.alloc o).alloc q).cell? ⟨w.heap.size, 1, none⟩ = some (.slice p.a1 x.stops.length p.c1) := fun o q => ((XW.out.alloc o).alloc q).cell 1; have xq2 : ∀ o q, ((w10.alloc o).alloc q).cell? ⟨w.heap.size, 2, none⟩ = some (.slice p.a2 x.paths.length p.c2) := fun o q => ((XW.out.alloc o).alloc q).cell 2; have xq3 : ∀ o q, ((w10.alloc o).alloc q).cell? ⟨w.heap.size, 3, none⟩ = some (.slice p.a3 x.doors.length p.c3) := fun o q => ((XW.out.alloc o).alloc q).cell 3; have xq4 : ∀ o q, ((w10.alloc o).alloc q).cell? ⟨w.heap.size, 4, none⟩ = some (.slice p.a4 x.routes.length p.c4) := fun o q => ((XW.out.alloc o).alloc q).cell 4; have xq5 : ∀ o q, ((w10.alloc o).alloc q).cell? ⟨w.heap.size, 5, none⟩ = some (.slice p.a5 x.trips.length p.c5) := fun o q => ((XW.out.alloc o).alloc q).cell 5; have xq6 : ∀ o q, ((w10.alloc o).alloc q).cell? ⟨w.heap.size, 6, none⟩ = some (.slice p.a6 x.hazards.length p.c6) := fun o q => ((XW.out.alloc o).alloc q).cell 6; clear hb hs; dsimp only [shV])
              | (go_at_call 17; refine (ksheet_any x p pc _ (HSH.out.later (keep_trans B10.out (two_box w10 _ _))) (S10.out.later (two_box w10 _ _)) (mayfew HX.out)).mono ?_; rintro e' w11 ⟨rfl, hb⟩; have B11 := Lib.hid (keep_trans B10.out (keep_trans (two_box w10 _ _) hb)); clear hb)
              | fail)
            go_ret
            exact ⟨rfl, B11.out⟩

theorem order_all (x : SheetM) (p : ShA) (AP : Option Addr) (lp cp : Nat) (w : World) (hE : Tk.Env w) (P : List Int) (hP : lp = P.length) (hb0 : ∀ z ∈ P, -9223372036854775808 ≤ z ∧ z ≤ 9223372036854775807) (hrP : Rd w (· < w.heap.size) AP (cs intC P)) (hsh : Sh w (· < w.heap.size) x p) :
    Calls Tryz.prog 6 #[shV x p, .slice AP lp cp] w fun e w' => e = .returned (.bool true) ∧ Below w.heap.size w w' := by
  cases hl : lightM x with
  | false => exact order_dark x p AP lp cp w hE hsh hl
  | true =>
    by_cases hc : checkM x = 0
    · by_cases hlp : lp ≤ 400
      · exact order_ok x p AP lp cp w hE P hP hb0 hrP hsh hl (may_of hc) hlp
      · exact order_long x p AP lp cp w hE hsh hl (may_of hc) (by omega)
    · exact order_not x p AP lp cp w hE hsh hl hc
end Go.Proofs.YteonmabfhilcfaaGreatDoor.Sh
