/- ShowAdds, walked: a thing more is a line more, at its place. Condition: the library's table holds what start-up lays (Env). -/
import Derived.Test.YtcmlmfcnbmpajaaDoorShowAddsMath
import Derived.Test.YtcmlmfcnbmpajaaDoorShowAddsSh
import Derived.Test.YtcmlmfcnbmpajaaDoorShowLives
import Derived.Test.YtcmlmfcnbmpajaaDoorShowLinesWalk
import Derived.Test.YtcmlmfcnbmpajaaDoorKitOwnS
import Derived.Test.YtcmlmfcnbmpajaaDoorEachA
import Derived.Test.YtcmlmfcnbmpajaaDoorSheetLessWalk
namespace Go.Proofs.YtcmlmfcnbmpajaaDoor.Sw
open Go.ChangeShapes Go.WideShapes Go.ChangeAt Go.RowKit
open Lx Sh
set_option linter.unusedVariables false
set_option linter.unusedSimpArgs false
set_option maxRecDepth 100000

theorem cs_take_s (l : List (List UInt8)) (k : Nat) : cs strC (l.take k) = (cs strC l).take k := by
  have e : ∀ l : List (List UInt8), cs strC l = l.map (fun a => Value.string ⟨a.toArray⟩) := by
    intro l; induction l with
    | nil => rfl
    | cons a r ih => simp [cs, strC] at ih ⊢; exact ih
  rw [e, e, List.map_take]
theorem cs_drop_s (l : List (List UInt8)) (k : Nat) : cs strC (l.drop k) = (cs strC l).drop k := by
  have e : ∀ l : List (List UInt8), cs strC l = l.map (fun a => Value.string ⟨a.toArray⟩) := by
    intro l; induction l with
    | nil => rfl
    | cons a r ih => simp [cs, strC] at ih ⊢; exact ih
  rw [e, e, List.map_drop]

set_option maxHeartbeats 4000000 in
theorem adds_dark (x : SheetM) (p : ShA) (at_ : Int) (tr : Bool) (w : World) (hE : Tk.Env w) (h : Sh w (· < w.heap.size) x p) (hl : lightM x = false) :
    Calls Tryd.prog 5 #[shV x p, .int .i64 at_, .bool tr] w (TrueP w) := by
  have CV := Lib.hid (fun w' (hb : Below w.heap.size w w') => lives_any w' (hE.on hb))
  have CK := Lib.hid (fun w' (hb : Below w.heap.size w w') => light_any x p w' (h.later hb))
  rw [hl] at CK
  clear hE h hl
  go_enter Tryd.func5, Tryd.ntmps5
  go_wp2_with (first
    | (go_at_call 10; (with_reducible refine (CV.out _ (one_box _ _)).mono ?_); rintro e w1 ⟨rfl, hb⟩; have KS1 : Hid (Blk w1 w.heap.size 38 [.int .i64 x.horizon, .slice p.a1 x.stops.length p.c1, .slice p.a2 x.paths.length p.c2, .slice p.a3 x.doors.length p.c3, .slice p.a4 x.routes.length p.c4, .slice p.a5 x.trips.length p.c5, .slice p.a6 x.hazards.length p.c6]) := Lib.hid ((Blk.new w 38 [.int .i64 x.horizon, .slice p.a1 x.stops.length p.c1, .slice p.a2 x.paths.length p.c2, .slice p.a3 x.doors.length p.c3, .slice p.a4 x.routes.length p.c4, .slice p.a5 x.trips.length p.c5, .slice p.a6 x.hazards.length p.c6]).after hb); have Q1 := Lib.hid (keep_trans (one_box _ _) hb); have z0 : w1.cell? ⟨w.heap.size, 0, none⟩ = some (.int .i64 x.horizon) := KS1.out.cell 0; have z1 : w1.cell? ⟨w.heap.size, 1, none⟩ = some (.slice p.a1 x.stops.length p.c1) := KS1.out.cell 1; have z2 : w1.cell? ⟨w.heap.size, 2, none⟩ = some (.slice p.a2 x.paths.length p.c2) := KS1.out.cell 2; have z3 : w1.cell? ⟨w.heap.size, 3, none⟩ = some (.slice p.a3 x.doors.length p.c3) := KS1.out.cell 3; have z4 : w1.cell? ⟨w.heap.size, 4, none⟩ = some (.slice p.a4 x.routes.length p.c4) := KS1.out.cell 4; have z5 : w1.cell? ⟨w.heap.size, 5, none⟩ = some (.slice p.a5 x.trips.length p.c5) := KS1.out.cell 5; have z6 : w1.cell? ⟨w.heap.size, 6, none⟩ = some (.slice p.a6 x.hazards.length p.c6) := KS1.out.cell 6; clear hb)
    | (go_at_call 15; refine (CK.out _ Q1.out).mono ?_; rintro e w2 ⟨rfl, hb⟩; have KS2 := Lib.hid (KS1.out.after hb); have Q2 := Lib.hid (keep_trans Q1.out hb); have z0 : w2.cell? ⟨w.heap.size, 0, none⟩ = some (.int .i64 x.horizon) := KS2.out.cell 0; have z1 : w2.cell? ⟨w.heap.size, 1, none⟩ = some (.slice p.a1 x.stops.length p.c1) := KS2.out.cell 1; have z2 : w2.cell? ⟨w.heap.size, 2, none⟩ = some (.slice p.a2 x.paths.length p.c2) := KS2.out.cell 2; have z3 : w2.cell? ⟨w.heap.size, 3, none⟩ = some (.slice p.a3 x.doors.length p.c3) := KS2.out.cell 3; have z4 : w2.cell? ⟨w.heap.size, 4, none⟩ = some (.slice p.a4 x.routes.length p.c4) := KS2.out.cell 4; have z5 : w2.cell? ⟨w.heap.size, 5, none⟩ = some (.slice p.a5 x.trips.length p.c5) := KS2.out.cell 5; have z6 : w2.cell? ⟨w.heap.size, 6, none⟩ = some (.slice p.a6 x.hazards.length p.c6) := KS2.out.cell 6; clear hb)
    | fail)
  go_ret
  exact ⟨rfl, Q2.out⟩

set_option maxHeartbeats 4000000 in
theorem adds_none_t (x : SheetM) (p : ShA) (at_ : Int) (w : World) (hE : Tk.Env w) (h : Sh w (· < w.heap.size) x p) (hl : lightM x = true) (h0 : x.trips.length = 0) :
    Calls Tryd.prog 5 #[shV x p, .int .i64 at_, .bool true] w (TrueP w) := by
  have lx := lt_of hl
  have l1 := lx.l1
  have CV := Lib.hid (fun w' (hb : Below w.heap.size w w') => lives_any w' (hE.on hb))
  have CK := Lib.hid (fun w' (hb : Below w.heap.size w w') => light_any x p w' (h.later hb))
  rw [hl] at CK
  have CO := Lib.hid (fun w' (hb : Below w.heap.size w w') => own_sheet x p w' (h.later hb) lx.few)
  have HI0 : Hid (((x.trips.length : Int) == 0) = true) := Lib.hid (by rw [beq_iff_eq]; omega)
  clear hE h hl lx h0
  go_enter Tryd.func5, Tryd.ntmps5
  go_upto_region 6 with (first
    | (go_at_call 10; (with_reducible refine (CV.out _ (one_box _ _)).mono ?_); rintro e w1 ⟨rfl, hb⟩; have KS1 : Hid (Blk w1 w.heap.size 38 [.int .i64 x.horizon, .slice p.a1 x.stops.length p.c1, .slice p.a2 x.paths.length p.c2, .slice p.a3 x.doors.length p.c3, .slice p.a4 x.routes.length p.c4, .slice p.a5 x.trips.length p.c5, .slice p.a6 x.hazards.length p.c6]) := Lib.hid ((Blk.new w 38 [.int .i64 x.horizon, .slice p.a1 x.stops.length p.c1, .slice p.a2 x.paths.length p.c2, .slice p.a3 x.doors.length p.c3, .slice p.a4 x.routes.length p.c4, .slice p.a5 x.trips.length p.c5, .slice p.a6 x.hazards.length p.c6]).after hb); have Q1 := Lib.hid (keep_trans (one_box _ _) hb); have z0 : w1.cell? ⟨w.heap.size, 0, none⟩ = some (.int .i64 x.horizon) := KS1.out.cell 0; have z1 : w1.cell? ⟨w.heap.size, 1, none⟩ = some (.slice p.a1 x.stops.length p.c1) := KS1.out.cell 1; have z2 : w1.cell? ⟨w.heap.size, 2, none⟩ = some (.slice p.a2 x.paths.length p.c2) := KS1.out.cell 2; have z3 : w1.cell? ⟨w.heap.size, 3, none⟩ = some (.slice p.a3 x.doors.length p.c3) := KS1.out.cell 3; have z4 : w1.cell? ⟨w.heap.size, 4, none⟩ = some (.slice p.a4 x.routes.length p.c4) := KS1.out.cell 4; have z5 : w1.cell? ⟨w.heap.size, 5, none⟩ = some (.slice p.a5 x.trips.length p.c5) := KS1.out.cell 5; have z6 : w1.cell? ⟨w.heap.size, 6, none⟩ = some (.slice p.a6 x.hazards.length p.c6) := KS1.out.cell 6; clear hb)
    | (go_at_call 15; refine (CK.out _ Q1.out).mono ?_; rintro e w2 ⟨rfl, hb⟩; have KS2 := Lib.hid (KS1.out.after hb); have Q2 := Lib.hid (keep_trans Q1.out hb); have z0 : w2.cell? ⟨w.heap.size, 0, none⟩ = some (.int .i64 x.horizon) := KS2.out.cell 0; have z1 : w2.cell? ⟨w.heap.size, 1, none⟩ = some (.slice p.a1 x.stops.length p.c1) := KS2.out.cell 1; have z2 : w2.cell? ⟨w.heap.size, 2, none⟩ = some (.slice p.a2 x.paths.length p.c2) := KS2.out.cell 2; have z3 : w2.cell? ⟨w.heap.size, 3, none⟩ = some (.slice p.a3 x.doors.length p.c3) := KS2.out.cell 3; have z4 : w2.cell? ⟨w.heap.size, 4, none⟩ = some (.slice p.a4 x.routes.length p.c4) := KS2.out.cell 4; have z5 : w2.cell? ⟨w.heap.size, 5, none⟩ = some (.slice p.a5 x.trips.length p.c5) := KS2.out.cell 5; have z6 : w2.cell? ⟨w.heap.size, 6, none⟩ = some (.slice p.a6 x.hazards.length p.c6) := KS2.out.cell 6; clear hb)
    | (go_at_call 18; refine (CO.out _ Q2.out).mono ?_; rintro e w3 ⟨A1, A2, A3, A4, A5, A6, c1, c2, c3, c4, c5, c6, rfl, hos, hb⟩; have HOS := Lib.hid hos; have KS3 := Lib.hid (KS2.out.after hb); have Q3 := Lib.hid (keep_trans Q2.out hb); have HSZ3 := Lib.hid hb.size; have z0 : w3.cell? ⟨w.heap.size, 0, none⟩ = some (.int .i64 x.horizon) := KS3.out.cell 0; have z1 : w3.cell? ⟨w.heap.size, 1, none⟩ = some (.slice p.a1 x.stops.length p.c1) := KS3.out.cell 1; have z2 : w3.cell? ⟨w.heap.size, 2, none⟩ = some (.slice p.a2 x.paths.length p.c2) := KS3.out.cell 2; have z3 : w3.cell? ⟨w.heap.size, 3, none⟩ = some (.slice p.a3 x.doors.length p.c3) := KS3.out.cell 3; have z4 : w3.cell? ⟨w.heap.size, 4, none⟩ = some (.slice p.a4 x.routes.length p.c4) := KS3.out.cell 4; have z5 : w3.cell? ⟨w.heap.size, 5, none⟩ = some (.slice p.a5 x.trips.length p.c5) := KS3.out.cell 5; have z6 : w3.cell? ⟨w.heap.size, 6, none⟩ = some (.slice p.a6 x.hazards.length p.c6) := KS3.out.cell 6; clear hb hos)
    | fail)
  have KYW := Lib.hid (Blk.new w3 38 [.int .i64 x.horizon, .slice A1 x.stops.length c1, .slice A2 x.paths.length c2, .slice A3 x.doors.length c3, .slice A4 x.routes.length c4, .slice A5 x.trips.length c5, .slice A6 x.hazards.length c6])
  have KXW := Lib.hid (KS3.out.after (one_box w3 (.cells #[.int .i64 x.horizon, .slice A1 x.stops.length c1, .slice A2 x.paths.length c2, .slice A3 x.doors.length c3, .slice A4 x.routes.length c4, .slice A5 x.trips.length c5, .slice A6 x.hazards.length c6] 38)))
  have HBW := Lib.hid (keep_trans Q3.out (one_box w3 (.cells #[.int .i64 x.horizon, .slice A1 x.stops.length c1, .slice A2 x.paths.length c2, .slice A3 x.doors.length c3, .slice A4 x.routes.length c4, .slice A5 x.trips.length c5, .slice A6 x.hazards.length c6] 38)))
  have HOW := Lib.hid (HOS.out.imp fun s hs => hs.after (one_box w3 (.cells #[.int .i64 x.horizon, .slice A1 x.stops.length c1, .slice A2 x.paths.length c2, .slice A3 x.doors.length c3, .slice A4 x.routes.length c4, .slice A5 x.trips.length c5, .slice A6 x.hazards.length c6] 38)))
  have HB3W := Lib.hid (one_box w3 (.cells #[.int .i64 x.horizon, .slice A1 x.stops.length c1, .slice A2 x.paths.length c2, .slice A3 x.doors.length c3, .slice A4 x.routes.length c4, .slice A5 x.trips.length c5, .slice A6 x.hazards.length c6] 38))
  have HSZW : Hid (w.heap.size < w3.heap.size) := Lib.hid KS3.out.lt
  dsimp only [List.toArray] at KYW
  clear z0 z1 z2 z3 z4 z5 z6
  generalize w3.alloc (.cells #[.int .i64 x.horizon, .slice A1 x.stops.length c1, .slice A2 x.paths.length c2, .slice A3 x.doors.length c3, .slice A4 x.routes.length c4, .slice A5 x.trips.length c5, .slice A6 x.hazards.length c6] 38) = W at KYW KXW HBW HOW HB3W ⊢
  generalize w3.heap.size = n7 at KYW HSZW ⊢
  have z0 : W.cell? ⟨w.heap.size, 0, none⟩ = some (.int .i64 x.horizon) := KXW.out.cell 0
  have z1 : W.cell? ⟨w.heap.size, 1, none⟩ = some (.slice p.a1 x.stops.length p.c1) := KXW.out.cell 1
  have z2 : W.cell? ⟨w.heap.size, 2, none⟩ = some (.slice p.a2 x.paths.length p.c2) := KXW.out.cell 2
  have z3 : W.cell? ⟨w.heap.size, 3, none⟩ = some (.slice p.a3 x.doors.length p.c3) := KXW.out.cell 3
  have z4 : W.cell? ⟨w.heap.size, 4, none⟩ = some (.slice p.a4 x.routes.length p.c4) := KXW.out.cell 4
  have z5 : W.cell? ⟨w.heap.size, 5, none⟩ = some (.slice p.a5 x.trips.length p.c5) := KXW.out.cell 5
  have z6 : W.cell? ⟨w.heap.size, 6, none⟩ = some (.slice p.a6 x.hazards.length p.c6) := KXW.out.cell 6
  have hi0 := HI0.out
  go_wp2
  go_ret
  exact ⟨rfl, HBW.out⟩

set_option maxHeartbeats 4000000 in
theorem adds_none_s (x : SheetM) (p : ShA) (at_ : Int) (w : World) (hE : Tk.Env w) (h : Sh w (· < w.heap.size) x p) (hl : lightM x = true) (h0 : x.stops.length = 0) :
    Calls Tryd.prog 5 #[shV x p, .int .i64 at_, .bool false] w (TrueP w) := by
  have lx := lt_of hl
  have l1 := lx.l1
  have CV := Lib.hid (fun w' (hb : Below w.heap.size w w') => lives_any w' (hE.on hb))
  have CK := Lib.hid (fun w' (hb : Below w.heap.size w w') => light_any x p w' (h.later hb))
  rw [hl] at CK
  have CO := Lib.hid (fun w' (hb : Below w.heap.size w w') => own_sheet x p w' (h.later hb) lx.few)
  have HI0 : Hid (((x.stops.length : Int) == 0) = true) := Lib.hid (by rw [beq_iff_eq]; omega)
  clear hE h hl lx h0
  go_enter Tryd.func5, Tryd.ntmps5
  go_upto_region 6 with (first
    | (go_at_call 10; (with_reducible refine (CV.out _ (one_box _ _)).mono ?_); rintro e w1 ⟨rfl, hb⟩; have KS1 : Hid (Blk w1 w.heap.size 38 [.int .i64 x.horizon, .slice p.a1 x.stops.length p.c1, .slice p.a2 x.paths.length p.c2, .slice p.a3 x.doors.length p.c3, .slice p.a4 x.routes.length p.c4, .slice p.a5 x.trips.length p.c5, .slice p.a6 x.hazards.length p.c6]) := Lib.hid ((Blk.new w 38 [.int .i64 x.horizon, .slice p.a1 x.stops.length p.c1, .slice p.a2 x.paths.length p.c2, .slice p.a3 x.doors.length p.c3, .slice p.a4 x.routes.length p.c4, .slice p.a5 x.trips.length p.c5, .slice p.a6 x.hazards.length p.c6]).after hb); have Q1 := Lib.hid (keep_trans (one_box _ _) hb); have z0 : w1.cell? ⟨w.heap.size, 0, none⟩ = some (.int .i64 x.horizon) := KS1.out.cell 0; have z1 : w1.cell? ⟨w.heap.size, 1, none⟩ = some (.slice p.a1 x.stops.length p.c1) := KS1.out.cell 1; have z2 : w1.cell? ⟨w.heap.size, 2, none⟩ = some (.slice p.a2 x.paths.length p.c2) := KS1.out.cell 2; have z3 : w1.cell? ⟨w.heap.size, 3, none⟩ = some (.slice p.a3 x.doors.length p.c3) := KS1.out.cell 3; have z4 : w1.cell? ⟨w.heap.size, 4, none⟩ = some (.slice p.a4 x.routes.length p.c4) := KS1.out.cell 4; have z5 : w1.cell? ⟨w.heap.size, 5, none⟩ = some (.slice p.a5 x.trips.length p.c5) := KS1.out.cell 5; have z6 : w1.cell? ⟨w.heap.size, 6, none⟩ = some (.slice p.a6 x.hazards.length p.c6) := KS1.out.cell 6; clear hb)
    | (go_at_call 15; refine (CK.out _ Q1.out).mono ?_; rintro e w2 ⟨rfl, hb⟩; have KS2 := Lib.hid (KS1.out.after hb); have Q2 := Lib.hid (keep_trans Q1.out hb); have z0 : w2.cell? ⟨w.heap.size, 0, none⟩ = some (.int .i64 x.horizon) := KS2.out.cell 0; have z1 : w2.cell? ⟨w.heap.size, 1, none⟩ = some (.slice p.a1 x.stops.length p.c1) := KS2.out.cell 1; have z2 : w2.cell? ⟨w.heap.size, 2, none⟩ = some (.slice p.a2 x.paths.length p.c2) := KS2.out.cell 2; have z3 : w2.cell? ⟨w.heap.size, 3, none⟩ = some (.slice p.a3 x.doors.length p.c3) := KS2.out.cell 3; have z4 : w2.cell? ⟨w.heap.size, 4, none⟩ = some (.slice p.a4 x.routes.length p.c4) := KS2.out.cell 4; have z5 : w2.cell? ⟨w.heap.size, 5, none⟩ = some (.slice p.a5 x.trips.length p.c5) := KS2.out.cell 5; have z6 : w2.cell? ⟨w.heap.size, 6, none⟩ = some (.slice p.a6 x.hazards.length p.c6) := KS2.out.cell 6; clear hb)
    | (go_at_call 18; refine (CO.out _ Q2.out).mono ?_; rintro e w3 ⟨A1, A2, A3, A4, A5, A6, c1, c2, c3, c4, c5, c6, rfl, hos, hb⟩; have HOS := Lib.hid hos; have KS3 := Lib.hid (KS2.out.after hb); have Q3 := Lib.hid (keep_trans Q2.out hb); have HSZ3 := Lib.hid hb.size; have z0 : w3.cell? ⟨w.heap.size, 0, none⟩ = some (.int .i64 x.horizon) := KS3.out.cell 0; have z1 : w3.cell? ⟨w.heap.size, 1, none⟩ = some (.slice p.a1 x.stops.length p.c1) := KS3.out.cell 1; have z2 : w3.cell? ⟨w.heap.size, 2, none⟩ = some (.slice p.a2 x.paths.length p.c2) := KS3.out.cell 2; have z3 : w3.cell? ⟨w.heap.size, 3, none⟩ = some (.slice p.a3 x.doors.length p.c3) := KS3.out.cell 3; have z4 : w3.cell? ⟨w.heap.size, 4, none⟩ = some (.slice p.a4 x.routes.length p.c4) := KS3.out.cell 4; have z5 : w3.cell? ⟨w.heap.size, 5, none⟩ = some (.slice p.a5 x.trips.length p.c5) := KS3.out.cell 5; have z6 : w3.cell? ⟨w.heap.size, 6, none⟩ = some (.slice p.a6 x.hazards.length p.c6) := KS3.out.cell 6; clear hb hos)
    | fail)
  have KYW := Lib.hid (Blk.new w3 38 [.int .i64 x.horizon, .slice A1 x.stops.length c1, .slice A2 x.paths.length c2, .slice A3 x.doors.length c3, .slice A4 x.routes.length c4, .slice A5 x.trips.length c5, .slice A6 x.hazards.length c6])
  have KXW := Lib.hid (KS3.out.after (one_box w3 (.cells #[.int .i64 x.horizon, .slice A1 x.stops.length c1, .slice A2 x.paths.length c2, .slice A3 x.doors.length c3, .slice A4 x.routes.length c4, .slice A5 x.trips.length c5, .slice A6 x.hazards.length c6] 38)))
  have HBW := Lib.hid (keep_trans Q3.out (one_box w3 (.cells #[.int .i64 x.horizon, .slice A1 x.stops.length c1, .slice A2 x.paths.length c2, .slice A3 x.doors.length c3, .slice A4 x.routes.length c4, .slice A5 x.trips.length c5, .slice A6 x.hazards.length c6] 38)))
  have HOW := Lib.hid (HOS.out.imp fun s hs => hs.after (one_box w3 (.cells #[.int .i64 x.horizon, .slice A1 x.stops.length c1, .slice A2 x.paths.length c2, .slice A3 x.doors.length c3, .slice A4 x.routes.length c4, .slice A5 x.trips.length c5, .slice A6 x.hazards.length c6] 38)))
  have HB3W := Lib.hid (one_box w3 (.cells #[.int .i64 x.horizon, .slice A1 x.stops.length c1, .slice A2 x.paths.length c2, .slice A3 x.doors.length c3, .slice A4 x.routes.length c4, .slice A5 x.trips.length c5, .slice A6 x.hazards.length c6] 38))
  have HSZW : Hid (w.heap.size < w3.heap.size) := Lib.hid KS3.out.lt
  dsimp only [List.toArray] at KYW
  clear z0 z1 z2 z3 z4 z5 z6
  generalize w3.alloc (.cells #[.int .i64 x.horizon, .slice A1 x.stops.length c1, .slice A2 x.paths.length c2, .slice A3 x.doors.length c3, .slice A4 x.routes.length c4, .slice A5 x.trips.length c5, .slice A6 x.hazards.length c6] 38) = W at KYW KXW HBW HOW HB3W ⊢
  generalize w3.heap.size = n7 at KYW HSZW ⊢
  have z0 : W.cell? ⟨w.heap.size, 0, none⟩ = some (.int .i64 x.horizon) := KXW.out.cell 0
  have z1 : W.cell? ⟨w.heap.size, 1, none⟩ = some (.slice p.a1 x.stops.length p.c1) := KXW.out.cell 1
  have z2 : W.cell? ⟨w.heap.size, 2, none⟩ = some (.slice p.a2 x.paths.length p.c2) := KXW.out.cell 2
  have z3 : W.cell? ⟨w.heap.size, 3, none⟩ = some (.slice p.a3 x.doors.length p.c3) := KXW.out.cell 3
  have z4 : W.cell? ⟨w.heap.size, 4, none⟩ = some (.slice p.a4 x.routes.length p.c4) := KXW.out.cell 4
  have z5 : W.cell? ⟨w.heap.size, 5, none⟩ = some (.slice p.a5 x.trips.length p.c5) := KXW.out.cell 5
  have z6 : W.cell? ⟨w.heap.size, 6, none⟩ = some (.slice p.a6 x.hazards.length p.c6) := KXW.out.cell 6
  have hi0 := HI0.out
  go_wp2
  go_ret
  exact ⟨rfl, HBW.out⟩

set_option maxHeartbeats 16000000 in
theorem adds_trip (x : SheetM) (p : ShA) (at_ : Int) (w : World) (hE : Tk.Env w) (h : Sh w (· < w.heap.size) x p) (hl : lightM x = true) (h0 : x.trips.length ≠ 0) (hat : I64 at_) (hsz : ShS x) :
    Calls Tryd.prog 5 #[shV x p, .int .i64 at_, .bool true] w (TrueP w) := by
  have lx := lt_of hl
  have l1 := lx.l1
  have l2 := lx.l2
  have l3 := lx.l3
  have l4 := lx.l4
  have l5 := lx.l5
  have CV := Lib.hid (fun w' (hb : Below w.heap.size w w') => lives_any w' (hE.on hb))
  have CK := Lib.hid (fun w' (hb : Below w.heap.size w w') => light_any x p w' (h.later hb))
  rw [hl] at CK
  have CO := Lib.hid (fun w' (hb : Below w.heap.size w w') => own_sheet x p w' (h.later hb) lx.few)
  have HI0 : Hid (((x.trips.length : Int) == 0) = false) := Lib.hid (by rw [beq_eq_false_iff_ne]; omega)
  have hpos : 1 ≤ x.trips.length := by omega
  have HH := Lib.hid h
  have HE := Lib.hid hE
  have HLT := Lib.hid lx
  have HSS := Lib.hid hsz
  have CPK := Lib.hid (fun w' => pick_any at_ x.trips.length w' hat.1 hat.2 (by omega) (by omega))
  obtain ⟨ad, had⟩ : ∃ ad, p.a5 = some ad := by
    obtain ⟨ad, e, _⟩ := h.r5 (by rw [cs_length trC 5 (fun _ => rfl)]; omega)
    exact ⟨ad, e⟩
  have HAD := Lib.hid had
  clear hE h hl lx h0 hsz had
  go_enter Tryd.func5, Tryd.ntmps5
  go_upto_region 6 with (first
    | (go_at_call 10; (with_reducible refine (CV.out _ (one_box _ _)).mono ?_); rintro e w1 ⟨rfl, hb⟩; have KS1 : Hid (Blk w1 w.heap.size 38 [.int .i64 x.horizon, .slice p.a1 x.stops.length p.c1, .slice p.a2 x.paths.length p.c2, .slice p.a3 x.doors.length p.c3, .slice p.a4 x.routes.length p.c4, .slice p.a5 x.trips.length p.c5, .slice p.a6 x.hazards.length p.c6]) := Lib.hid ((Blk.new w 38 [.int .i64 x.horizon, .slice p.a1 x.stops.length p.c1, .slice p.a2 x.paths.length p.c2, .slice p.a3 x.doors.length p.c3, .slice p.a4 x.routes.length p.c4, .slice p.a5 x.trips.length p.c5, .slice p.a6 x.hazards.length p.c6]).after hb); have Q1 := Lib.hid (keep_trans (one_box _ _) hb); have z0 : w1.cell? ⟨w.heap.size, 0, none⟩ = some (.int .i64 x.horizon) := KS1.out.cell 0; have z1 : w1.cell? ⟨w.heap.size, 1, none⟩ = some (.slice p.a1 x.stops.length p.c1) := KS1.out.cell 1; have z2 : w1.cell? ⟨w.heap.size, 2, none⟩ = some (.slice p.a2 x.paths.length p.c2) := KS1.out.cell 2; have z3 : w1.cell? ⟨w.heap.size, 3, none⟩ = some (.slice p.a3 x.doors.length p.c3) := KS1.out.cell 3; have z4 : w1.cell? ⟨w.heap.size, 4, none⟩ = some (.slice p.a4 x.routes.length p.c4) := KS1.out.cell 4; have z5 : w1.cell? ⟨w.heap.size, 5, none⟩ = some (.slice p.a5 x.trips.length p.c5) := KS1.out.cell 5; have z6 : w1.cell? ⟨w.heap.size, 6, none⟩ = some (.slice p.a6 x.hazards.length p.c6) := KS1.out.cell 6; clear hb)
    | (go_at_call 15; refine (CK.out _ Q1.out).mono ?_; rintro e w2 ⟨rfl, hb⟩; have KS2 := Lib.hid (KS1.out.after hb); have Q2 := Lib.hid (keep_trans Q1.out hb); have z0 : w2.cell? ⟨w.heap.size, 0, none⟩ = some (.int .i64 x.horizon) := KS2.out.cell 0; have z1 : w2.cell? ⟨w.heap.size, 1, none⟩ = some (.slice p.a1 x.stops.length p.c1) := KS2.out.cell 1; have z2 : w2.cell? ⟨w.heap.size, 2, none⟩ = some (.slice p.a2 x.paths.length p.c2) := KS2.out.cell 2; have z3 : w2.cell? ⟨w.heap.size, 3, none⟩ = some (.slice p.a3 x.doors.length p.c3) := KS2.out.cell 3; have z4 : w2.cell? ⟨w.heap.size, 4, none⟩ = some (.slice p.a4 x.routes.length p.c4) := KS2.out.cell 4; have z5 : w2.cell? ⟨w.heap.size, 5, none⟩ = some (.slice p.a5 x.trips.length p.c5) := KS2.out.cell 5; have z6 : w2.cell? ⟨w.heap.size, 6, none⟩ = some (.slice p.a6 x.hazards.length p.c6) := KS2.out.cell 6; clear hb)
    | (go_at_call 18; refine (CO.out _ Q2.out).mono ?_; rintro e w3 ⟨A1, A2, A3, A4, A5, A6, c1, c2, c3, c4, c5, c6, rfl, hos, hb⟩; have HOS := Lib.hid hos; have KS3 := Lib.hid (KS2.out.after hb); have Q3 := Lib.hid (keep_trans Q2.out hb); have HSZ3 := Lib.hid hb.size; have z0 : w3.cell? ⟨w.heap.size, 0, none⟩ = some (.int .i64 x.horizon) := KS3.out.cell 0; have z1 : w3.cell? ⟨w.heap.size, 1, none⟩ = some (.slice p.a1 x.stops.length p.c1) := KS3.out.cell 1; have z2 : w3.cell? ⟨w.heap.size, 2, none⟩ = some (.slice p.a2 x.paths.length p.c2) := KS3.out.cell 2; have z3 : w3.cell? ⟨w.heap.size, 3, none⟩ = some (.slice p.a3 x.doors.length p.c3) := KS3.out.cell 3; have z4 : w3.cell? ⟨w.heap.size, 4, none⟩ = some (.slice p.a4 x.routes.length p.c4) := KS3.out.cell 4; have z5 : w3.cell? ⟨w.heap.size, 5, none⟩ = some (.slice p.a5 x.trips.length p.c5) := KS3.out.cell 5; have z6 : w3.cell? ⟨w.heap.size, 6, none⟩ = some (.slice p.a6 x.hazards.length p.c6) := KS3.out.cell 6; clear hb hos)
    | fail)
  have KYW := Lib.hid (Blk.new w3 38 [.int .i64 x.horizon, .slice A1 x.stops.length c1, .slice A2 x.paths.length c2, .slice A3 x.doors.length c3, .slice A4 x.routes.length c4, .slice A5 x.trips.length c5, .slice A6 x.hazards.length c6])
  have KXW := Lib.hid (KS3.out.after (one_box w3 (.cells #[.int .i64 x.horizon, .slice A1 x.stops.length c1, .slice A2 x.paths.length c2, .slice A3 x.doors.length c3, .slice A4 x.routes.length c4, .slice A5 x.trips.length c5, .slice A6 x.hazards.length c6] 38)))
  have HBW := Lib.hid (keep_trans Q3.out (one_box w3 (.cells #[.int .i64 x.horizon, .slice A1 x.stops.length c1, .slice A2 x.paths.length c2, .slice A3 x.doors.length c3, .slice A4 x.routes.length c4, .slice A5 x.trips.length c5, .slice A6 x.hazards.length c6] 38)))
  have HOW := Lib.hid (HOS.out.imp fun s hs => hs.after (one_box w3 (.cells #[.int .i64 x.horizon, .slice A1 x.stops.length c1, .slice A2 x.paths.length c2, .slice A3 x.doors.length c3, .slice A4 x.routes.length c4, .slice A5 x.trips.length c5, .slice A6 x.hazards.length c6] 38)))
  have HB3W := Lib.hid (one_box w3 (.cells #[.int .i64 x.horizon, .slice A1 x.stops.length c1, .slice A2 x.paths.length c2, .slice A3 x.doors.length c3, .slice A4 x.routes.length c4, .slice A5 x.trips.length c5, .slice A6 x.hazards.length c6] 38))
  have HSZW : Hid (w.heap.size < w3.heap.size) := Lib.hid KS3.out.lt
  dsimp only [List.toArray] at KYW
  clear z0 z1 z2 z3 z4 z5 z6
  generalize w3.alloc (.cells #[.int .i64 x.horizon, .slice A1 x.stops.length c1, .slice A2 x.paths.length c2, .slice A3 x.doors.length c3, .slice A4 x.routes.length c4, .slice A5 x.trips.length c5, .slice A6 x.hazards.length c6] 38) = W at KYW KXW HBW HOW HB3W ⊢
  obtain ⟨n7, hn7⟩ : ∃ n, n = w3.heap.size := ⟨_, rfl⟩
  rw [← hn7] at KYW HSZW ⊢
  have HN7 := Lib.hid hn7
  clear hn7
  have z0 : W.cell? ⟨w.heap.size, 0, none⟩ = some (.int .i64 x.horizon) := KXW.out.cell 0
  have z1 : W.cell? ⟨w.heap.size, 1, none⟩ = some (.slice p.a1 x.stops.length p.c1) := KXW.out.cell 1
  have z2 : W.cell? ⟨w.heap.size, 2, none⟩ = some (.slice p.a2 x.paths.length p.c2) := KXW.out.cell 2
  have z3 : W.cell? ⟨w.heap.size, 3, none⟩ = some (.slice p.a3 x.doors.length p.c3) := KXW.out.cell 3
  have z4 : W.cell? ⟨w.heap.size, 4, none⟩ = some (.slice p.a4 x.routes.length p.c4) := KXW.out.cell 4
  have z5 : W.cell? ⟨w.heap.size, 5, none⟩ = some (.slice p.a5 x.trips.length p.c5) := KXW.out.cell 5
  have z6 : W.cell? ⟨w.heap.size, 6, none⟩ = some (.slice p.a6 x.hazards.length p.c6) := KXW.out.cell 6
  have hi0 := HI0.out
  go_upto_region 10 with (fail)
  have HHW := Lib.hid (HH.out.later HBW.out)
  clear z5
  have z5 : W.cell? ⟨w.heap.size, 5, none⟩ = some (.slice (some ad) x.trips.length p.c5) := by rw [← HAD.out]; exact KXW.out.cell 5
  have z5' : ∀ o, (W.alloc o).cell? ⟨w.heap.size, 5, none⟩ = some (.slice (some ad) x.trips.length p.c5) := fun o => by rw [← HAD.out]; exact (KXW.out.alloc o).cell 5
  have HRD : Hid (Rd W (· < W.heap.size) (some ad) (cs trC x.trips)) := Lib.hid (by rw [← HAD.out]; exact HHW.out.r5)
  obtain ⟨m5, hm5⟩ : ∃ m, m = x.trips.length := ⟨_, rfl⟩
  have HM5 := Lib.hid hm5
  rw [← hm5] at z5 hi0 hpos l5 CPK
  simp only [← hm5] at z5'
  clear hm5
  go_cut [10] (fun s10 wx => ∃ (b : Nat) (t : TripM), s10 = .pointer (some ⟨b, 0, none⟩) ∧ Hid (t ∈ x.trips) ∧ Hid (Blk wx b 50 (trC t)) ∧ Hid (Below W.heap.size W wx) ∧ Hid (W.heap.size ≤ b))
  case first =>
    go_region_law (first
      | (go_simp; go_at_call 19; refine (CPK.out _).mono ?_; rintro e wq ⟨r, rfl, hr, rfl⟩; have hrr := hr.out; have hrn : r < m5 := (by omega); obtain ⟨t, ht⟩ : ∃ t, x.trips[r]? = some t := ⟨_, List.getElem?_eq_getElem (by rw [← HM5.out]; exact hrn)⟩; have HT := Lib.hid (List.mem_of_getElem? ht); obtain ⟨ad', had', hS', a0, haj⟩ := rd_at 5 (fun _ => rfl) (by omega) HRD.out ht; cases had'; have a1 : W.cell? ⟨(ad.add (r * 5)).block, (ad.add (r * 5)).off + 1, none⟩ = some (.string ⟨t.route.toArray⟩) := (haj 1 (by omega)).resolve_right (by omega); have a2 : W.cell? ⟨(ad.add (r * 5)).block, (ad.add (r * 5)).off + 2, none⟩ = some (.int .i64 t.frm) := (haj 2 (by omega)).resolve_right (by omega); have a3 : W.cell? ⟨(ad.add (r * 5)).block, (ad.add (r * 5)).off + 3, none⟩ = some (.int .i64 t.every) := (haj 3 (by omega)).resolve_right (by omega); have a4 : W.cell? ⟨(ad.add (r * 5)).block, (ad.add (r * 5)).off + 4, none⟩ = some (.int .i64 t.til) := (haj 4 (by omega)).resolve_right (by omega); have a00 : W.cell? (ad.add (r * 5)) = some (.string ⟨t.name.toArray⟩) := a0; have hadb : (ad.add (r * 5)).block < W.heap.size := (by have hh : ad.block < W.heap.size := (by have hh := hS'; simpa using hh); unfold Addr.add; split <;> exact hh); have b0 : ∀ o, (W.alloc o).cell? (ad.add (r * 5)) = some (.string ⟨t.name.toArray⟩) := (fun o => (Below.cell (one_box W o) (p := ad.add (r * 5)) hadb).trans a00); have b1 : ∀ o, (W.alloc o).cell? ⟨(ad.add (r * 5)).block, (ad.add (r * 5)).off + 1, none⟩ = some (.string ⟨t.route.toArray⟩) := (fun o => (Below.cell (one_box W o) (p := ⟨(ad.add (r * 5)).block, (ad.add (r * 5)).off + 1, none⟩) hadb).trans a1); have b2 : ∀ o, (W.alloc o).cell? ⟨(ad.add (r * 5)).block, (ad.add (r * 5)).off + 2, none⟩ = some (.int .i64 t.frm) := (fun o => (Below.cell (one_box W o) (p := ⟨(ad.add (r * 5)).block, (ad.add (r * 5)).off + 2, none⟩) hadb).trans a2); have b3 : ∀ o, (W.alloc o).cell? ⟨(ad.add (r * 5)).block, (ad.add (r * 5)).off + 3, none⟩ = some (.int .i64 t.every) := (fun o => (Below.cell (one_box W o) (p := ⟨(ad.add (r * 5)).block, (ad.add (r * 5)).off + 3, none⟩) hadb).trans a3); have b4 : ∀ o, (W.alloc o).cell? ⟨(ad.add (r * 5)).block, (ad.add (r * 5)).off + 4, none⟩ = some (.int .i64 t.til) := (fun o => (Below.cell (one_box W o) (p := ⟨(ad.add (r * 5)).block, (ad.add (r * 5)).off + 4, none⟩) hadb).trans a4); clear haj ht a0 hr)
      | fail)
    all_goals
      go_wp2_with fail
      go_meet
      exact ⟨W.heap.size, t, rfl, HT, Lib.hid (blk_drew (Blk.new W _ _)), Lib.hid (below_drew (one_box W _)), Lib.hid (Nat.le_refl _)⟩
  case rest =>
    obtain ⟨b, t, rfl, HT, HBT, HBC, HBL⟩ := hcut
    obtain ⟨s, hos⟩ := HOS.out
    have HOS3 := Lib.hid hos
    have HB3C := Lib.hid (keep_trans HB3W.out HBC.out)
    have HOC := Lib.hid (hos.after HB3C.out)
    have KYC := Lib.hid (KYW.out.after HBC.out)
    have KXC := Lib.hid (KXW.out.after HBC.out)
    have HBWC := Lib.hid (keep_trans HBW.out HBC.out)
    have HN2 : Hid (w.heap.size < w2.heap.size ∧ w2.heap.size ≤ w3.heap.size) := Lib.hid ⟨KS2.out.lt, HSZ3.out⟩
    have h7c : n7 < wc.heap.size := KYC.out.lt
    have h7b : n7 ≠ b := by have := KYW.out.lt; have := HBL.out; omega
    have hbx : w.heap.size ≠ b := by have := HSZW.out; have := KYW.out.lt; have := HBL.out; omega
    have OV : Hid (wc.ownsRow (w2.heap.size + 1 + 1) 50 5 (.slice A5 m5 c5) m5 (cs trC x.trips)) := Lib.hid (by rw [HM5.out]; exact HOC.out.r5)
    clear hos z0 z1 z2 z3 z4 z5 z6 z5'
    have y0 : wc.cell? ⟨b, 0, none⟩ = some (.string ⟨t.name.toArray⟩) := HBT.out.cell 0
    have y1 : wc.cell? ⟨b, 1, none⟩ = some (.string ⟨t.route.toArray⟩) := HBT.out.cell 1
    have y2 : wc.cell? ⟨b, 2, none⟩ = some (.int .i64 t.frm) := HBT.out.cell 2
    have y3 : wc.cell? ⟨b, 3, none⟩ = some (.int .i64 t.every) := HBT.out.cell 3
    have y4 : wc.cell? ⟨b, 4, none⟩ = some (.int .i64 t.til) := HBT.out.cell 4
    have k5 : wc.cell? ⟨n7, 5, none⟩ = some (.slice A5 m5 c5) := by rw [HM5.out]; exact KYC.out.cell 5
    go_upto_region 11 with (fail)
    refine wp_region_list ?_
    simp only []
    iterate 4 (refine wpList_plain rfl (fun K hK => ?_); go_simp; refine hK _ _ ?_; clear hK K)
    refine wpList_append_ch rfl (.tmp 42) (.tmp 44) 35 rfl (w2.heap.size + 1 + 1) 50 _ 5 56 Tryd.underlying35 info_Trip rfl (by omega) (by omega) (.slice A5 m5 c5) m5 (cs trC x.trips) rfl (OV.out.alloc _) _ _ 1 1 [.string ⟨t.name.toArray⟩, .string ⟨t.route.toArray⟩, .int .i64 t.frm, .int .i64 t.every, .int .i64 t.til] rfl rfl (lit_at _ _ _ _ _ (by simp) rfl) (by simp [Value.oneCell']) (by omega) (by have := HN2.out; have := HSZW.out; have := HN7.out; simp; omega) ?_
    intro v' w6 hown hg hob
    obtain ⟨A', c', rfl, -, -⟩ := own_form hown.out
    have KY6 := Lib.hid (Blk.grown (KYC.out.alloc _) hg.out (fun e => own_ne_blk OV.out KYC.out (by decide) n7 e.symm rfl))
    have k6 : w6.cell? ⟨n7, 5, none⟩ = some (.slice A5 x.trips.length c5) := KY6.out.cell 5
    have f6 : w6.frozen? ⟨n7, 5, none⟩ = false := KY6.out.frozen 5
    go_upto_region 12 with (fail)
    obtain ⟨wf, hwf⟩ : ∃ wf, wf = w6.setCell ⟨n7, 5, none⟩ (.slice A' (m5 + 1) c') := ⟨_, rfl⟩
    have HALL := Lib.hid (shT_of (t := t) (A' := A') (c' := c') (n := m5) (Wo := wc.alloc (.cells #[.string ⟨t.name.toArray⟩, .string ⟨t.route.toArray⟩, .int .i64 t.frm, .int .i64 t.every, .int .i64 t.til] 50)) HOS3.out HN7.out (keep_trans HB3C.out (one_box _ _)) (by simp; omega) (by rw [← HM5.out]; exact hg.out) hown.out (by rw [← HM5.out]; exact hob.out) HM5.out hwf)
    have KYF : Hid (Blk wf n7 38 [.int .i64 x.horizon, .slice A1 x.stops.length c1, .slice A2 x.paths.length c2, .slice A3 x.doors.length c3, .slice A4 x.routes.length c4, .slice A' (m5 + 1) c', .slice A6 x.hazards.length c6]) := Lib.hid (by rw [hwf]; exact KY6.out.set_ 5 _)
    rw [← hwf]
    clear hwf k5 k6 f6 y0 y1 y2 y3 y4
    have HCF : Hid (Ch (fun k => k = n7 ∨ some k = (Value.slice A5 x.trips.length c5).ownBlock) wc wf) := Lib.hid ((Ch.of_below (one_box wc (.cells #[.string ⟨t.name.toArray⟩, .string ⟨t.route.toArray⟩, .int .i64 t.frm, .int .i64 t.every, .int .i64 t.til] 50))).trans' HALL.out.2 (fun k hk e => e))
    have hown5 : ∀ k, (Value.slice A5 x.trips.length c5).ownBlock = some k → w2.heap.size + 1 < k ∧ k < n7 := fun k hk => by
      have := HOS3.out.r5.lt k hk; have := HN7.out; omega
    have KXF := Lib.hid (HCF.out.blk KXC.out (by
      rintro (e | e)
      · have := HSZW.out; omega
      · have := hown5 _ e.symm; have := HN2.out; omega))
    have KBF := Lib.hid (HCF.out.blk HBT.out (by
      rintro (e | e)
      · exact h7b e.symm
      · have := hown5 _ e.symm; have := KYW.out.lt; have := HBL.out; omega))
    have HBF : Hid (Below w.heap.size w wf) := Lib.hid (HBWC.out.trans (HCF.out.below HBWC.out.size fun k hk => by
      rcases hk with e | e
      · have := HSZW.out; omega
      · have := hown5 _ e.symm; have := HN2.out; omega))
    have HSHY := Lib.hid HALL.out.1
    clear HALL HCF hown5 hown hg hob KY6 KYC KXC OV HOC HBT
    have z0 : wf.cell? ⟨w.heap.size, 0, none⟩ = some (.int .i64 x.horizon) := KXF.out.cell 0
    have z1 : wf.cell? ⟨w.heap.size, 1, none⟩ = some (.slice p.a1 x.stops.length p.c1) := KXF.out.cell 1
    have z2 : wf.cell? ⟨w.heap.size, 2, none⟩ = some (.slice p.a2 x.paths.length p.c2) := KXF.out.cell 2
    have z3 : wf.cell? ⟨w.heap.size, 3, none⟩ = some (.slice p.a3 x.doors.length p.c3) := KXF.out.cell 3
    have z4 : wf.cell? ⟨w.heap.size, 4, none⟩ = some (.slice p.a4 x.routes.length p.c4) := KXF.out.cell 4
    have z5 : wf.cell? ⟨w.heap.size, 5, none⟩ = some (.slice p.a5 x.trips.length p.c5) := KXF.out.cell 5
    have z6 : wf.cell? ⟨w.heap.size, 6, none⟩ = some (.slice p.a6 x.hazards.length p.c6) := KXF.out.cell 6
    have v0 : wf.cell? ⟨b, 0, none⟩ = some (.string ⟨t.name.toArray⟩) := KBF.out.cell 0
    have v1 : wf.cell? ⟨b, 1, none⟩ = some (.string ⟨t.route.toArray⟩) := KBF.out.cell 1
    have v2 : wf.cell? ⟨b, 2, none⟩ = some (.int .i64 t.frm) := KBF.out.cell 2
    have v3 : wf.cell? ⟨b, 3, none⟩ = some (.int .i64 t.every) := KBF.out.cell 3
    have v4 : wf.cell? ⟨b, 4, none⟩ = some (.int .i64 t.til) := KBF.out.cell 4
    have CTR : Hid (Calls Tryd.prog 12 #[.agg #[.string ⟨t.name.toArray⟩, .string ⟨t.route.toArray⟩, .int .i64 t.frm, .int .i64 t.every, .int .i64 t.til]] wf (TextPost wf (tripX t))) := Lib.hid (trip_any t wf (HE.out.on HBF.out) (HSS.out.t t HT.out).2.2 (trip_len (HSS.out.t t HT.out)))
    have l5b : x.trips.length ≤ 60 := by rw [← HM5.out]; exact l5
    go_cut [8] from 47 to 66 (fun s8 wx => s8 = .int .i64 ((placeT x : Nat) : Int) ∧ wx = wf)
    case first =>
      go_wp2_with fail
      go_meet
      exact ⟨by simp [placeT], rfl⟩
    case rest =>
      obtain ⟨rfl, hwx⟩ := hcut
      rw [hwx]
      clear hwx
      obtain ⟨LN, hLN⟩ : ∃ l, l = tripX t := ⟨_, rfl⟩
      have HLN := Lib.hid hLN
      rw [← hLN] at CTR
      clear hLN
      obtain ⟨P, hP⟩ : ∃ l, l = placeT x := ⟨_, rfl⟩
      have HP := Lib.hid hP
      have hP400 : P ≤ 400 := by have := HLT.out.l1; have := HLT.out.l2; have := HLT.out.l3; have := HLT.out.l4; have := HLT.out.l5; rw [hP]; unfold placeT; omega
      rw [← hP]
      clear hP z0 z1 z2 z3 z4 z5 z6
      go_upto_region 19 with (first
        | (go_at_call 12; (refine CTR.out.mono ?_); rintro e wt ⟨rfl, hbt⟩; have HBt := Lib.hid hbt; clear hbt)
        | fail)
      clear v0 v1 v2 v3 v4
      have KXT := Lib.hid (KXF.out.after HBt.out)
      have KYT := Lib.hid (KYF.out.after HBt.out)
      have HSYT := Lib.hid (HSHY.out.later HBt.out)
      have HBWT := Lib.hid (keep_trans HBF.out HBt.out)
      have HSXT := Lib.hid (HH.out.later HBWT.out)
      have z0 : wt.cell? ⟨w.heap.size, 0, none⟩ = some (.int .i64 x.horizon) := KXT.out.cell 0
      have z1 : wt.cell? ⟨w.heap.size, 1, none⟩ = some (.slice p.a1 x.stops.length p.c1) := KXT.out.cell 1
      have z2 : wt.cell? ⟨w.heap.size, 2, none⟩ = some (.slice p.a2 x.paths.length p.c2) := KXT.out.cell 2
      have z3 : wt.cell? ⟨w.heap.size, 3, none⟩ = some (.slice p.a3 x.doors.length p.c3) := KXT.out.cell 3
      have z4 : wt.cell? ⟨w.heap.size, 4, none⟩ = some (.slice p.a4 x.routes.length p.c4) := KXT.out.cell 4
      have z5 : wt.cell? ⟨w.heap.size, 5, none⟩ = some (.slice p.a5 x.trips.length p.c5) := KXT.out.cell 5
      have z6 : wt.cell? ⟨w.heap.size, 6, none⟩ = some (.slice p.a6 x.hazards.length p.c6) := KXT.out.cell 6
      have y0 : wt.cell? ⟨n7, 0, none⟩ = some (.int .i64 x.horizon) := KYT.out.cell 0
      have y1 : wt.cell? ⟨n7, 1, none⟩ = some (.slice A1 x.stops.length c1) := KYT.out.cell 1
      have y2 : wt.cell? ⟨n7, 2, none⟩ = some (.slice A2 x.paths.length c2) := KYT.out.cell 2
      have y3 : wt.cell? ⟨n7, 3, none⟩ = some (.slice A3 x.doors.length c3) := KYT.out.cell 3
      have y4 : wt.cell? ⟨n7, 4, none⟩ = some (.slice A4 x.routes.length c4) := KYT.out.cell 4
      have y5 : wt.cell? ⟨n7, 5, none⟩ = some (.slice A' (m5 + 1) c') := KYT.out.cell 5
      have y6 : wt.cell? ⟨n7, 6, none⟩ = some (.slice A6 x.hazards.length c6) := KYT.out.cell 6
      by_cases hc : checkM x = 0
      · have hd : checkM (addT x t) = 0 := by rw [check_addT HLT.out HT.out]; exact hc
        have CLX : Hid (Calls Tryd.prog 9 #[.agg #[.int .i64 x.horizon, .slice p.a1 x.stops.length p.c1, .slice p.a2 x.paths.length p.c2, .slice p.a3 x.doors.length p.c3, .slice p.a4 x.routes.length p.c4, .slice p.a5 x.trips.length p.c5, .slice p.a6 x.hazards.length p.c6]] wt (LinesPost wt (linesT x))) := Lib.hid (lines_may x p wt HSXT.out (may_of hc) (HE.out.on HBWT.out))
        have CLY : Hid (∀ w', Below wt.heap.size wt w' → Calls Tryd.prog 9 #[.agg #[.int .i64 x.horizon, .slice A1 x.stops.length c1, .slice A2 x.paths.length c2, .slice A3 x.doors.length c3, .slice A4 x.routes.length c4, .slice A' (m5 + 1) c', .slice A6 x.hazards.length c6]] w' (LinesPost w' (linesT (addT x t)))) := Lib.hid (fun w' hb => by
          have hh := lines_may (addT x t) _ w' (HSYT.out.later hb) (may_of hd) (HE.out.on (keep_trans HBWT.out hb))
          have e : (addT x t).trips.length = m5 + 1 := by rw [HM5.out]; simp [addT]
          have e2 : shV (addT x t) ⟨A1, A2, A3, A4, A', A6, c1, c2, c3, c4, c', c6⟩ = .agg #[.int .i64 x.horizon, .slice A1 x.stops.length c1, .slice A2 x.paths.length c2, .slice A3 x.doors.length c3, .slice A4 x.routes.length c4, .slice A' (m5 + 1) c', .slice A6 x.hazards.length c6] := by
            show Value.agg #[.int .i64 x.horizon, .slice A1 x.stops.length c1, .slice A2 x.paths.length c2, .slice A3 x.doors.length c3, .slice A4 x.routes.length c4, .slice A' (addT x t).trips.length c', .slice A6 x.hazards.length c6] = _
            rw [e]
          rw [e2] at hh
          exact hh)
        have HADD : Hid (linesT (addT x t) = (linesT x).take P ++ ([LN] ++ (linesT x).drop P)) := Lib.hid (by rw [HLN.out, HP.out, trip_line (List.all_eq_true.1 (may_of hc).b5 t HT.out)]; exact adds_T x t)
        have HPL : Hid (P ≤ (linesT x).length) := Lib.hid (by rw [HP.out]; exact placeT_le x)
        have HL400 : Hid ((linesT x).length ≤ 400) := Lib.hid (by rw [lines_len]; have := HLT.out.l6; have := HP.out; have h400 := HLT.out; have := h400.l1; have := h400.l2; have := h400.l3; have := h400.l4; have := h400.l5; unfold placeT; omega)
        clear hc hd
        go_upto_region 25 with (first
          | (go_at_call 9; (refine (CLY.out _ HB19.out).mono ?_); rintro e w20 ⟨Am, nm, cm, hnm, rfl, hcapm, hrdm, hb⟩; have hmm : nm = nl + 1 := (by rw [hnm, HADD.out, HNL.out]; have := HPL.out; simp; omega); subst hmm; have HRM := Lib.hid hrdm; have HRL2 := Lib.hid ((HRL.out.more fun b hb => hb.2).below hb |>.more fun b h1 => Nat.lt_of_lt_of_le h1 hb.size); have HB20 := Lib.hid (keep_trans HB19.out hb); have HCM := Lib.hid hcapm; clear hb hnm hrdm hcapm)
          | (go_at_call 9; (refine CLX.out.mono ?_); rintro e w19 ⟨Al, nl, cl, hnl, rfl, hcap, hrd, hb⟩; have HB19 := Lib.hid hb; have HNL := Lib.hid hnl; have HRL := Lib.hid hrd; have hPn : P ≤ nl := (by rw [hnl]; exact HPL.out); have hn400 : nl ≤ 400 := (by rw [hnl]; exact HL400.out); have gP : ¬ (nl : Int) < (P : Int) := (by omega); have HCAP := Lib.hid hcap; have KY19 := Lib.hid (KYT.out.after hb); clear hb hnl hrd y0 y1 y2 y3 y4 y5 y6; have y0 : w19.cell? ⟨n7, 0, none⟩ = some (.int .i64 x.horizon) := KY19.out.cell 0; have y1 : w19.cell? ⟨n7, 1, none⟩ = some (.slice A1 x.stops.length c1) := KY19.out.cell 1; have y2 : w19.cell? ⟨n7, 2, none⟩ = some (.slice A2 x.paths.length c2) := KY19.out.cell 2; have y3 : w19.cell? ⟨n7, 3, none⟩ = some (.slice A3 x.doors.length c3) := KY19.out.cell 3; have y4 : w19.cell? ⟨n7, 4, none⟩ = some (.slice A4 x.routes.length c4) := KY19.out.cell 4; have y5 : w19.cell? ⟨n7, 5, none⟩ = some (.slice A' (m5 + 1) c') := KY19.out.cell 5; have y6 : w19.cell? ⟨n7, 6, none⟩ = some (.slice A6 x.hazards.length c6) := KY19.out.cell 6)
          | fail)
        have hp0 : (0 : Int) ≤ (P : Int) := by omega
        have hp1 : (P : Int) ≤ (nl : Int) := by omega
        have hnc : nl ≤ cl := HCAP.out
        have hp2 : (P : Int) ≤ (cl : Int) := by omega
        obtain ⟨LL, hLL⟩ : ∃ l, l = linesT x := ⟨_, rfl⟩
        rw [← hLL] at HRL2 HADD HNL
        clear hLL
        have HTP : Hid ((LL.take P).length = P) := Lib.hid (by rw [List.length_take, ← HNL.out]; omega)
        have COW : Hid (∀ w', Below w20.heap.size w20 w' → Calls Tryd.prog 21 #[.slice Al P cl] w' (NewRow w' 9 1 (cs strC (LL.take P)) P)) := Lib.hid (fun w' hb => own_str w' Al P cl (LL.take P) (Lib.hid HTP.out.symm) (by omega) (by rw [cs_take_s]; exact (rd_later HRL2.out hb).take P))
        have h2020 : w20.heap.size ≤ w20.heap.size := Nat.le_refl _
        have HDL : Hid ((cs strC (LL.drop P)).length = (nl - P) * 1) := Lib.hid (by rw [cs_length strC 1 (fun _ => rfl), List.length_drop, ← HNL.out])
        have HRDD : Hid (Rd w20 (· < w20.heap.size) (if cl = P then Al else Option.map (fun x => x.add P) Al) (cs strC (LL.drop P))) := Lib.hid (by
          rw [cs_drop_s]
          exact HRL2.out.drop (c := cl = P) (fun hlt e => by rw [cs_length strC 1 (fun _ => rfl), ← HNL.out] at hlt; omega))
        have h1s : ∀ u ∈ cs strC (LL.drop P), u.oneCell' = true := cs_each str_one _
        have hq : nl - P ≤ 400 := by omega
        have HEQ : Hid (nl + 1 = P + 1 + (nl - P)) := Lib.hid (by omega)
        have HLY : Hid (nl + 1 = (linesT (addT x t)).length) := Lib.hid (by rw [HADD.out, HNL.out]; have := HPL.out; simp; omega)
        go_region_law (first
          | (go_simp; go_at_call 20; refine (same_str2 _ Am Ab (nl + 1) (P + 1 + (nl - P)) cm cb (linesT (addT x t)) HLY (Lib.hid (HEQ.out.symm.trans HLY.out)) (by omega) (rd_later (HRM.out.more fun b hb => hb.2) HBB0.out) HRB.out).mono ?_; rintro e ws ⟨rfl, hb⟩; have HBS := Lib.hid (keep_trans HBB.out hb); clear hb)
          | (refine step_append_g (by rfl) (.tmp 139) (.tmp 142) 22 (by rfl) w20.heap.size 9 _ 1 16 Tryd.underlying22 info_Str rfl (by omega) (by omega) _ (P + 1) (cs strC (LL.take P) ++ [.string ⟨LN.toArray⟩]) (by rfl) (Lib.hid (own_after hown1.out (by repeat (first | exact Below.refl _ _ | exact one_box _ _ | refine below_drewN ?_ _ | refine below_drew ?_ | refine Below.alloc ?_ (by first | omega | (simp; done) | (simp; omega)) _)))) _ _ (nl - P) _ (cs strC (LL.drop P)) (by rfl) HDL (Lib.hid (rd_later HRDD.out (HBA.out.trans (by repeat (first | exact Below.refl _ _ | exact one_box _ _ | refine below_drewN ?_ _ | refine below_drew ?_ | refine Below.alloc ?_ (by first | omega | (simp; done) | (simp; omega)) _))))) h1s (by omega) (by first | omega | (have := HBA.out.size; simp; omega) | exact HBA.out.size) ?_; intro v2 wb hown2 hg2 hob2; obtain ⟨Ab, cb, rfl, -, -⟩ := own_form hown2.out; have HBB : Hid (Below w20.heap.size w20 wb) := Lib.hid (HBA.out.trans (Below.grown (by repeat (first | exact Below.refl _ _ | exact one_box _ _ | refine below_drewN ?_ _ | refine below_drew ?_ | refine Below.alloc ?_ (by first | omega | (simp; done) | (simp; omega)) _)) hg2.out HBA.out.size (fun k hk => (hown1.out.lt k hk).1))); have HBB0 := HBB; have HRB : Hid (Rd wb (· < wb.heap.size) Ab (cs strC (linesT (addT x t)))) := Lib.hid (by rw [HADD.out, cs_append, cs_append, cs_one, ← List.append_assoc]; exact (own_rd' hown2.out).more fun b hb => hb.2))
          | (refine step_append_g (by rfl) (.tmp 136) (.tmp 138) 22 (by rfl) w20.heap.size 9 _ 1 16 Tryd.underlying22 info_Str rfl (by omega) (by omega) _ P (cs strC (LL.take P)) (by rfl) (Lib.hid (own_after HOO.out (by repeat (first | exact Below.refl _ _ | exact one_box _ _ | refine below_drewN ?_ _ | refine below_drew ?_ | refine Below.alloc ?_ (by first | omega | (simp; done) | (simp; omega)) _)))) _ _ 1 1 [.string ⟨LN.toArray⟩] (by rfl) (Lib.hid rfl) (by first | exact Lib.hid (litd_at2 _ _ _ _ _ (by simp) rfl) | exact Lib.hid (lit_at _ _ _ _ _ (by simp) rfl) | exact Lib.hid (rd_later (lit_at _ _ _ _ _ (by simp) rfl) HRAW.out) | exact Lib.hid (rd_later (w := (w20.alloc (.cells #[.string ⟨LN.toArray⟩] 9)).drew) (litd_at2 w20 _ _ _ _ rfl rfl) HRAW.out)) (by simp [Value.oneCell']) (by omega) (by first | omega | (have := HBO.out.size; simp; omega)) ?_; intro v1 wa hown1 hg1 hob1; obtain ⟨Aa, ca, rfl, -, -⟩ := own_form hown1.out; have HBA : Hid (Below w20.heap.size w20 wa) := Lib.hid (HBO.out.trans (Below.grown (by repeat (first | exact Below.refl _ _ | exact one_box _ _ | refine below_drewN ?_ _ | refine below_drew ?_ | refine Below.alloc ?_ (by first | omega | (simp; done) | (simp; omega)) _)) hg1.out (by first | omega | (have := HBO.out.size; simp; omega)) (fun k hk => (HOO.out.lt k hk).1))); have hsz2 : w20.heap.size ≤ wa.heap.size := HBA.out.size)
          | (go_simp; go_at_call 21; refine (COW.out _ (by repeat (first | exact Below.refl _ _ | exact one_box _ _ | refine below_drewN ?_ _ | refine below_drew ?_ | refine Below.alloc ?_ (by first | omega | (simp; done) | (simp; omega)) _))).mono ?_; rintro e wo ⟨Ao, co, rfl, hco, hown, hb⟩; have HRAW := Lib.hid hb; have HBO : Hid (Below w20.heap.size w20 wo) := Lib.hid (keep_trans (by repeat (first | exact Below.refl _ _ | exact one_box _ _ | refine below_drewN ?_ _ | refine below_drew ?_ | refine Below.alloc ?_ (by first | omega | (simp; done) | (simp; omega)) _)) hb); have hsz1 : w20.heap.size ≤ wo.heap.size := HBO.out.size; have HOO : Hid (wo.ownsRow w20.heap.size 9 1 (.slice Ao P co) P (cs strC (LL.take P))) := Lib.hid (own_down hown.out (by first | exact Nat.le_refl _ | (simp; done) | (simp; omega))); clear hb hown hco)
          | fail)
        all_goals
          go_wp2_with fail
          all_goals
            go_ret
            exact ⟨rfl, keep_trans HBWT.out (keep_trans HB20.out HBS.out)⟩
      · have CLX : Hid (Calls Tryd.prog 9 #[.agg #[.int .i64 x.horizon, .slice p.a1 x.stops.length p.c1, .slice p.a2 x.paths.length p.c2, .slice p.a3 x.doors.length p.c3, .slice p.a4 x.routes.length p.c4, .slice p.a5 x.trips.length p.c5, .slice p.a6 x.hazards.length p.c6]] wt fun e w' => e = .returned (.tuple #[.slice none 0 0, .int .i64 (checkM x)]) ∧ Below wt.heap.size wt w') := Lib.hid (lines_no x p wt HSXT.out HLT.out.few hc)
        have CLY : Hid (∀ w', Below wt.heap.size wt w' → Calls Tryd.prog 9 #[.agg #[.int .i64 x.horizon, .slice A1 x.stops.length c1, .slice A2 x.paths.length c2, .slice A3 x.doors.length c3, .slice A4 x.routes.length c4, .slice A' (m5 + 1) c', .slice A6 x.hazards.length c6]] w' fun e w2 => e = .returned (.tuple #[.slice none 0 0, .int .i64 (checkM x)]) ∧ Below w'.heap.size w' w2) := Lib.hid (fun w' hb => by
          have hk := check_addT HLT.out HT.out
          have hh := lines_no (addT x t) _ w' (HSYT.out.later hb) (few_addT HLT.out t) (by rw [hk]; exact hc)
          rw [hk] at hh
          have e : (addT x t).trips.length = m5 + 1 := by rw [HM5.out]; simp [addT]
          have e2 : shV (addT x t) ⟨A1, A2, A3, A4, A', A6, c1, c2, c3, c4, c', c6⟩ = .agg #[.int .i64 x.horizon, .slice A1 x.stops.length c1, .slice A2 x.paths.length c2, .slice A3 x.doors.length c3, .slice A4 x.routes.length c4, .slice A' (m5 + 1) c', .slice A6 x.hazards.length c6] := by
            show Value.agg #[.int .i64 x.horizon, .slice A1 x.stops.length c1, .slice A2 x.paths.length c2, .slice A3 x.doors.length c3, .slice A4 x.routes.length c4, .slice A' (addT x t).trips.length c', .slice A6 x.hazards.length c6] = _
            rw [e]
          rw [e2] at hh
          exact hh)
        have hc2 : ((checkM x : Int) == 0) = false := by simpa using hc
        have hc3 : ((checkM x : Int) != 0) = true := by simpa using hc
        have hc4 : ¬ checkM x = 0 := hc
        generalize checkM x = CX at CLX CLY hc2 hc3 hc4
        clear hc
        go_wp2_with (first
          | (go_at_call 9; (refine (CLY.out _ HB19.out).mono ?_); rintro e w20 ⟨rfl, hb⟩; have HB20 := Lib.hid (keep_trans HB19.out hb); clear hb)
          | (go_at_call 9; (refine CLX.out.mono ?_); rintro e w19 ⟨rfl, hb⟩; have HB19 := Lib.hid hb; have KY19 := Lib.hid (KYT.out.after hb); clear hb y0 y1 y2 y3 y4 y5 y6; have y0 : w19.cell? ⟨n7, 0, none⟩ = some (.int .i64 x.horizon) := KY19.out.cell 0; have y1 : w19.cell? ⟨n7, 1, none⟩ = some (.slice A1 x.stops.length c1) := KY19.out.cell 1; have y2 : w19.cell? ⟨n7, 2, none⟩ = some (.slice A2 x.paths.length c2) := KY19.out.cell 2; have y3 : w19.cell? ⟨n7, 3, none⟩ = some (.slice A3 x.doors.length c3) := KY19.out.cell 3; have y4 : w19.cell? ⟨n7, 4, none⟩ = some (.slice A4 x.routes.length c4) := KY19.out.cell 4; have y5 : w19.cell? ⟨n7, 5, none⟩ = some (.slice A' (m5 + 1) c') := KY19.out.cell 5; have y6 : w19.cell? ⟨n7, 6, none⟩ = some (.slice A6 x.hazards.length c6) := KY19.out.cell 6)
          | fail)
        go_ret
        exact ⟨rfl, keep_trans HBWT.out HB20.out⟩

end Go.Proofs.YtcmlmfcnbmpajaaDoor.Sw
