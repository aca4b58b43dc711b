/- ShowCanon, walked: of any text that is read, what is shown is read as the same, and shown the same. Condition: the library's table holds what start-up lays (Env). -/
import Derived.Test.YtcmlmfcnbmpajaaGreatDoorShowBackWalk
namespace Go.Proofs.YtcmlmfcnbmpajaaGreatDoor.Sw
open Go.ChangeShapes Go.WideShapes Go.ChangeAt Go.RowKit
open Lx Sh
set_option linter.unusedVariables false
set_option linter.unusedSimpArgs false
set_option maxRecDepth 100000

theorem two_blk (w : World) (l1 l2 : List Value) : Blk ((w.alloc (.cells l1.toArray 29)).alloc (.cells l2.toArray 61)) w.heap.size 29 l1 ∧ Blk ((w.alloc (.cells l1.toArray 29)).alloc (.cells l2.toArray 61)) (w.heap.size + 1) 61 l2 := by
  have k := Blk.new (w.alloc (.cells l1.toArray 29)) 61 l2
  simp at k
  exact ⟨(Blk.new w 29 l1).alloc _, k⟩
set_option maxHeartbeats 4000000 in
theorem canon_long (s : ByteArray) (w : World) (hE : Tk.Env w) (hs : 4000 < s.size) : Calls Tryz.prog 5 #[.string s] w (TrueQ w) := by
  have CV := Lib.hid (lives_any w hE)
  have hi : (4000 : Int) < (s.size : Int) := by omega
  clear hE hs
  go_enter Tryz.func5, Tryz.ntmps5
  go_wp2_with (first
    | (go_at_call 6; (with_reducible refine CV.out.mono ?_); rintro e w1 ⟨rfl, hb⟩)
    | fail)
  go_ret
  exact ⟨rfl, hb⟩
set_option maxHeartbeats 4000000 in
theorem canon_bad (s : ByteArray) (w : World) (hE : Tk.Env w) (hs : s.size ≤ 4000) {er l c : Int} (hp : parseT s = .bad er l c) : Calls Tryz.prog 5 #[.string s] w (TrueQ w) := by
  have CV := Lib.hid (lives_any w hE)
  have hi : ¬ (4000 : Int) < (s.size : Int) := by omega
  have CP := Lib.hid (fun w' => rparse_no hp w')
  clear hE hs hp
  go_enter Tryz.func5, Tryz.ntmps5
  go_upto_region 6 with (first
    | (go_at_call 26; (refine (CP.out _).mono ?_); rintro e w2 ⟨⟨er, l, c, her, rfl⟩, hb2⟩; have HB2 := Lib.hid (keep_trans HB1.out hb2); have HER := Lib.hid her; clear hb2 her)
    | (go_at_call 6; (with_reducible refine CV.out.mono ?_); rintro e w1 ⟨rfl, hb⟩; have HB1 := Lib.hid hb; clear hb)
    | fail)
  have KB := Lib.hid (two_blk w2 [.int .i64 0, .slice none 0 0, .slice none 0 0, .slice none 0 0, .slice none 0 0, .slice none 0 0, .slice none 0 0] [.int .i64 er, .int .i64 l, .int .i64 c])
  have HB3 := Lib.hid (keep_trans HB2.out (two_box w2 (.cells #[.int .i64 0, .slice none 0 0, .slice none 0 0, .slice none 0 0, .slice none 0 0, .slice none 0 0, .slice none 0 0] 29) (.cells #[.int .i64 er, .int .i64 l, .int .i64 c] 61)))
  dsimp only [List.toArray] at KB
  generalize (w2.alloc (.cells #[.int .i64 0, .slice none 0 0, .slice none 0 0, .slice none 0 0, .slice none 0 0, .slice none 0 0, .slice none 0 0] 29)).alloc (.cells #[.int .i64 er, .int .i64 l, .int .i64 c] 61) = W3 at KB HB3 ⊢
  have f0 : W3.cell? ⟨w2.heap.size + 1, 0, none⟩ = some (.int .i64 er) := KB.out.2.cell 0
  have her := HER.out
  go_wp2
  go_ret
  exact ⟨rfl, HB3.out⟩

set_option maxHeartbeats 8000000 in
theorem canon_over (s : ByteArray) (w : World) (hE : Tk.Env w) (hs : s.size ≤ 4000) {x : SheetM} (hp : parseT s = .ok x []) (hx : May x) (hz : 65536 < (endsOf (linesT x)).length) : Calls Tryz.prog 5 #[.string s] w (TrueQ w) := by
  have hsz : (⟨(endsOf (linesT x)).toArray⟩ : ByteArray).size = (endsOf (linesT x)).length := by rw [Lib.size_eq]
  have hzi : (65536 : Int) < ((endsOf (linesT x)).length : Int) := by omega
  obtain ⟨e9, l9, c9, hp2⟩ : ∃ e l c, parseT ⟨(endsOf (linesT x)).toArray⟩ = .bad e l c := ⟨3, 1, 1, by
    unfold parseT lexAll
    rw [if_pos (by rw [hsz]; exact hz)]; rfl⟩
  have CP2 := Lib.hid (fun w' => rparse_no hp2 w')
  clear hp2 hz
  obtain ⟨SX, hSX⟩ : ∃ a, a = endsOf (linesT x) := ⟨_, rfl⟩
  have HSX := Lib.hid hSX
  rw [← hSX] at hsz hzi CP2
  clear hSX
  have CV := Lib.hid (lives_any w hE)
  have hi : ¬ (4000 : Int) < (s.size : Int) := by omega
  have CP := Lib.hid (fun w' => rparse_ok hp w')
  have HE := Lib.hid hE
  have HX := Lib.hid hx
  clear hE hs hp
  go_enter Tryz.func5, Tryz.ntmps5
  go_upto_region 6 with (first
    | (go_at_call 26; (refine (CP.out _).mono ?_); rintro e w2 ⟨p, rfl, hsh, hb2⟩; have HB2 := Lib.hid (keep_trans HB1.out hb2); have HSH2 := Lib.hid (hsh.more fun b hb => hb.2); clear hb2 hsh)
    | (go_at_call 6; (with_reducible refine CV.out.mono ?_); rintro e w1 ⟨rfl, hb⟩; have HB1 := Lib.hid hb; clear hb)
    | fail)
  have KB := Lib.hid (two_blk w2 [.int .i64 x.horizon, .slice p.a1 x.stops.length p.c1, .slice p.a2 x.paths.length p.c2, .slice p.a3 x.doors.length p.c3, .slice p.a4 x.routes.length p.c4, .slice p.a5 x.trips.length p.c5, .slice p.a6 x.hazards.length p.c6] [.int .i64 0, .int .i64 0, .int .i64 0])
  have HB3 := Lib.hid (keep_trans HB2.out (two_box w2 (.cells #[.int .i64 x.horizon, .slice p.a1 x.stops.length p.c1, .slice p.a2 x.paths.length p.c2, .slice p.a3 x.doors.length p.c3, .slice p.a4 x.routes.length p.c4, .slice p.a5 x.trips.length p.c5, .slice p.a6 x.hazards.length p.c6] 29) (.cells #[.int .i64 0, .int .i64 0, .int .i64 0] 61)))
  have HSH3 := Lib.hid (HSH2.out.later (two_box w2 (.cells #[.int .i64 x.horizon, .slice p.a1 x.stops.length p.c1, .slice p.a2 x.paths.length p.c2, .slice p.a3 x.doors.length p.c3, .slice p.a4 x.routes.length p.c4, .slice p.a5 x.trips.length p.c5, .slice p.a6 x.hazards.length p.c6] 29) (.cells #[.int .i64 0, .int .i64 0, .int .i64 0] 61)))
  dsimp only [List.toArray] at KB
  generalize (w2.alloc (.cells #[.int .i64 x.horizon, .slice p.a1 x.stops.length p.c1, .slice p.a2 x.paths.length p.c2, .slice p.a3 x.doors.length p.c3, .slice p.a4 x.routes.length p.c4, .slice p.a5 x.trips.length p.c5, .slice p.a6 x.hazards.length p.c6] 29)).alloc (.cells #[.int .i64 0, .int .i64 0, .int .i64 0] 61) = W3 at KB HB3 HSH3 ⊢
  generalize w2.heap.size = n2 at KB ⊢
  have f0 : W3.cell? ⟨n2 + 1, 0, none⟩ = some (.int .i64 0) := KB.out.2.cell 0
  have x0 : W3.cell? ⟨n2, 0, none⟩ = some (.int .i64 x.horizon) := KB.out.1.cell 0
  have x1 : W3.cell? ⟨n2, 1, none⟩ = some (.slice p.a1 x.stops.length p.c1) := KB.out.1.cell 1
  have x2 : W3.cell? ⟨n2, 2, none⟩ = some (.slice p.a2 x.paths.length p.c2) := KB.out.1.cell 2
  have x3 : W3.cell? ⟨n2, 3, none⟩ = some (.slice p.a3 x.doors.length p.c3) := KB.out.1.cell 3
  have x4 : W3.cell? ⟨n2, 4, none⟩ = some (.slice p.a4 x.routes.length p.c4) := KB.out.1.cell 4
  have x5 : W3.cell? ⟨n2, 5, none⟩ = some (.slice p.a5 x.trips.length p.c5) := KB.out.1.cell 5
  have x6 : W3.cell? ⟨n2, 6, none⟩ = some (.slice p.a6 x.hazards.length p.c6) := KB.out.1.cell 6
  have CT : Hid (Calls Tryz.prog 9 #[.agg #[.int .i64 x.horizon, .slice p.a1 x.stops.length p.c1, .slice p.a2 x.paths.length p.c2, .slice p.a3 x.doors.length p.c3, .slice p.a4 x.routes.length p.c4, .slice p.a5 x.trips.length p.c5, .slice p.a6 x.hazards.length p.c6]] W3 fun e w' => e = .returned (.tuple #[.string ⟨SX.toArray⟩, .int .i64 0]) ∧ Below W3.heap.size W3 w') := Lib.hid (by rw [HSX.out]; exact text_ok x p W3 HSH3.out HX.out (HE.out.on HB3.out))
  go_upto_region 12 with (first
    | (go_at_call 26; (refine (CP2.out _).mono ?_); rintro e w5 ⟨⟨er, l, c, her, rfl⟩, hb5⟩; have HB5 := Lib.hid hb5; have HER := Lib.hid her; clear hb5 her)
    | (go_at_call 9; (refine CT.out.mono ?_); rintro e w4 ⟨rfl, hb⟩; have HB4 := Lib.hid hb; clear hb)
    | fail)
  have KY := Lib.hid (two_blk w5 [.int .i64 0, .slice none 0 0, .slice none 0 0, .slice none 0 0, .slice none 0 0, .slice none 0 0, .slice none 0 0] [.int .i64 er, .int .i64 l, .int .i64 c])
  have HBY := Lib.hid (two_box w5 (.cells #[.int .i64 0, .slice none 0 0, .slice none 0 0, .slice none 0 0, .slice none 0 0, .slice none 0 0, .slice none 0 0] 29) (.cells #[.int .i64 er, .int .i64 l, .int .i64 c] 61))
  have KX6 := Lib.hid ((KB.out.1.after HB4.out).after HB5.out |>.after HBY.out)
  have HB6 := Lib.hid (keep_trans (keep_trans (keep_trans HB3.out HB4.out) HB5.out) HBY.out)
  have HSY6 : Hid (Sh ((w5.alloc (.cells #[.int .i64 0, .slice none 0 0, .slice none 0 0, .slice none 0 0, .slice none 0 0, .slice none 0 0, .slice none 0 0] 29)).alloc (.cells #[.int .i64 er, .int .i64 l, .int .i64 c] 61)) (· < ((w5.alloc (.cells #[.int .i64 0, .slice none 0 0, .slice none 0 0, .slice none 0 0, .slice none 0 0, .slice none 0 0, .slice none 0 0] 29)).alloc (.cells #[.int .i64 er, .int .i64 l, .int .i64 c] 61)).heap.size) emptyM ⟨none, none, none, none, none, none, 0, 0, 0, 0, 0, 0⟩) := Lib.hid ⟨Rd.none_, Rd.none_, Rd.none_, ⟨[], Rd.none_, rfl⟩, Rd.none_, Rd.none_⟩
  have HSX6 := Lib.hid (((HSH3.out.later HB4.out).later HB5.out).later HBY.out)
  dsimp only [List.toArray] at KY
  generalize (w5.alloc (.cells #[.int .i64 0, .slice none 0 0, .slice none 0 0, .slice none 0 0, .slice none 0 0, .slice none 0 0, .slice none 0 0] 29)).alloc (.cells #[.int .i64 er, .int .i64 l, .int .i64 c] 61) = W6 at KY HBY KX6 HB6 HSX6 HSY6 ⊢
  generalize w5.heap.size = n5 at KY ⊢
  clear f0 x0 x1 x2 x3 x4 x5 x6
  have x0 : W6.cell? ⟨n2, 0, none⟩ = some (.int .i64 x.horizon) := KX6.out.cell 0
  have x1 : W6.cell? ⟨n2, 1, none⟩ = some (.slice p.a1 x.stops.length p.c1) := KX6.out.cell 1
  have x2 : W6.cell? ⟨n2, 2, none⟩ = some (.slice p.a2 x.paths.length p.c2) := KX6.out.cell 2
  have x3 : W6.cell? ⟨n2, 3, none⟩ = some (.slice p.a3 x.doors.length p.c3) := KX6.out.cell 3
  have x4 : W6.cell? ⟨n2, 4, none⟩ = some (.slice p.a4 x.routes.length p.c4) := KX6.out.cell 4
  have x5 : W6.cell? ⟨n2, 5, none⟩ = some (.slice p.a5 x.trips.length p.c5) := KX6.out.cell 5
  have x6 : W6.cell? ⟨n2, 6, none⟩ = some (.slice p.a6 x.hazards.length p.c6) := KX6.out.cell 6
  have y0 : W6.cell? ⟨n5, 0, none⟩ = some (.int .i64 0) := KY.out.1.cell 0
  have y1 : W6.cell? ⟨n5, 1, none⟩ = some (.slice none 0 0) := KY.out.1.cell 1
  have y2 : W6.cell? ⟨n5, 2, none⟩ = some (.slice none 0 0) := KY.out.1.cell 2
  have y3 : W6.cell? ⟨n5, 3, none⟩ = some (.slice none 0 0) := KY.out.1.cell 3
  have y4 : W6.cell? ⟨n5, 4, none⟩ = some (.slice none 0 0) := KY.out.1.cell 4
  have y5 : W6.cell? ⟨n5, 5, none⟩ = some (.slice none 0 0) := KY.out.1.cell 5
  have y6 : W6.cell? ⟨n5, 6, none⟩ = some (.slice none 0 0) := KY.out.1.cell 6
  have g0 : W6.cell? ⟨n5 + 1, 0, none⟩ = some (.int .i64 er) := KY.out.2.cell 0
  have CT2 : Hid (Calls Tryz.prog 9 #[.agg #[.int .i64 0, .slice none 0 0, .slice none 0 0, .slice none 0 0, .slice none 0 0, .slice none 0 0, .slice none 0 0]] W6 fun e w' => e = .returned (.tuple #[.string ⟨(endsOf (linesT emptyM)).toArray⟩, .int .i64 0]) ∧ Below W6.heap.size W6 w') := Lib.hid (text_ok emptyM ⟨none, none, none, none, none, none, 0, 0, 0, 0, 0, 0⟩ W6 HSY6.out (may_of (by decide)) (HE.out.on HB6.out))
  generalize endsOf (linesT emptyM) = SE at *
  have her := HER.out
  go_wp2_with (first
    | (go_at_call 9; (refine CT2.out.mono ?_); rintro e w7 ⟨rfl, hb⟩; have HB7 := Lib.hid (keep_trans HB6.out hb); clear hb)
    | fail)
  go_ret
  exact ⟨rfl, HB7.out⟩

set_option maxHeartbeats 8000000 in
theorem canon_ok (s : ByteArray) (w : World) (hE : Tk.Env w) (hs : s.size ≤ 4000) {x : SheetM} (hp : parseT s = .ok x []) (hx : May x) (hz : (endsOf (linesT x)).length ≤ 65536) : Calls Tryz.prog 5 #[.string s] w (TrueQ w) := by
  have hsz : (⟨(endsOf (linesT x)).toArray⟩ : ByteArray).size = (endsOf (linesT x)).length := by rw [Lib.size_eq]
  have hzi : ¬ (65536 : Int) < ((endsOf (linesT x)).length : Int) := by omega
  have hp2 : parseT ⟨(endsOf (linesT x)).toArray⟩ = .ok x [] := back_parse hx (.inl rfl) (by rw [hsz]; exact hz)
  have CP2 := Lib.hid (fun w' => rparse_ok hp2 w')
  clear hp2 hz
  obtain ⟨SX, hSX⟩ : ∃ a, a = endsOf (linesT x) := ⟨_, rfl⟩
  have HSX := Lib.hid hSX
  rw [← hSX] at hsz hzi CP2
  clear hSX
  have CV := Lib.hid (lives_any w hE)
  have hi : ¬ (4000 : Int) < (s.size : Int) := by omega
  have CP := Lib.hid (fun w' => rparse_ok hp w')
  have HE := Lib.hid hE
  have HX := Lib.hid hx
  clear hE hs hp
  go_enter Tryz.func5, Tryz.ntmps5
  go_upto_region 6 with (first
    | (go_at_call 26; (refine (CP.out _).mono ?_); rintro e w2 ⟨p, rfl, hsh, hb2⟩; have HB2 := Lib.hid (keep_trans HB1.out hb2); have HSH2 := Lib.hid (hsh.more fun b hb => hb.2); clear hb2 hsh)
    | (go_at_call 6; (with_reducible refine CV.out.mono ?_); rintro e w1 ⟨rfl, hb⟩; have HB1 := Lib.hid hb; clear hb)
    | fail)
  have KB := Lib.hid (two_blk w2 [.int .i64 x.horizon, .slice p.a1 x.stops.length p.c1, .slice p.a2 x.paths.length p.c2, .slice p.a3 x.doors.length p.c3, .slice p.a4 x.routes.length p.c4, .slice p.a5 x.trips.length p.c5, .slice p.a6 x.hazards.length p.c6] [.int .i64 0, .int .i64 0, .int .i64 0])
  have HB3 := Lib.hid (keep_trans HB2.out (two_box w2 (.cells #[.int .i64 x.horizon, .slice p.a1 x.stops.length p.c1, .slice p.a2 x.paths.length p.c2, .slice p.a3 x.doors.length p.c3, .slice p.a4 x.routes.length p.c4, .slice p.a5 x.trips.length p.c5, .slice p.a6 x.hazards.length p.c6] 29) (.cells #[.int .i64 0, .int .i64 0, .int .i64 0] 61)))
  have HSH3 := Lib.hid (HSH2.out.later (two_box w2 (.cells #[.int .i64 x.horizon, .slice p.a1 x.stops.length p.c1, .slice p.a2 x.paths.length p.c2, .slice p.a3 x.doors.length p.c3, .slice p.a4 x.routes.length p.c4, .slice p.a5 x.trips.length p.c5, .slice p.a6 x.hazards.length p.c6] 29) (.cells #[.int .i64 0, .int .i64 0, .int .i64 0] 61)))
  dsimp only [List.toArray] at KB
  generalize (w2.alloc (.cells #[.int .i64 x.horizon, .slice p.a1 x.stops.length p.c1, .slice p.a2 x.paths.length p.c2, .slice p.a3 x.doors.length p.c3, .slice p.a4 x.routes.length p.c4, .slice p.a5 x.trips.length p.c5, .slice p.a6 x.hazards.length p.c6] 29)).alloc (.cells #[.int .i64 0, .int .i64 0, .int .i64 0] 61) = W3 at KB HB3 HSH3 ⊢
  generalize w2.heap.size = n2 at KB ⊢
  have f0 : W3.cell? ⟨n2 + 1, 0, none⟩ = some (.int .i64 0) := KB.out.2.cell 0
  have x0 : W3.cell? ⟨n2, 0, none⟩ = some (.int .i64 x.horizon) := KB.out.1.cell 0
  have x1 : W3.cell? ⟨n2, 1, none⟩ = some (.slice p.a1 x.stops.length p.c1) := KB.out.1.cell 1
  have x2 : W3.cell? ⟨n2, 2, none⟩ = some (.slice p.a2 x.paths.length p.c2) := KB.out.1.cell 2
  have x3 : W3.cell? ⟨n2, 3, none⟩ = some (.slice p.a3 x.doors.length p.c3) := KB.out.1.cell 3
  have x4 : W3.cell? ⟨n2, 4, none⟩ = some (.slice p.a4 x.routes.length p.c4) := KB.out.1.cell 4
  have x5 : W3.cell? ⟨n2, 5, none⟩ = some (.slice p.a5 x.trips.length p.c5) := KB.out.1.cell 5
  have x6 : W3.cell? ⟨n2, 6, none⟩ = some (.slice p.a6 x.hazards.length p.c6) := KB.out.1.cell 6
  have CT : Hid (Calls Tryz.prog 9 #[.agg #[.int .i64 x.horizon, .slice p.a1 x.stops.length p.c1, .slice p.a2 x.paths.length p.c2, .slice p.a3 x.doors.length p.c3, .slice p.a4 x.routes.length p.c4, .slice p.a5 x.trips.length p.c5, .slice p.a6 x.hazards.length p.c6]] W3 fun e w' => e = .returned (.tuple #[.string ⟨SX.toArray⟩, .int .i64 0]) ∧ Below W3.heap.size W3 w') := Lib.hid (by rw [HSX.out]; exact text_ok x p W3 HSH3.out HX.out (HE.out.on HB3.out))
  go_upto_region 12 with (first
    | (go_at_call 26; (refine (CP2.out _).mono ?_); rintro e w5 ⟨q, rfl, hsh5, hb5⟩; have HB5 := Lib.hid hb5; have HSH5 := Lib.hid (hsh5.more fun b hb => hb.2); clear hb5 hsh5)
    | (go_at_call 9; (refine CT.out.mono ?_); rintro e w4 ⟨rfl, hb⟩; have HB4 := Lib.hid hb; clear hb)
    | fail)
  have KY := Lib.hid (two_blk w5 [.int .i64 x.horizon, .slice q.a1 x.stops.length q.c1, .slice q.a2 x.paths.length q.c2, .slice q.a3 x.doors.length q.c3, .slice q.a4 x.routes.length q.c4, .slice q.a5 x.trips.length q.c5, .slice q.a6 x.hazards.length q.c6] [.int .i64 0, .int .i64 0, .int .i64 0])
  have HBY := Lib.hid (two_box w5 (.cells #[.int .i64 x.horizon, .slice q.a1 x.stops.length q.c1, .slice q.a2 x.paths.length q.c2, .slice q.a3 x.doors.length q.c3, .slice q.a4 x.routes.length q.c4, .slice q.a5 x.trips.length q.c5, .slice q.a6 x.hazards.length q.c6] 29) (.cells #[.int .i64 0, .int .i64 0, .int .i64 0] 61))
  have KX6 := Lib.hid ((KB.out.1.after HB4.out).after HB5.out |>.after HBY.out)
  have HB6 := Lib.hid (keep_trans (keep_trans (keep_trans HB3.out HB4.out) HB5.out) HBY.out)
  have HSY6 := Lib.hid (HSH5.out.later HBY.out)
  have HSX6 := Lib.hid (((HSH3.out.later HB4.out).later HB5.out).later HBY.out)
  dsimp only [List.toArray] at KY
  generalize (w5.alloc (.cells #[.int .i64 x.horizon, .slice q.a1 x.stops.length q.c1, .slice q.a2 x.paths.length q.c2, .slice q.a3 x.doors.length q.c3, .slice q.a4 x.routes.length q.c4, .slice q.a5 x.trips.length q.c5, .slice q.a6 x.hazards.length q.c6] 29)).alloc (.cells #[.int .i64 0, .int .i64 0, .int .i64 0] 61) = W6 at KY HBY KX6 HB6 HSX6 HSY6 ⊢
  generalize w5.heap.size = n5 at KY ⊢
  clear f0 x0 x1 x2 x3 x4 x5 x6
  have x0 : W6.cell? ⟨n2, 0, none⟩ = some (.int .i64 x.horizon) := KX6.out.cell 0
  have x1 : W6.cell? ⟨n2, 1, none⟩ = some (.slice p.a1 x.stops.length p.c1) := KX6.out.cell 1
  have x2 : W6.cell? ⟨n2, 2, none⟩ = some (.slice p.a2 x.paths.length p.c2) := KX6.out.cell 2
  have x3 : W6.cell? ⟨n2, 3, none⟩ = some (.slice p.a3 x.doors.length p.c3) := KX6.out.cell 3
  have x4 : W6.cell? ⟨n2, 4, none⟩ = some (.slice p.a4 x.routes.length p.c4) := KX6.out.cell 4
  have x5 : W6.cell? ⟨n2, 5, none⟩ = some (.slice p.a5 x.trips.length p.c5) := KX6.out.cell 5
  have x6 : W6.cell? ⟨n2, 6, none⟩ = some (.slice p.a6 x.hazards.length p.c6) := KX6.out.cell 6
  have y0 : W6.cell? ⟨n5, 0, none⟩ = some (.int .i64 x.horizon) := KY.out.1.cell 0
  have y1 : W6.cell? ⟨n5, 1, none⟩ = some (.slice q.a1 x.stops.length q.c1) := KY.out.1.cell 1
  have y2 : W6.cell? ⟨n5, 2, none⟩ = some (.slice q.a2 x.paths.length q.c2) := KY.out.1.cell 2
  have y3 : W6.cell? ⟨n5, 3, none⟩ = some (.slice q.a3 x.doors.length q.c3) := KY.out.1.cell 3
  have y4 : W6.cell? ⟨n5, 4, none⟩ = some (.slice q.a4 x.routes.length q.c4) := KY.out.1.cell 4
  have y5 : W6.cell? ⟨n5, 5, none⟩ = some (.slice q.a5 x.trips.length q.c5) := KY.out.1.cell 5
  have y6 : W6.cell? ⟨n5, 6, none⟩ = some (.slice q.a6 x.hazards.length q.c6) := KY.out.1.cell 6
  have g0 : W6.cell? ⟨n5 + 1, 0, none⟩ = some (.int .i64 0) := KY.out.2.cell 0
  have CT2 : Hid (Calls Tryz.prog 9 #[.agg #[.int .i64 x.horizon, .slice q.a1 x.stops.length q.c1, .slice q.a2 x.paths.length q.c2, .slice q.a3 x.doors.length q.c3, .slice q.a4 x.routes.length q.c4, .slice q.a5 x.trips.length q.c5, .slice q.a6 x.hazards.length q.c6]] W6 fun e w' => e = .returned (.tuple #[.string ⟨SX.toArray⟩, .int .i64 0]) ∧ Below W6.heap.size W6 w') := Lib.hid (by rw [HSX.out]; exact text_ok x q W6 HSY6.out HX.out (HE.out.on HB6.out))
  have CSS0 := fun w' (hb : Below W6.heap.size W6 w') => ksheet_d x x p q w' (HSX6.out.later hb) (HSY6.out.later hb) (mayfew HX.out) (mayfew HX.out)
  rw [decide_eq_true rfl] at CSS0
  have CSS := Lib.hid CSS0
  clear CSS0
  go_wp2_with (first
    | (go_at_call 27; (refine (CSS.out _ HB7a.out).mono ?_); rintro e w8 ⟨rfl, hb⟩; have HB8 := Lib.hid (keep_trans HB7.out hb); clear hb)
    | (go_at_call 9; (refine CT2.out.mono ?_); rintro e w7 ⟨rfl, hb⟩; have HB7a := Lib.hid hb; have HB7 := Lib.hid (keep_trans HB6.out hb); have KX7 := Lib.hid (KX6.out.after hb); have KY7 := Lib.hid (KY.out.1.after hb); have KG7 := Lib.hid (KY.out.2.after hb); clear hb x0 y0 x1 y1 x2 y2 x3 y3 x4 y4 x5 y5 x6 y6 g0; have x0 : w7.cell? ⟨n2, 0, none⟩ = some (.int .i64 x.horizon) := KX7.out.cell 0; have x1 : w7.cell? ⟨n2, 1, none⟩ = some (.slice p.a1 x.stops.length p.c1) := KX7.out.cell 1; have x2 : w7.cell? ⟨n2, 2, none⟩ = some (.slice p.a2 x.paths.length p.c2) := KX7.out.cell 2; have x3 : w7.cell? ⟨n2, 3, none⟩ = some (.slice p.a3 x.doors.length p.c3) := KX7.out.cell 3; have x4 : w7.cell? ⟨n2, 4, none⟩ = some (.slice p.a4 x.routes.length p.c4) := KX7.out.cell 4; have x5 : w7.cell? ⟨n2, 5, none⟩ = some (.slice p.a5 x.trips.length p.c5) := KX7.out.cell 5; have x6 : w7.cell? ⟨n2, 6, none⟩ = some (.slice p.a6 x.hazards.length p.c6) := KX7.out.cell 6; have y0 : w7.cell? ⟨n5, 0, none⟩ = some (.int .i64 x.horizon) := KY7.out.cell 0; have y1 : w7.cell? ⟨n5, 1, none⟩ = some (.slice q.a1 x.stops.length q.c1) := KY7.out.cell 1; have y2 : w7.cell? ⟨n5, 2, none⟩ = some (.slice q.a2 x.paths.length q.c2) := KY7.out.cell 2; have y3 : w7.cell? ⟨n5, 3, none⟩ = some (.slice q.a3 x.doors.length q.c3) := KY7.out.cell 3; have y4 : w7.cell? ⟨n5, 4, none⟩ = some (.slice q.a4 x.routes.length q.c4) := KY7.out.cell 4; have y5 : w7.cell? ⟨n5, 5, none⟩ = some (.slice q.a5 x.trips.length q.c5) := KY7.out.cell 5; have y6 : w7.cell? ⟨n5, 6, none⟩ = some (.slice q.a6 x.hazards.length q.c6) := KY7.out.cell 6; have g0 : w7.cell? ⟨n5 + 1, 0, none⟩ = some (.int .i64 0) := KG7.out.cell 0)
    | fail)
  go_ret
  exact ⟨rfl, HB8.out⟩

theorem canon_all (s : ByteArray) (w : World) (hE : Tk.Env w) : Calls Tryz.prog 5 #[.string s] w (TrueQ w) := by
  by_cases hs : 4000 < s.size
  · exact canon_long s w hE hs
  · rcases parse_fine s with ⟨e, l, c, _, hp⟩ | ⟨x, hx, hp⟩
    · exact canon_bad s w hE (by omega) hp
    · by_cases hz : 65536 < (endsOf (linesT x)).length
      · exact canon_over s w hE (by omega) hp hx hz
      · exact canon_ok s w hE (by omega) hp hx (by omega)

end Go.Proofs.YtcmlmfcnbmpajaaGreatDoor.Sw
