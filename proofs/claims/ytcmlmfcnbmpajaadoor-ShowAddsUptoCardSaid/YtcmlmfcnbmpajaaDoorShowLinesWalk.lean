/- ShowLines, walked: a sheet's lines are the things' lines, each with one blank between words; its text is its lines. Condition: the library's table holds what start-up lays (Env). -/
import Derived.Test.YtcmlmfcnbmpajaaDoorShowLives
import Derived.Test.YtcmlmfcnbmpajaaDoorShowTidy
import Derived.Test.YtcmlmfcnbmpajaaDoorShowEl
import Derived.Test.YtcmlmfcnbmpajaaDoorRefNames
import Derived.Test.YtcmlmfcnbmpajaaDoorKitLight
import Derived.Deep.RegionHeld3
import Derived.Deep.CutRange
namespace Go.Proofs.YtcmlmfcnbmpajaaDoor.Sw
open Go.ChangeShapes Go.WideShapes Go.ChangeAt Go.RowKit
open Lx Sh
set_option linter.unusedVariables false
set_option linter.unusedSimpArgs false

def TrueP (w : World) (e : Ending) (w' : World) : Prop := e = .returned (.bool true) ∧ Below w.heap.size w w'

set_option maxHeartbeats 4000000 in
set_option maxRecDepth 100000 in
theorem lines_dark (x : SheetM) (p : ShA) (w : World) (hE : Tk.Env w) (h : Sh w (· < w.heap.size) x p) (hl : lightM x = false) :
    Calls Tryd.prog 4 #[shV x p] w (TrueP w) := by
  have CV := Lib.hid (fun w' (hb : Below w.heap.size w w') => lives_any w' (hE.on hb))
  have CK := Lib.hid (fun w' (hb : Below w.heap.size w w') => light_any x p w' (h.later hb))
  rw [hl] at CK
  clear hE h hl
  go_enter Tryd.func4, Tryd.ntmps4
  go_wp2_with (first
    | (go_at_call 10; (with_reducible refine (CV.out _ (one_box _ _)).mono ?_); rintro e w1 ⟨rfl, hb⟩; have KS1 : Hid (Blk w1 w.heap.size 38 (shQ x p)) := Lib.hid ((Blk.new w 38 (shQ x p)).after hb); have Q1 := Lib.hid (keep_trans (one_box _ _) hb); have z0 : w1.cell? ⟨w.heap.size, 0, none⟩ = some (.int .i64 x.horizon) := KS1.out.cell 0; have z1 : w1.cell? ⟨w.heap.size, 1, none⟩ = some (.slice p.a1 x.stops.length p.c1) := KS1.out.cell 1; have z2 : w1.cell? ⟨w.heap.size, 2, none⟩ = some (.slice p.a2 x.paths.length p.c2) := KS1.out.cell 2; have z3 : w1.cell? ⟨w.heap.size, 3, none⟩ = some (.slice p.a3 x.doors.length p.c3) := KS1.out.cell 3; have z4 : w1.cell? ⟨w.heap.size, 4, none⟩ = some (.slice p.a4 x.routes.length p.c4) := KS1.out.cell 4; have z5 : w1.cell? ⟨w.heap.size, 5, none⟩ = some (.slice p.a5 x.trips.length p.c5) := KS1.out.cell 5; have z6 : w1.cell? ⟨w.heap.size, 6, none⟩ = some (.slice p.a6 x.hazards.length p.c6) := KS1.out.cell 6; clear hb)
    | (go_at_call 15; refine (CK.out _ Q1.out).mono ?_; rintro e w2 ⟨rfl, hb⟩; have KS2 := Lib.hid (KS1.out.after hb); have Q2 := Lib.hid (keep_trans Q1.out hb); have z0 : w2.cell? ⟨w.heap.size, 0, none⟩ = some (.int .i64 x.horizon) := KS2.out.cell 0; have z1 : w2.cell? ⟨w.heap.size, 1, none⟩ = some (.slice p.a1 x.stops.length p.c1) := KS2.out.cell 1; have z2 : w2.cell? ⟨w.heap.size, 2, none⟩ = some (.slice p.a2 x.paths.length p.c2) := KS2.out.cell 2; have z3 : w2.cell? ⟨w.heap.size, 3, none⟩ = some (.slice p.a3 x.doors.length p.c3) := KS2.out.cell 3; have z4 : w2.cell? ⟨w.heap.size, 4, none⟩ = some (.slice p.a4 x.routes.length p.c4) := KS2.out.cell 4; have z5 : w2.cell? ⟨w.heap.size, 5, none⟩ = some (.slice p.a5 x.trips.length p.c5) := KS2.out.cell 5; have z6 : w2.cell? ⟨w.heap.size, 6, none⟩ = some (.slice p.a6 x.hazards.length p.c6) := KS2.out.cell 6; clear hb)
    | fail)
  go_ret
  exact ⟨rfl, Q2.out⟩

set_option maxHeartbeats 4000000 in
set_option maxRecDepth 100000 in
theorem lines_not (x : SheetM) (p : ShA) (w : World) (hE : Tk.Env w) (h : Sh w (· < w.heap.size) x p) (hl : lightM x = true) (hc : checkM x ≠ 0) :
    Calls Tryd.prog 4 #[shV x p] w (TrueP w) := by
  have hf := (lt_of hl).few
  have CV := Lib.hid (fun w' (hb : Below w.heap.size w w') => lives_any w' (hE.on hb))
  have CK := Lib.hid (fun w' (hb : Below w.heap.size w w') => light_any x p w' (h.later hb))
  rw [hl] at CK
  have CL := Lib.hid (fun w' (hb : Below w.heap.size w w') => lines_no x p w' (h.later hb) hf hc)
  have CT := Lib.hid (fun w' (hb : Below w.heap.size w w') => text_no x p w' (h.later hb) hf hc)
  have hc2 : ((checkM x : Int) == 0) = false := by simpa using hc
  have hc3 : ((checkM x : Int) != 0) = true := by simpa using hc
  have hc4 : ¬ checkM x = 0 := hc
  clear hE h hl hf hc
  generalize checkM x = C at *
  go_enter Tryd.func4, Tryd.ntmps4
  go_wp2_with (first
    | (go_at_call 10; (with_reducible refine (CV.out _ (one_box _ _)).mono ?_); rintro e w1 ⟨rfl, hb⟩; have KS1 : Hid (Blk w1 w.heap.size 38 (shQ x p)) := Lib.hid ((Blk.new w 38 (shQ x p)).after hb); have Q1 := Lib.hid (keep_trans (one_box _ _) hb); have z0 : w1.cell? ⟨w.heap.size, 0, none⟩ = some (.int .i64 x.horizon) := KS1.out.cell 0; have z1 : w1.cell? ⟨w.heap.size, 1, none⟩ = some (.slice p.a1 x.stops.length p.c1) := KS1.out.cell 1; have z2 : w1.cell? ⟨w.heap.size, 2, none⟩ = some (.slice p.a2 x.paths.length p.c2) := KS1.out.cell 2; have z3 : w1.cell? ⟨w.heap.size, 3, none⟩ = some (.slice p.a3 x.doors.length p.c3) := KS1.out.cell 3; have z4 : w1.cell? ⟨w.heap.size, 4, none⟩ = some (.slice p.a4 x.routes.length p.c4) := KS1.out.cell 4; have z5 : w1.cell? ⟨w.heap.size, 5, none⟩ = some (.slice p.a5 x.trips.length p.c5) := KS1.out.cell 5; have z6 : w1.cell? ⟨w.heap.size, 6, none⟩ = some (.slice p.a6 x.hazards.length p.c6) := KS1.out.cell 6; clear hb)
    | (go_at_call 15; refine (CK.out _ Q1.out).mono ?_; rintro e w2 ⟨rfl, hb⟩; have KS2 := Lib.hid (KS1.out.after hb); have Q2 := Lib.hid (keep_trans Q1.out hb); have z0 : w2.cell? ⟨w.heap.size, 0, none⟩ = some (.int .i64 x.horizon) := KS2.out.cell 0; have z1 : w2.cell? ⟨w.heap.size, 1, none⟩ = some (.slice p.a1 x.stops.length p.c1) := KS2.out.cell 1; have z2 : w2.cell? ⟨w.heap.size, 2, none⟩ = some (.slice p.a2 x.paths.length p.c2) := KS2.out.cell 2; have z3 : w2.cell? ⟨w.heap.size, 3, none⟩ = some (.slice p.a3 x.doors.length p.c3) := KS2.out.cell 3; have z4 : w2.cell? ⟨w.heap.size, 4, none⟩ = some (.slice p.a4 x.routes.length p.c4) := KS2.out.cell 4; have z5 : w2.cell? ⟨w.heap.size, 5, none⟩ = some (.slice p.a5 x.trips.length p.c5) := KS2.out.cell 5; have z6 : w2.cell? ⟨w.heap.size, 6, none⟩ = some (.slice p.a6 x.hazards.length p.c6) := KS2.out.cell 6; clear hb)
    | (go_at_call 9; refine (CL.out _ Q2.out).mono ?_; rintro e w3 ⟨rfl, hb⟩; have KS3 := Lib.hid (KS2.out.after hb); have Q3 := Lib.hid (keep_trans Q2.out hb); have z0 : w3.cell? ⟨w.heap.size, 0, none⟩ = some (.int .i64 x.horizon) := KS3.out.cell 0; have z1 : w3.cell? ⟨w.heap.size, 1, none⟩ = some (.slice p.a1 x.stops.length p.c1) := KS3.out.cell 1; have z2 : w3.cell? ⟨w.heap.size, 2, none⟩ = some (.slice p.a2 x.paths.length p.c2) := KS3.out.cell 2; have z3 : w3.cell? ⟨w.heap.size, 3, none⟩ = some (.slice p.a3 x.doors.length p.c3) := KS3.out.cell 3; have z4 : w3.cell? ⟨w.heap.size, 4, none⟩ = some (.slice p.a4 x.routes.length p.c4) := KS3.out.cell 4; have z5 : w3.cell? ⟨w.heap.size, 5, none⟩ = some (.slice p.a5 x.trips.length p.c5) := KS3.out.cell 5; have z6 : w3.cell? ⟨w.heap.size, 6, none⟩ = some (.slice p.a6 x.hazards.length p.c6) := KS3.out.cell 6; clear hb)
    | (go_at_call 8; refine (CT.out _ Q3.out).mono ?_; rintro e w4 ⟨rfl, hb⟩; have KS4 := Lib.hid (KS3.out.after hb); have Q4 := Lib.hid (keep_trans Q3.out hb); have z0 : w4.cell? ⟨w.heap.size, 0, none⟩ = some (.int .i64 x.horizon) := KS4.out.cell 0; have z1 : w4.cell? ⟨w.heap.size, 1, none⟩ = some (.slice p.a1 x.stops.length p.c1) := KS4.out.cell 1; have z2 : w4.cell? ⟨w.heap.size, 2, none⟩ = some (.slice p.a2 x.paths.length p.c2) := KS4.out.cell 2; have z3 : w4.cell? ⟨w.heap.size, 3, none⟩ = some (.slice p.a3 x.doors.length p.c3) := KS4.out.cell 3; have z4 : w4.cell? ⟨w.heap.size, 4, none⟩ = some (.slice p.a4 x.routes.length p.c4) := KS4.out.cell 4; have z5 : w4.cell? ⟨w.heap.size, 5, none⟩ = some (.slice p.a5 x.trips.length p.c5) := KS4.out.cell 5; have z6 : w4.cell? ⟨w.heap.size, 6, none⟩ = some (.slice p.a6 x.hazards.length p.c6) := KS4.out.cell 6; clear hb)
    | fail)
  go_ret
  exact ⟨rfl, Q4.out⟩

set_option maxHeartbeats 4000000 in
set_option maxRecDepth 100000 in
theorem rthings_any (x : SheetM) (p : ShA) (w : World) (hx : May x) :
    Calls Tryd.prog 16 #[shV x p] w fun e w' => e = .returned (.int .i64 ((x.stops.length + x.paths.length + x.doors.length + x.routes.length + x.trips.length + x.hazards.length : Nat) : Int)) ∧ Below w.heap.size w w' := by
  have h1 := hx.n1
  have h2 := hx.n2
  have h3 := hx.n3
  have h4 := hx.n4
  have h5 := hx.n5
  have h6 := hx.n6
  clear hx
  obtain ⟨hz, s1, s2, s3, s4, s5, s6⟩ := x
  dsimp only at h1 h2 h3 h4 h5 h6 ⊢
  go_enter Tryd.func16, Tryd.ntmps16
  go_wp2
  go_ret
  exact ⟨ret_i (by omega), one_box _ _⟩

set_option maxHeartbeats 16000000 in
set_option maxRecDepth 100000 in
theorem lines_law (x : SheetM) (p : ShA) (w : World) (hE : Tk.Env w) (h : Sh w (· < w.heap.size) x p) (hl : lightM x = true) (hx : May x) :
    Calls Tryd.prog 4 #[shV x p] w (TrueP w) := by
  have hf := (lt_of hl).few
  have CV := Lib.hid (fun w' (hb : Below w.heap.size w w') => lives_any w' (hE.on hb))
  have CK := Lib.hid (fun w' (hb : Below w.heap.size w w') => light_any x p w' (h.later hb))
  rw [hl] at CK
  have CL := Lib.hid (fun w' (hb : Below w.heap.size w w') => lines_may x p w' (h.later hb) hx (hE.on hb))
  have CT := Lib.hid (fun w' (hb : Below w.heap.size w w') => text_ok x p w' (h.later hb) hx (hE.on hb))
  have HH := Lib.hid h
  have HX := Lib.hid hx
  have HE := Lib.hid hE
  clear hE h hl hf hx
  go_enter Tryd.func4, Tryd.ntmps4
  go_wp2_with (first
    | (go_at_call 10; (with_reducible refine (CV.out _ (one_box _ _)).mono ?_); rintro e w1 ⟨rfl, hb⟩; have KS1 : Hid (Blk w1 w.heap.size 38 (shQ x p)) := Lib.hid ((Blk.new w 38 (shQ x p)).after hb); have Q1 := Lib.hid (keep_trans (one_box _ _) hb); have z0 : w1.cell? ⟨w.heap.size, 0, none⟩ = some (.int .i64 x.horizon) := KS1.out.cell 0; have z1 : w1.cell? ⟨w.heap.size, 1, none⟩ = some (.slice p.a1 x.stops.length p.c1) := KS1.out.cell 1; have z2 : w1.cell? ⟨w.heap.size, 2, none⟩ = some (.slice p.a2 x.paths.length p.c2) := KS1.out.cell 2; have z3 : w1.cell? ⟨w.heap.size, 3, none⟩ = some (.slice p.a3 x.doors.length p.c3) := KS1.out.cell 3; have z4 : w1.cell? ⟨w.heap.size, 4, none⟩ = some (.slice p.a4 x.routes.length p.c4) := KS1.out.cell 4; have z5 : w1.cell? ⟨w.heap.size, 5, none⟩ = some (.slice p.a5 x.trips.length p.c5) := KS1.out.cell 5; have z6 : w1.cell? ⟨w.heap.size, 6, none⟩ = some (.slice p.a6 x.hazards.length p.c6) := KS1.out.cell 6; clear hb)
    | (go_at_call 15; refine (CK.out _ Q1.out).mono ?_; rintro e w2 ⟨rfl, hb⟩; have KS2 := Lib.hid (KS1.out.after hb); have Q2 := Lib.hid (keep_trans Q1.out hb); have z0 : w2.cell? ⟨w.heap.size, 0, none⟩ = some (.int .i64 x.horizon) := KS2.out.cell 0; have z1 : w2.cell? ⟨w.heap.size, 1, none⟩ = some (.slice p.a1 x.stops.length p.c1) := KS2.out.cell 1; have z2 : w2.cell? ⟨w.heap.size, 2, none⟩ = some (.slice p.a2 x.paths.length p.c2) := KS2.out.cell 2; have z3 : w2.cell? ⟨w.heap.size, 3, none⟩ = some (.slice p.a3 x.doors.length p.c3) := KS2.out.cell 3; have z4 : w2.cell? ⟨w.heap.size, 4, none⟩ = some (.slice p.a4 x.routes.length p.c4) := KS2.out.cell 4; have z5 : w2.cell? ⟨w.heap.size, 5, none⟩ = some (.slice p.a5 x.trips.length p.c5) := KS2.out.cell 5; have z6 : w2.cell? ⟨w.heap.size, 6, none⟩ = some (.slice p.a6 x.hazards.length p.c6) := KS2.out.cell 6; clear hb)
    | (go_at_call 9; refine (CL.out _ Q2.out).mono ?_; rintro e w3 ⟨A, n, c, hn, rfl, hnc, hrd, hb⟩; have KS3 := Lib.hid (KS2.out.after hb); have Q3 := Lib.hid (keep_trans Q2.out hb); have z0 : w3.cell? ⟨w.heap.size, 0, none⟩ = some (.int .i64 x.horizon) := KS3.out.cell 0; have z1 : w3.cell? ⟨w.heap.size, 1, none⟩ = some (.slice p.a1 x.stops.length p.c1) := KS3.out.cell 1; have z2 : w3.cell? ⟨w.heap.size, 2, none⟩ = some (.slice p.a2 x.paths.length p.c2) := KS3.out.cell 2; have z3 : w3.cell? ⟨w.heap.size, 3, none⟩ = some (.slice p.a3 x.doors.length p.c3) := KS3.out.cell 3; have z4 : w3.cell? ⟨w.heap.size, 4, none⟩ = some (.slice p.a4 x.routes.length p.c4) := KS3.out.cell 4; have z5 : w3.cell? ⟨w.heap.size, 5, none⟩ = some (.slice p.a5 x.trips.length p.c5) := KS3.out.cell 5; have z6 : w3.cell? ⟨w.heap.size, 6, none⟩ = some (.slice p.a6 x.hazards.length p.c6) := KS3.out.cell 6; have HN := Lib.hid hn; have HRD := Lib.hid hrd; clear hb hn hrd)
    | (go_at_call 8; refine (CT.out _ Q3.out).mono ?_; rintro e w4 ⟨rfl, hb⟩; have KS4 := Lib.hid (KS3.out.after hb); have Q4 := Lib.hid (keep_trans Q3.out hb); have z0 : w4.cell? ⟨w.heap.size, 0, none⟩ = some (.int .i64 x.horizon) := KS4.out.cell 0; have z1 : w4.cell? ⟨w.heap.size, 1, none⟩ = some (.slice p.a1 x.stops.length p.c1) := KS4.out.cell 1; have z2 : w4.cell? ⟨w.heap.size, 2, none⟩ = some (.slice p.a2 x.paths.length p.c2) := KS4.out.cell 2; have z3 : w4.cell? ⟨w.heap.size, 3, none⟩ = some (.slice p.a3 x.doors.length p.c3) := KS4.out.cell 3; have z4 : w4.cell? ⟨w.heap.size, 4, none⟩ = some (.slice p.a4 x.routes.length p.c4) := KS4.out.cell 4; have z5 : w4.cell? ⟨w.heap.size, 5, none⟩ = some (.slice p.a5 x.trips.length p.c5) := KS4.out.cell 5; have z6 : w4.cell? ⟨w.heap.size, 6, none⟩ = some (.slice p.a6 x.hazards.length p.c6) := KS4.out.cell 6; have HRD4 := Lib.hid ((HRD.out.keep fun b hk => hb.block b hk.2).more fun b hk => (by have := hb.size; omega : b < w4.heap.size)); clear hb)
    | fail)
  obtain ⟨L, hL⟩ : ∃ L, L = linesT x := ⟨_, rfl⟩
  have HTD : Hid (∀ l ∈ L, Tidy l) := Lib.hid (by rw [hL]; exact tidy_lines HX.out)
  have HES := Lib.hid (ends_short (lines_short HX.out))
  have HLL := Lib.hid hL
  rw [← hL] at HN HRD4 HES
  rw [← hL]
  clear hL
  have hN4 : n ≤ 4000 := by
    have := preX_len HX.out 7 (by omega)
    rw [preX_lines HX.out, ← HLL.out, ← HN.out] at this
    exact this
  go_loop [7, 8] (fun v7 v8 => ∃ k : Nat, v7 = .string ⟨(endsOf (L.take k)).toArray⟩ ∧ v8 = .int .i64 (k : Int) ∧ k ≤ n) (fun _ v => n - (intOf v).toNat)
  case atStart => exact ⟨0, rfl, rfl, by omega⟩
  case round =>
    obtain ⟨k, rfl, rfl, hk⟩ := hrel
    by_cases hlt : k < n
    · obtain ⟨a, ha⟩ := at_in L HN hlt
      obtain ⟨ad, rfl, -, h0, -⟩ := rd_at 1 (fun _ => rfl) (by omega) HRD4.out ha
      obtain ⟨s, hs⟩ : ∃ s : ByteArray, s = ⟨a.toArray⟩ := ⟨_, rfl⟩
      have a0 : w4.cell? (ad.add k) = some (.string s) := by rw [Nat.mul_one] at h0; rw [hs]; exact h0
      have HT := Lib.hid (HTD.out a (List.mem_of_getElem? ha))
      have hl1 := (HES.out (k + 1)).1
      have HM := Lib.hid (ends_more ha).1
      rw [HM.out] at hl1
      simp only [List.length_append, List.length_singleton] at hl1
      have HSA : Hid (a = s.data.toList) := Lib.hid (by rw [hs])
      have hsz : a.length = s.size := by rw [HSA.out, ← Lib.size_eq]
      have hss : s.size ≤ 20000000 := by omega
      have f1 : ¬ 9223372036854775807 < (endsOf (L.take k)).length + s.size := by omega
      have f2 : ¬ 9223372036854775807 < (endsOf (L.take k)).length + s.size + 1 := by omega
      have hi : (k : Int) < (n : Int) := by omega
      clear ha h0 hl1 hs
      generalize endsOf (L.take k) = T at *
      go_wp2
      obtain ⟨U, hU⟩ : ∃ U : ByteArray, U = ⟨T.toArray⟩ ++ s ++ ⟨#[10]⟩ := ⟨_, rfl⟩
      have HU : Hid (U = ⟨(endsOf (L.take (k + 1))).toArray⟩) := Lib.hid (by rw [hU, HM.out, HSA.out]; exact bytes_eq (by simp))
      rw [← hU]
      clear hU f1 f2
      go_loop [9] (fun v9 => ∃ j : Nat, v9 = .int .i64 (j : Int) ∧ j ≤ s.size) (fun v => s.size - (intOf v).toNat)
      case atStart => exact ⟨0, rfl, by omega⟩
      case round =>
        obtain ⟨j, rfl, hj⟩ := hrel
        by_cases hjs : j < s.size
        · have hjn : (j : Int) < (s.size : Int) := by omega
          have hb := byte_at s j hjs
          have ht := HT.out j s[j] (by rw [HSA.out]; exact hb)
          rcases ht with ⟨d1, d2⟩ | ⟨d1, d2, d3, d, d4, d5, d6⟩
          · have e1 : ¬ (s[j].toNat : Int) < 32 := by omega
            have e2 : ¬ 122 < (s[j].toNat : Int) := by omega
            have e3 : ((s[j].toNat : Int) == 32) = false := by simp; omega
            clear hb
            go_wp2
            go_round
            case rel => exact ⟨j + 1, by go_num, by omega⟩
            case measure => simp [intOf]; omega
          · obtain ⟨m, rfl⟩ : ∃ m, j = m + 1 := ⟨j - 1, by omega⟩
            have hms : m < s.size := by omega
            rw [HSA.out, Nat.add_sub_cancel, byte_at s m hms] at d4
            cases d4
            have em : ((m + 1 : Nat) : Int) = (m : Int) + 1 := by omega
            rw [em] at hjn ⊢
            rw [hsz] at d3
            have e1 : ¬ (s[m + 1].toNat : Int) < 32 := by omega
            have e2 : ¬ 122 < (s[m + 1].toNat : Int) := by omega
            have e3 : ((s[m + 1].toNat : Int) == 32) = true := by simp; omega
            have e4 : (((m : Int) + 1) == 0) = false := by simp; omega
            have e5 : (((m : Int) + 1 + 1) == (s.size : Int)) = false := by simp; omega
            have e6 : ((s[m].toNat : Int) == 32) = false := by simp; omega
            clear hb em
            go_wp2
            go_round
            case rel => exact ⟨m + 2, by go_num, by omega⟩
            case measure => simp [intOf]; omega
        · have hjn : ¬ (j : Int) < (s.size : Int) := by omega
          go_wp2
          go_round
          case rel => exact ⟨k + 1, by rw [HU.out], by go_num, by omega⟩
          case measure => simp [intOf]; omega
    · have hi : ¬ (k : Int) < (n : Int) := by omega
      have HF : Hid (endsOf (L.take k) = endsOf L) := Lib.hid (by rw [List.take_of_length_le (by rw [← HN.out]; omega)])
      rw [HF.out]
      have CTH := Lib.hid (fun w' => rthings_any x p w' HX.out)
      obtain ⟨N, hNN⟩ : ∃ N, N = x.stops.length + x.paths.length + x.doors.length + x.routes.length + x.trips.length + x.hazards.length := ⟨_, rfl⟩
      rw [← hNN] at CTH
      have hnN : n = N + 1 := by rw [HN.out, HLL.out, lines_len, hNN]
      have htn : ((n : Int) != 1 + (N : Int)) = false := by simp; omega
      have htn2 : ((n : Int) == 1 + (N : Int)) = true := by simp; omega
      have hN5 : N ≤ 5000 := by omega
      have HT1 := hNN
      obtain ⟨m1, hm1⟩ : ∃ m, m = x.stops.length := ⟨_, rfl⟩
      have hx1 : m1 ≤ 256 := by rw [hm1]; exact HX.out.n1
      obtain ⟨q1, hq1⟩ : ∃ q, q = p.a1 := ⟨_, rfl⟩
      obtain ⟨d1, hd1⟩ : ∃ q, q = p.c1 := ⟨_, rfl⟩
      obtain ⟨m2, hm2⟩ : ∃ m, m = x.paths.length := ⟨_, rfl⟩
      have hx2 : m2 ≤ 1024 := by rw [hm2]; exact HX.out.n2
      obtain ⟨q2, hq2⟩ : ∃ q, q = p.a2 := ⟨_, rfl⟩
      obtain ⟨d2, hd2⟩ : ∃ q, q = p.c2 := ⟨_, rfl⟩
      obtain ⟨m3, hm3⟩ : ∃ m, m = x.doors.length := ⟨_, rfl⟩
      have hx3 : m3 ≤ 256 := by rw [hm3]; exact HX.out.n3
      obtain ⟨q3, hq3⟩ : ∃ q, q = p.a3 := ⟨_, rfl⟩
      obtain ⟨d3, hd3⟩ : ∃ q, q = p.c3 := ⟨_, rfl⟩
      obtain ⟨m4, hm4⟩ : ∃ m, m = x.routes.length := ⟨_, rfl⟩
      have hx4 : m4 ≤ 256 := by rw [hm4]; exact HX.out.n4
      obtain ⟨q4, hq4⟩ : ∃ q, q = p.a4 := ⟨_, rfl⟩
      obtain ⟨d4, hd4⟩ : ∃ q, q = p.c4 := ⟨_, rfl⟩
      obtain ⟨m5, hm5⟩ : ∃ m, m = x.trips.length := ⟨_, rfl⟩
      have hx5 : m5 ≤ 1024 := by rw [hm5]; exact HX.out.n5
      obtain ⟨q5, hq5⟩ : ∃ q, q = p.a5 := ⟨_, rfl⟩
      obtain ⟨d5, hd5⟩ : ∃ q, q = p.c5 := ⟨_, rfl⟩
      obtain ⟨m6, hm6⟩ : ∃ m, m = x.hazards.length := ⟨_, rfl⟩
      have hx6 : m6 ≤ 256 := by rw [hm6]; exact HX.out.n6
      obtain ⟨q6, hq6⟩ : ∃ q, q = p.a6 := ⟨_, rfl⟩
      obtain ⟨d6, hd6⟩ : ∃ q, q = p.c6 := ⟨_, rfl⟩
      have hnm : 1 + m1 + m2 + m3 + m4 + m5 + m6 ≤ n := by omega
      clear hNN hnN HT1
      have HM1 := Lib.hid hm1
      have HM2 := Lib.hid hm2
      have HM3 := Lib.hid hm3
      have HM4 := Lib.hid hm4
      have HM5 := Lib.hid hm5
      have HM6 := Lib.hid hm6
      have HSH : Hid (Sh w (· < w.heap.size) x ⟨q1, q2, q3, q4, q5, q6, d1, d2, d3, d4, d5, d6⟩) := Lib.hid (by rw [hq1, hq2, hq3, hq4, hq5, hq6, hd1, hd2, hd3, hd4, hd5, hd6]; exact HH.out)
      have HMB : Hid (∀ w', Below w4.heap.size w4 w' → Blk w' w.heap.size 38 [.int .i64 x.horizon, .slice q1 m1 d1, .slice q2 m2 d2, .slice q3 m3 d3, .slice q4 m4 d4, .slice q5 m5 d5, .slice q6 m6 d6]) := Lib.hid (fun w' hb => by rw [hq1, hq2, hq3, hq4, hq5, hq6, hd1, hd2, hd3, hd4, hd5, hd6, hm1, hm2, hm3, hm4, hm5, hm6]; exact KS4.out.after hb)
      clear hm1 hm2 hm3 hm4 hm5 hm6 hq1 hq2 hq3 hq4 hq5 hq6 hd1 hd2 hd3 hd4 hd5 hd6
      obtain ⟨t1, ht1⟩ : ∃ t, t = 1 + m1 := ⟨_, rfl⟩
      have u1 := Nat.le_of_eq ht1
      have v1 := Nat.le_of_eq ht1.symm
      have HE1 : Hid ((1 : Int) + (m1 : Int) = (t1 : Int)) := Lib.hid (by omega)
      have HTT1 := Lib.hid ht1
      clear ht1
      go_wp2_with (first
        | (go_at_call 16; refine (CTH.out _).mono ?_; rintro e w5 ⟨rfl, hb⟩; have K5 := Lib.hid (HMB.out _ hb); have Q5 := Lib.hid (keep_trans Q4.out hb); have HRD5 := Lib.hid ((HRD4.out.keep fun b hk => hb.block b hk).more fun b hk => (by have := hb.size; omega : b < w5.heap.size)); have y1 : w5.cell? ⟨w.heap.size, 1, none⟩ = some (.slice q1 m1 d1) := K5.out.cell 1; clear hb)
        | fail)
      rw [HE1.out]
      clear y1 z0 z1 z2 z3 z4 z5 z6 htn htn2 HMB
      go_loopw [12] (fun v wr => ∃ k : Nat, v = .int .i64 (k : Int) ∧ k ≤ m2 ∧ Hid (Below w5.heap.size w5 wr)) (fun v _ => m2 - (intOf v).toNat)
      case atStart => exact ⟨0, rfl, by omega, Lib.hid (Below.refl _ _)⟩
      case round =>
        obtain ⟨k, rfl, hk, HB⟩ := hrel
        have K6 := Lib.hid (K5.out.after HB.out)
        have b2 : wr.cell? ⟨w.heap.size, 2, none⟩ = some (.slice q2 m2 d2) := K6.out.cell 2
        by_cases hlt : k < m2
        · obtain ⟨a, ha⟩ := at_in x.paths HM2 hlt
          have HWB : Hid (Below w.heap.size w wr) := Lib.hid (keep_trans Q5.out HB.out)
          have hat : L[t1 + k]? = some (pathX a) := by
            have := at_path HX.out ha
            rw [← HLL.out] at this
            rw [show t1 + k = 1 + x.stops.length + k by rw [HTT1.out, HM1.out]]
            exact this
          obtain ⟨ad, hA, -, g0, -⟩ := rd_at 1 (fun _ => rfl) (by omega) (rd_later HRD5.out HB.out) hat
          subst hA
          have g1 : wr.cell? (ad.add (t1 + k)) = some (.string ⟨(pathX a).toArray⟩) := by rw [Nat.mul_one] at g0; exact g0
          have HX1 := Lib.hid (fun w' (hb : Below wr.heap.size wr w') => el_path HX.out (List.mem_of_getElem? ha) w' (HE.out.on (keep_trans HWB.out hb)))
          obtain ⟨pd, hP, hS, h0, hj⟩ := rd_at 4 (fun _ => rfl) (by omega) (rd_later HSH.out.r2 HWB.out) ha
          change q2 = some pd at hP
          subst hP
          obtain ⟨PX, hPX⟩ : ∃ PX, PX = pathX a := ⟨_, rfl⟩
          rw [← hPX] at g1 HX1
          obtain ⟨x0, x1, x2, x3⟩ := a
          have a0 : wr.cell? (pd.add (k * 4)) = some (.string ⟨x0.toArray⟩) := h0
          have a1 : wr.cell? ⟨(pd.add (k * 4)).block, (pd.add (k * 4)).off + 1, none⟩ = some (.string ⟨x1.toArray⟩) := (hj 1 (by omega)).resolve_right (by omega)
          have a2 : wr.cell? ⟨(pd.add (k * 4)).block, (pd.add (k * 4)).off + 2, none⟩ = some (.string ⟨x2.toArray⟩) := (hj 2 (by omega)).resolve_right (by omega)
          have a3 : wr.cell? ⟨(pd.add (k * 4)).block, (pd.add (k * 4)).off + 3, none⟩ = some (.int .i64 x3) := (hj 3 (by omega)).resolve_right (by omega)
          have HPB : Hid (pd.block < wr.heap.size) := Lib.hid (by have := HWB.out.size; omega)
          have HCX : Hid (∀ w', Below wr.heap.size wr w' → Calls Tryd.prog 11 #[.agg #[.string ⟨x0.toArray⟩, .string ⟨x1.toArray⟩, .string ⟨x2.toArray⟩, .int .i64 x3]] w' (TextPost w' PX)) := Lib.hid (fun w' hb => HX1.out w' hb)
          have HAB : Hid (ad.block < wr.heap.size) := Lib.hid (by obtain ⟨x, e, hx, -⟩ := rd_at 1 (fun _ => rfl) (by omega) (rd_later HRD5.out HB.out) hat; cases e; exact hx)
          have KC : Hid (∀ w', Below wr.heap.size wr w' → w'.cell? (ad.add (t1 + k)) = some (.string ⟨PX.toArray⟩) ∧ w'.cell? ⟨w.heap.size, 2, none⟩ = some (.slice (some pd) m2 d2) ∧ w'.cell? (pd.add (k * 4)) = some (.string ⟨x0.toArray⟩) ∧ w'.cell? ⟨(pd.add (k * 4)).block, (pd.add (k * 4)).off + 1, none⟩ = some (.string ⟨x1.toArray⟩) ∧ w'.cell? ⟨(pd.add (k * 4)).block, (pd.add (k * 4)).off + 2, none⟩ = some (.string ⟨x2.toArray⟩) ∧ w'.cell? ⟨(pd.add (k * 4)).block, (pd.add (k * 4)).off + 3, none⟩ = some (.int .i64 x3)) := Lib.hid (fun w' hb => by
            have hp4 : (pd.add (k * 4)).block < wr.heap.size := by rw [block_of_add]; exact HPB.out
            refine ⟨(by refine (cell_keep hb ?_).trans g1; rw [block_of_add]; exact HAB.out), (K6.out.after hb).cell 2, (by refine (cell_keep hb ?_).trans a0; exact hp4), (by refine (cell_keep hb ?_).trans a1; exact hp4), (by refine (cell_keep hb ?_).trans a2; exact hp4), (by refine (cell_keep hb ?_).trans a3; exact hp4)⟩)
          have f1 : IntKind.i64.wrap ((t1 : Int) + (k : Int)) = (t1 : Int) + (k : Int) := IntWalk.i64_in _ ⟨by omega, by omega⟩
          have f2 : (0 : Int) ≤ (t1 : Int) + (k : Int) := by omega
          have f3 : ((t1 : Int) + (k : Int)).toNat = t1 + k := by omega
          have f4 : (t1 : Int) + (k : Int) < (n : Int) := by omega
          have hi : (k : Int) < (m2 : Int) := by omega
          clear g0 hat ha h0 hj hPX HX1
          go_upto_region 28 with (fail)
          go_region_held3 (fun w' => w'.cell? (ad.add (t1 + k)) = some (.string ⟨PX.toArray⟩) ∧ w'.cell? ⟨w.heap.size, 2, none⟩ = some (.slice (some pd) m2 d2) ∧ w'.cell? (pd.add (k * 4)) = some (.string ⟨x0.toArray⟩) ∧ w'.cell? ⟨(pd.add (k * 4)).block, (pd.add (k * 4)).off + 1, none⟩ = some (.string ⟨x1.toArray⟩) ∧ w'.cell? ⟨(pd.add (k * 4)).block, (pd.add (k * 4)).off + 2, none⟩ = some (.string ⟨x2.toArray⟩) ∧ w'.cell? ⟨(pd.add (k * 4)).block, (pd.add (k * 4)).off + 3, none⟩ = some (.int .i64 x3)) (first | exact KC.out _ Q6.out | exact KC.out _ (below_drew (Below.refl _ _)) | exact KC.out _ (below_drewN (Below.refl _ _) _) | go_keep) (first
            | (go_at_call 11; (with_reducible refine (HCX.out _ (by first | exact below_drew (Below.refl _ _) | exact below_drewN (Below.refl _ _) _ | exact Below.refl _ _)).mono ?_); rintro e w6 ⟨rfl, hb⟩; have Q6 : Hid (Below wr.heap.size wr w6) := Lib.hid (by first | exact keep_trans (below_drew (Below.refl _ _)) hb | exact keep_trans (below_drewN (Below.refl _ _) _) hb | exact hb); clear hb)
            | fail)
          clear f1 f2 f3 f4
          go_wp2_with fail
          go_roundw
          case rel => exact ⟨k + 1, by go_num, by omega, Lib.hid (by first | exact keep_trans HB.out Q6.out | exact below_drew (keep_trans HB.out Q6.out) | exact below_drewN (keep_trans HB.out Q6.out) _)⟩
          case measure => simp [intOf]; omega
        · have hi : ¬ (k : Int) < (m2 : Int) := by omega
          obtain ⟨t2, ht2⟩ : ∃ t, t = t1 + m2 := ⟨_, rfl⟩
          have HE1 : Hid ((t1 : Int) + (m2 : Int) = (t2 : Int)) := Lib.hid (by omega)
          have u2 := Nat.le_of_eq ht2
          have v2 := Nat.le_of_eq ht2.symm
          have HTT2 := Lib.hid ht2
          clear ht2
          go_wp2_with fail
          rw [HE1.out]
          clear b2 hi hlt hk
          go_loopw [13] (fun v wr => ∃ k : Nat, v = .int .i64 (k : Int) ∧ k ≤ m3 ∧ Hid (Below w5.heap.size w5 wr)) (fun v _ => m3 - (intOf v).toNat)
          case atStart => exact ⟨0, rfl, by omega, Lib.hid (by first | exact HB.out | exact below_drew HB.out | exact below_drewN HB.out _)⟩
          case round =>
            obtain ⟨k, rfl, hk, HB⟩ := hrel
            have K6 := Lib.hid (K5.out.after HB.out)
            have b3 : wr.cell? ⟨w.heap.size, 3, none⟩ = some (.slice q3 m3 d3) := K6.out.cell 3
            by_cases hlt : k < m3
            · obtain ⟨a, ha⟩ := at_in x.doors HM3 hlt
              have HWB : Hid (Below w.heap.size w wr) := Lib.hid (keep_trans Q5.out HB.out)
              have hat : L[t2 + k]? = some (doorX a) := by
                have := at_door HX.out ha
                rw [← HLL.out] at this
                rw [show t2 + k = 1 + x.stops.length + x.paths.length + k by rw [HTT2.out, HTT1.out, HM1.out, HM2.out]]
                exact this
              obtain ⟨ad, hA, -, g0, -⟩ := rd_at 1 (fun _ => rfl) (by omega) (rd_later HRD5.out HB.out) hat
              subst hA
              have g1 : wr.cell? (ad.add (t2 + k)) = some (.string ⟨(doorX a).toArray⟩) := by rw [Nat.mul_one] at g0; exact g0
              have HX1 := Lib.hid (fun w' (hb : Below wr.heap.size wr w') => el_door HX.out (List.mem_of_getElem? ha) w' (HE.out.on (keep_trans HWB.out hb)))
              obtain ⟨pd, hP, hS, h0, hj⟩ := rd_at 7 (fun _ => rfl) (by omega) (rd_later HSH.out.r3 HWB.out) ha
              change q3 = some pd at hP
              subst hP
              obtain ⟨PX, hPX⟩ : ∃ PX, PX = doorX a := ⟨_, rfl⟩
              rw [← hPX] at g1 HX1
              obtain ⟨x0, x1, x2, x3, ⟨x4, x5, x6⟩⟩ := a
              have a0 : wr.cell? (pd.add (k * 7)) = some (.string ⟨x0.toArray⟩) := h0
              have a1 : wr.cell? ⟨(pd.add (k * 7)).block, (pd.add (k * 7)).off + 1, none⟩ = some (.string ⟨x1.toArray⟩) := (hj 1 (by omega)).resolve_right (by omega)
              have a2 : wr.cell? ⟨(pd.add (k * 7)).block, (pd.add (k * 7)).off + 2, none⟩ = some (.string ⟨x2.toArray⟩) := (hj 2 (by omega)).resolve_right (by omega)
              have a3 : wr.cell? ⟨(pd.add (k * 7)).block, (pd.add (k * 7)).off + 3, none⟩ = some (.int .i64 x3) := (hj 3 (by omega)).resolve_right (by omega)
              have a4 : wr.cell? ⟨(pd.add (k * 7)).block, (pd.add (k * 7)).off + 4, none⟩ = some (.int .i64 x4) := (hj 4 (by omega)).resolve_right (by omega)
              have a5 : wr.cell? ⟨(pd.add (k * 7)).block, (pd.add (k * 7)).off + 5, none⟩ = some (.int .i64 x5) := (hj 5 (by omega)).resolve_right (by omega)
              have a6 : wr.cell? ⟨(pd.add (k * 7)).block, (pd.add (k * 7)).off + 6, none⟩ = some (.int .i64 x6) := (hj 6 (by omega)).resolve_right (by omega)
              have HPB : Hid (pd.block < wr.heap.size) := Lib.hid (by have := HWB.out.size; omega)
              have HCX : Hid (∀ w', Below wr.heap.size wr w' → Calls Tryd.prog 17 #[.agg #[.string ⟨x0.toArray⟩, .string ⟨x1.toArray⟩, .string ⟨x2.toArray⟩, .int .i64 x3, .int .i64 x4, .int .i64 x5, .int .i64 x6]] w' (TextPost w' PX)) := Lib.hid (fun w' hb => HX1.out w' hb)
              have HAB : Hid (ad.block < wr.heap.size) := Lib.hid (by obtain ⟨x, e, hx, -⟩ := rd_at 1 (fun _ => rfl) (by omega) (rd_later HRD5.out HB.out) hat; cases e; exact hx)
              have KC : Hid (∀ w', Below wr.heap.size wr w' → w'.cell? (ad.add (t2 + k)) = some (.string ⟨PX.toArray⟩) ∧ w'.cell? ⟨w.heap.size, 3, none⟩ = some (.slice (some pd) m3 d3) ∧ w'.cell? (pd.add (k * 7)) = some (.string ⟨x0.toArray⟩) ∧ w'.cell? ⟨(pd.add (k * 7)).block, (pd.add (k * 7)).off + 1, none⟩ = some (.string ⟨x1.toArray⟩) ∧ w'.cell? ⟨(pd.add (k * 7)).block, (pd.add (k * 7)).off + 2, none⟩ = some (.string ⟨x2.toArray⟩) ∧ w'.cell? ⟨(pd.add (k * 7)).block, (pd.add (k * 7)).off + 3, none⟩ = some (.int .i64 x3) ∧ w'.cell? ⟨(pd.add (k * 7)).block, (pd.add (k * 7)).off + 4, none⟩ = some (.int .i64 x4) ∧ w'.cell? ⟨(pd.add (k * 7)).block, (pd.add (k * 7)).off + 5, none⟩ = some (.int .i64 x5) ∧ w'.cell? ⟨(pd.add (k * 7)).block, (pd.add (k * 7)).off + 6, none⟩ = some (.int .i64 x6)) := Lib.hid (fun w' hb => by
                have hp4 : (pd.add (k * 7)).block < wr.heap.size := by rw [block_of_add]; exact HPB.out
                refine ⟨(by refine (cell_keep hb ?_).trans g1; rw [block_of_add]; exact HAB.out), (K6.out.after hb).cell 3, (by refine (cell_keep hb ?_).trans a0; exact hp4), (by refine (cell_keep hb ?_).trans a1; exact hp4), (by refine (cell_keep hb ?_).trans a2; exact hp4), (by refine (cell_keep hb ?_).trans a3; exact hp4), (by refine (cell_keep hb ?_).trans a4; exact hp4), (by refine (cell_keep hb ?_).trans a5; exact hp4), (by refine (cell_keep hb ?_).trans a6; exact hp4)⟩)
              have f1 : IntKind.i64.wrap ((t2 : Int) + (k : Int)) = (t2 : Int) + (k : Int) := IntWalk.i64_in _ ⟨by omega, by omega⟩
              have f2 : (0 : Int) ≤ (t2 : Int) + (k : Int) := by omega
              have f3 : ((t2 : Int) + (k : Int)).toNat = t2 + k := by omega
              have f4 : (t2 : Int) + (k : Int) < (n : Int) := by omega
              have hi : (k : Int) < (m3 : Int) := by omega
              clear g0 hat ha h0 hj hPX HX1
              go_upto_region 34 with (fail)
              go_region_held3 (fun w' => w'.cell? (ad.add (t2 + k)) = some (.string ⟨PX.toArray⟩) ∧ w'.cell? ⟨w.heap.size, 3, none⟩ = some (.slice (some pd) m3 d3) ∧ w'.cell? (pd.add (k * 7)) = some (.string ⟨x0.toArray⟩) ∧ w'.cell? ⟨(pd.add (k * 7)).block, (pd.add (k * 7)).off + 1, none⟩ = some (.string ⟨x1.toArray⟩) ∧ w'.cell? ⟨(pd.add (k * 7)).block, (pd.add (k * 7)).off + 2, none⟩ = some (.string ⟨x2.toArray⟩) ∧ w'.cell? ⟨(pd.add (k * 7)).block, (pd.add (k * 7)).off + 3, none⟩ = some (.int .i64 x3) ∧ w'.cell? ⟨(pd.add (k * 7)).block, (pd.add (k * 7)).off + 4, none⟩ = some (.int .i64 x4) ∧ w'.cell? ⟨(pd.add (k * 7)).block, (pd.add (k * 7)).off + 5, none⟩ = some (.int .i64 x5) ∧ w'.cell? ⟨(pd.add (k * 7)).block, (pd.add (k * 7)).off + 6, none⟩ = some (.int .i64 x6)) (first | exact KC.out _ Q6.out | exact KC.out _ (below_drew (Below.refl _ _)) | exact KC.out _ (below_drewN (Below.refl _ _) _) | go_keep) (first
                | (go_at_call 17; (with_reducible refine (HCX.out _ (by first | exact below_drew (Below.refl _ _) | exact below_drewN (Below.refl _ _) _ | exact Below.refl _ _)).mono ?_); rintro e w6 ⟨rfl, hb⟩; have Q6 : Hid (Below wr.heap.size wr w6) := Lib.hid (by first | exact keep_trans (below_drew (Below.refl _ _)) hb | exact keep_trans (below_drewN (Below.refl _ _) _) hb | exact hb); clear hb)
                | fail)
              clear f1 f2 f3 f4
              go_wp2_with fail
              go_roundw
              case rel => exact ⟨k + 1, by go_num, by omega, Lib.hid (by first | exact keep_trans HB.out Q6.out | exact below_drew (keep_trans HB.out Q6.out) | exact below_drewN (keep_trans HB.out Q6.out) _)⟩
              case measure => simp [intOf]; omega
            · have hi : ¬ (k : Int) < (m3 : Int) := by omega
              obtain ⟨t3, ht3⟩ : ∃ t, t = t2 + m3 := ⟨_, rfl⟩
              have HE1 : Hid ((t2 : Int) + (m3 : Int) = (t3 : Int)) := Lib.hid (by omega)
              have u3 := Nat.le_of_eq ht3
              have v3 := Nat.le_of_eq ht3.symm
              have HTT3 := Lib.hid ht3
              clear ht3
              go_wp2_with fail
              rw [HE1.out]
              clear b3 hi hlt hk
              go_loopw [14] (fun v wr => ∃ k : Nat, v = .int .i64 (k : Int) ∧ k ≤ m4 ∧ Hid (Below w5.heap.size w5 wr)) (fun v _ => m4 - (intOf v).toNat)
              case atStart => exact ⟨0, rfl, by omega, Lib.hid (by first | exact HB.out | exact below_drew HB.out | exact below_drewN HB.out _)⟩
              case round =>
                obtain ⟨k, rfl, hk, HB⟩ := hrel
                have K6 := Lib.hid (K5.out.after HB.out)
                have b4 : wr.cell? ⟨w.heap.size, 4, none⟩ = some (.slice q4 m4 d4) := K6.out.cell 4
                by_cases hlt : k < m4
                · obtain ⟨a, ha⟩ := at_in x.routes HM4 hlt
                  have HWB : Hid (Below w.heap.size w wr) := Lib.hid (keep_trans Q5.out HB.out)
                  have hat : L[t3 + k]? = some (routeX a) := by
                    have := at_route HX.out ha
                    rw [← HLL.out] at this
                    rw [show t3 + k = 1 + x.stops.length + x.paths.length + x.doors.length + k by rw [HTT3.out, HTT2.out, HTT1.out, HM1.out, HM2.out, HM3.out]]
                    exact this
                  obtain ⟨ad, hA, hAB, g0, -⟩ := rd_at 1 (fun _ => rfl) (by omega) (rd_later HRD5.out HB.out) hat
                  subst hA
                  have g1 : wr.cell? (ad.add (t3 + k)) = some (.string ⟨(routeX a).toArray⟩) := by rw [Nat.mul_one] at g0; exact g0
                  obtain ⟨cl, hr4, hrt⟩ := HSH.out.r4
                  obtain ⟨pd, hP, hS, sa, sc, ra, rc, ya, yc, a0, a1, a2, a3, hg0⟩ := rts_at (rd_later hr4 HWB.out) (hrt.later HWB.out) ha
                  change q4 = some pd at hP
                  subst hP
                  have HX1 := Lib.hid (fun w' (hb : Below wr.heap.size wr w') => el_route HX.out (List.mem_of_getElem? ha) w' (HE.out.on (keep_trans HWB.out hb)) (sa := sa) (sc := sc) (ra := ra) (rc := rc) (ya := ya) (yc := yc) (hg0.later hb))
                  obtain ⟨PX, hPX⟩ : ∃ PX, PX = routeX a := ⟨_, rfl⟩
                  rw [← hPX] at g1 HX1
                  clear hat hPX ha hg0 hr4 hrt
                  obtain ⟨nm, st, ri, sy⟩ := a
                  dsimp only at a0 a1 a2 a3 HX1
                  obtain ⟨n1, hn1⟩ : ∃ n, n = st.length := ⟨_, rfl⟩
                  rw [← hn1] at a1
                  obtain ⟨n2, hn2⟩ : ∃ n, n = ri.length := ⟨_, rfl⟩
                  rw [← hn2] at a2
                  obtain ⟨n3, hn3⟩ : ∃ n, n = sy.length := ⟨_, rfl⟩
                  rw [← hn3] at a3
                  have HX2 := HX1.out
                  simp only [rtV, ← hn1, ← hn2, ← hn3] at HX2
                  have HX1 := Lib.hid HX2
                  clear hn1 hn2 hn3 HX2
                  have HPB : Hid (pd.block < wr.heap.size) := Lib.hid (by omega)
                  have HCX : Hid (∀ w', Below wr.heap.size wr w' → Calls Tryd.prog 14 #[.agg #[.string ⟨nm.toArray⟩, .slice sa n1 sc, .slice ra n2 rc, .slice ya n3 yc]] w' (TextPost w' PX)) := Lib.hid (fun w' hb => HX1.out w' hb)
                  have HAB : Hid (ad.block < wr.heap.size) := Lib.hid hAB
                  have KC : Hid (∀ w', Below wr.heap.size wr w' → w'.cell? (ad.add (t3 + k)) = some (.string ⟨PX.toArray⟩) ∧ w'.cell? ⟨w.heap.size, 4, none⟩ = some (.slice (some pd) m4 d4) ∧ w'.cell? (pd.add (k * 4)) = some (.string ⟨nm.toArray⟩) ∧ w'.cell? ⟨(pd.add (k * 4)).block, (pd.add (k * 4)).off + 1, none⟩ = some (.slice sa n1 sc) ∧ w'.cell? ⟨(pd.add (k * 4)).block, (pd.add (k * 4)).off + 2, none⟩ = some (.slice ra n2 rc) ∧ w'.cell? ⟨(pd.add (k * 4)).block, (pd.add (k * 4)).off + 3, none⟩ = some (.slice ya n3 yc)) := Lib.hid (fun w' hb => by
                    have hp4 : (pd.add (k * 4)).block < wr.heap.size := by rw [block_of_add]; exact HPB.out
                    refine ⟨(by refine (cell_keep hb ?_).trans g1; rw [block_of_add]; exact HAB.out), (K6.out.after hb).cell 4, (by refine (cell_keep hb ?_).trans a0; exact hp4), (by refine (cell_keep hb ?_).trans a1; exact hp4), (by refine (cell_keep hb ?_).trans a2; exact hp4), (by refine (cell_keep hb ?_).trans a3; exact hp4)⟩)
                  have f1 : IntKind.i64.wrap ((t3 : Int) + (k : Int)) = (t3 : Int) + (k : Int) := IntWalk.i64_in _ ⟨by omega, by omega⟩
                  have f2 : (0 : Int) ≤ (t3 : Int) + (k : Int) := by omega
                  have f3 : ((t3 : Int) + (k : Int)).toNat = t3 + k := by omega
                  have f4 : (t3 : Int) + (k : Int) < (n : Int) := by omega
                  have hi : (k : Int) < (m4 : Int) := by omega
                  clear g0 HX1 hAB hS
                  go_upto_region 40 with (fail)
                  go_region_held3 (fun w' => w'.cell? (ad.add (t3 + k)) = some (.string ⟨PX.toArray⟩) ∧ w'.cell? ⟨w.heap.size, 4, none⟩ = some (.slice (some pd) m4 d4) ∧ w'.cell? (pd.add (k * 4)) = some (.string ⟨nm.toArray⟩) ∧ w'.cell? ⟨(pd.add (k * 4)).block, (pd.add (k * 4)).off + 1, none⟩ = some (.slice sa n1 sc) ∧ w'.cell? ⟨(pd.add (k * 4)).block, (pd.add (k * 4)).off + 2, none⟩ = some (.slice ra n2 rc) ∧ w'.cell? ⟨(pd.add (k * 4)).block, (pd.add (k * 4)).off + 3, none⟩ = some (.slice ya n3 yc)) (first | exact KC.out _ Q6.out | exact KC.out _ (below_drew (Below.refl _ _)) | exact KC.out _ (below_drewN (Below.refl _ _) _) | go_keep) (first
                    | (go_at_call 14; (with_reducible refine (HCX.out _ (by first | exact below_drew (Below.refl _ _) | exact below_drewN (Below.refl _ _) _ | exact Below.refl _ _)).mono ?_); rintro e w6 ⟨rfl, hb⟩; have Q6 : Hid (Below wr.heap.size wr w6) := Lib.hid (by first | exact keep_trans (below_drew (Below.refl _ _)) hb | exact keep_trans (below_drewN (Below.refl _ _) _) hb | exact hb); clear hb)
                    | fail)
                  clear f1 f2 f3 f4
                  go_wp2_with fail
                  go_roundw
                  case rel => exact ⟨k + 1, by go_num, by omega, Lib.hid (by first | exact keep_trans HB.out Q6.out | exact below_drew (keep_trans HB.out Q6.out) | exact below_drewN (keep_trans HB.out Q6.out) _)⟩
                  case measure => simp [intOf]; omega
                · have hi : ¬ (k : Int) < (m4 : Int) := by omega
                  obtain ⟨t4, ht4⟩ : ∃ t, t = t3 + m4 := ⟨_, rfl⟩
                  have HE1 : Hid ((t3 : Int) + (m4 : Int) = (t4 : Int)) := Lib.hid (by omega)
                  have u4 := Nat.le_of_eq ht4
                  have v4 := Nat.le_of_eq ht4.symm
                  have HTT4 := Lib.hid ht4
                  clear ht4
                  go_wp2_with fail
                  rw [HE1.out]
                  clear b4 hi hlt hk
                  go_loopw [15] (fun v wr => ∃ k : Nat, v = .int .i64 (k : Int) ∧ k ≤ m5 ∧ Hid (Below w5.heap.size w5 wr)) (fun v _ => m5 - (intOf v).toNat)
                  case atStart => exact ⟨0, rfl, by omega, Lib.hid (by first | exact HB.out | exact below_drew HB.out | exact below_drewN HB.out _)⟩
                  case round =>
                    obtain ⟨k, rfl, hk, HB⟩ := hrel
                    have K6 := Lib.hid (K5.out.after HB.out)
                    have b5 : wr.cell? ⟨w.heap.size, 5, none⟩ = some (.slice q5 m5 d5) := K6.out.cell 5
                    by_cases hlt : k < m5
                    · obtain ⟨a, ha⟩ := at_in x.trips HM5 hlt
                      have HWB : Hid (Below w.heap.size w wr) := Lib.hid (keep_trans Q5.out HB.out)
                      have hat : L[t4 + k]? = some (tripX a) := by
                        have := at_trip HX.out ha
                        rw [← HLL.out] at this
                        rw [show t4 + k = 1 + x.stops.length + x.paths.length + x.doors.length + x.routes.length + k by rw [HTT4.out, HTT3.out, HTT2.out, HTT1.out, HM1.out, HM2.out, HM3.out, HM4.out]]
                        exact this
                      obtain ⟨ad, hA, -, g0, -⟩ := rd_at 1 (fun _ => rfl) (by omega) (rd_later HRD5.out HB.out) hat
                      subst hA
                      have g1 : wr.cell? (ad.add (t4 + k)) = some (.string ⟨(tripX a).toArray⟩) := by rw [Nat.mul_one] at g0; exact g0
                      have HX1 := Lib.hid (fun w' (hb : Below wr.heap.size wr w') => el_trip HX.out (List.mem_of_getElem? ha) w' (HE.out.on (keep_trans HWB.out hb)))
                      obtain ⟨pd, hP, hS, h0, hj⟩ := rd_at 5 (fun _ => rfl) (by omega) (rd_later HSH.out.r5 HWB.out) ha
                      change q5 = some pd at hP
                      subst hP
                      obtain ⟨PX, hPX⟩ : ∃ PX, PX = tripX a := ⟨_, rfl⟩
                      rw [← hPX] at g1 HX1
                      obtain ⟨x0, x1, x2, x3, x4⟩ := a
                      have a0 : wr.cell? (pd.add (k * 5)) = some (.string ⟨x0.toArray⟩) := h0
                      have a1 : wr.cell? ⟨(pd.add (k * 5)).block, (pd.add (k * 5)).off + 1, none⟩ = some (.string ⟨x1.toArray⟩) := (hj 1 (by omega)).resolve_right (by omega)
                      have a2 : wr.cell? ⟨(pd.add (k * 5)).block, (pd.add (k * 5)).off + 2, none⟩ = some (.int .i64 x2) := (hj 2 (by omega)).resolve_right (by omega)
                      have a3 : wr.cell? ⟨(pd.add (k * 5)).block, (pd.add (k * 5)).off + 3, none⟩ = some (.int .i64 x3) := (hj 3 (by omega)).resolve_right (by omega)
                      have a4 : wr.cell? ⟨(pd.add (k * 5)).block, (pd.add (k * 5)).off + 4, none⟩ = some (.int .i64 x4) := (hj 4 (by omega)).resolve_right (by omega)
                      have HPB : Hid (pd.block < wr.heap.size) := Lib.hid (by have := HWB.out.size; omega)
                      have HCX : Hid (∀ w', Below wr.heap.size wr w' → Calls Tryd.prog 12 #[.agg #[.string ⟨x0.toArray⟩, .string ⟨x1.toArray⟩, .int .i64 x2, .int .i64 x3, .int .i64 x4]] w' (TextPost w' PX)) := Lib.hid (fun w' hb => HX1.out w' hb)
                      have HAB : Hid (ad.block < wr.heap.size) := Lib.hid (by obtain ⟨x, e, hx, -⟩ := rd_at 1 (fun _ => rfl) (by omega) (rd_later HRD5.out HB.out) hat; cases e; exact hx)
                      have KC : Hid (∀ w', Below wr.heap.size wr w' → w'.cell? (ad.add (t4 + k)) = some (.string ⟨PX.toArray⟩) ∧ w'.cell? ⟨w.heap.size, 5, none⟩ = some (.slice (some pd) m5 d5) ∧ w'.cell? (pd.add (k * 5)) = some (.string ⟨x0.toArray⟩) ∧ w'.cell? ⟨(pd.add (k * 5)).block, (pd.add (k * 5)).off + 1, none⟩ = some (.string ⟨x1.toArray⟩) ∧ w'.cell? ⟨(pd.add (k * 5)).block, (pd.add (k * 5)).off + 2, none⟩ = some (.int .i64 x2) ∧ w'.cell? ⟨(pd.add (k * 5)).block, (pd.add (k * 5)).off + 3, none⟩ = some (.int .i64 x3) ∧ w'.cell? ⟨(pd.add (k * 5)).block, (pd.add (k * 5)).off + 4, none⟩ = some (.int .i64 x4)) := Lib.hid (fun w' hb => by
                        have hp4 : (pd.add (k * 5)).block < wr.heap.size := by rw [block_of_add]; exact HPB.out
                        refine ⟨(by refine (cell_keep hb ?_).trans g1; rw [block_of_add]; exact HAB.out), (K6.out.after hb).cell 5, (by refine (cell_keep hb ?_).trans a0; exact hp4), (by refine (cell_keep hb ?_).trans a1; exact hp4), (by refine (cell_keep hb ?_).trans a2; exact hp4), (by refine (cell_keep hb ?_).trans a3; exact hp4), (by refine (cell_keep hb ?_).trans a4; exact hp4)⟩)
                      have f1 : IntKind.i64.wrap ((t4 : Int) + (k : Int)) = (t4 : Int) + (k : Int) := IntWalk.i64_in _ ⟨by omega, by omega⟩
                      have f2 : (0 : Int) ≤ (t4 : Int) + (k : Int) := by omega
                      have f3 : ((t4 : Int) + (k : Int)).toNat = t4 + k := by omega
                      have f4 : (t4 : Int) + (k : Int) < (n : Int) := by omega
                      have hi : (k : Int) < (m5 : Int) := by omega
                      clear g0 hat ha h0 hj hPX HX1
                      go_upto_region 46 with (fail)
                      go_region_held3 (fun w' => w'.cell? (ad.add (t4 + k)) = some (.string ⟨PX.toArray⟩) ∧ w'.cell? ⟨w.heap.size, 5, none⟩ = some (.slice (some pd) m5 d5) ∧ w'.cell? (pd.add (k * 5)) = some (.string ⟨x0.toArray⟩) ∧ w'.cell? ⟨(pd.add (k * 5)).block, (pd.add (k * 5)).off + 1, none⟩ = some (.string ⟨x1.toArray⟩) ∧ w'.cell? ⟨(pd.add (k * 5)).block, (pd.add (k * 5)).off + 2, none⟩ = some (.int .i64 x2) ∧ w'.cell? ⟨(pd.add (k * 5)).block, (pd.add (k * 5)).off + 3, none⟩ = some (.int .i64 x3) ∧ w'.cell? ⟨(pd.add (k * 5)).block, (pd.add (k * 5)).off + 4, none⟩ = some (.int .i64 x4)) (first | exact KC.out _ Q6.out | exact KC.out _ (below_drew (Below.refl _ _)) | exact KC.out _ (below_drewN (Below.refl _ _) _) | go_keep) (first
                        | (go_at_call 12; (with_reducible refine (HCX.out _ (by first | exact below_drew (Below.refl _ _) | exact below_drewN (Below.refl _ _) _ | exact Below.refl _ _)).mono ?_); rintro e w6 ⟨rfl, hb⟩; have Q6 : Hid (Below wr.heap.size wr w6) := Lib.hid (by first | exact keep_trans (below_drew (Below.refl _ _)) hb | exact keep_trans (below_drewN (Below.refl _ _) _) hb | exact hb); clear hb)
                        | fail)
                      clear f1 f2 f3 f4
                      go_wp2_with fail
                      go_roundw
                      case rel => exact ⟨k + 1, by go_num, by omega, Lib.hid (by first | exact keep_trans HB.out Q6.out | exact below_drew (keep_trans HB.out Q6.out) | exact below_drewN (keep_trans HB.out Q6.out) _)⟩
                      case measure => simp [intOf]; omega
                    · have hi : ¬ (k : Int) < (m5 : Int) := by omega
                      obtain ⟨t5, ht5⟩ : ∃ t, t = t4 + m5 := ⟨_, rfl⟩
                      have HE1 : Hid ((t4 : Int) + (m5 : Int) = (t5 : Int)) := Lib.hid (by omega)
                      have u5 := Nat.le_of_eq ht5
                      have v5 := Nat.le_of_eq ht5.symm
                      have HTT5 := Lib.hid ht5
                      clear ht5
                      go_wp2_with fail
                      rw [HE1.out]
                      clear b5 hi hlt hk
                      go_loopw [16] (fun v wr => ∃ k : Nat, v = .int .i64 (k : Int) ∧ k ≤ m6 ∧ Hid (Below w5.heap.size w5 wr)) (fun v _ => m6 - (intOf v).toNat)
                      case atStart => exact ⟨0, rfl, by omega, Lib.hid (by first | exact HB.out | exact below_drew HB.out | exact below_drewN HB.out _)⟩
                      case round =>
                        obtain ⟨k, rfl, hk, HB⟩ := hrel
                        have K6 := Lib.hid (K5.out.after HB.out)
                        have b6 : wr.cell? ⟨w.heap.size, 6, none⟩ = some (.slice q6 m6 d6) := K6.out.cell 6
                        by_cases hlt : k < m6
                        · obtain ⟨a, ha⟩ := at_in x.hazards HM6 hlt
                          have HWB : Hid (Below w.heap.size w wr) := Lib.hid (keep_trans Q5.out HB.out)
                          have hat : L[t5 + k]? = some (hazX a) := by
                            have := at_haz HX.out ha
                            rw [← HLL.out] at this
                            rw [show t5 + k = 1 + x.stops.length + x.paths.length + x.doors.length + x.routes.length + x.trips.length + k by rw [HTT5.out, HTT4.out, HTT3.out, HTT2.out, HTT1.out, HM1.out, HM2.out, HM3.out, HM4.out, HM5.out]]
                            exact this
                          obtain ⟨ad, hA, -, g0, -⟩ := rd_at 1 (fun _ => rfl) (by omega) (rd_later HRD5.out HB.out) hat
                          subst hA
                          have g1 : wr.cell? (ad.add (t5 + k)) = some (.string ⟨(hazX a).toArray⟩) := by rw [Nat.mul_one] at g0; exact g0
                          have HX1 := Lib.hid (fun w' (hb : Below wr.heap.size wr w') => el_haz HX.out (List.mem_of_getElem? ha) w' (HE.out.on (keep_trans HWB.out hb)))
                          obtain ⟨pd, hP, hS, h0, hj⟩ := rd_at 5 (fun _ => rfl) (by omega) (rd_later HSH.out.r6 HWB.out) ha
                          change q6 = some pd at hP
                          subst hP
                          obtain ⟨PX, hPX⟩ : ∃ PX, PX = hazX a := ⟨_, rfl⟩
                          rw [← hPX] at g1 HX1
                          obtain ⟨x0, x1, ⟨x2, x3, x4⟩⟩ := a
                          have a0 : wr.cell? (pd.add (k * 5)) = some (.string ⟨x0.toArray⟩) := h0
                          have a1 : wr.cell? ⟨(pd.add (k * 5)).block, (pd.add (k * 5)).off + 1, none⟩ = some (.string ⟨x1.toArray⟩) := (hj 1 (by omega)).resolve_right (by omega)
                          have a2 : wr.cell? ⟨(pd.add (k * 5)).block, (pd.add (k * 5)).off + 2, none⟩ = some (.int .i64 x2) := (hj 2 (by omega)).resolve_right (by omega)
                          have a3 : wr.cell? ⟨(pd.add (k * 5)).block, (pd.add (k * 5)).off + 3, none⟩ = some (.int .i64 x3) := (hj 3 (by omega)).resolve_right (by omega)
                          have a4 : wr.cell? ⟨(pd.add (k * 5)).block, (pd.add (k * 5)).off + 4, none⟩ = some (.int .i64 x4) := (hj 4 (by omega)).resolve_right (by omega)
                          have HPB : Hid (pd.block < wr.heap.size) := Lib.hid (by have := HWB.out.size; omega)
                          have HCX : Hid (∀ w', Below wr.heap.size wr w' → Calls Tryd.prog 13 #[.agg #[.string ⟨x0.toArray⟩, .string ⟨x1.toArray⟩, .int .i64 x2, .int .i64 x3, .int .i64 x4]] w' (TextPost w' PX)) := Lib.hid (fun w' hb => HX1.out w' hb)
                          have HAB : Hid (ad.block < wr.heap.size) := Lib.hid (by obtain ⟨x, e, hx, -⟩ := rd_at 1 (fun _ => rfl) (by omega) (rd_later HRD5.out HB.out) hat; cases e; exact hx)
                          have KC : Hid (∀ w', Below wr.heap.size wr w' → w'.cell? (ad.add (t5 + k)) = some (.string ⟨PX.toArray⟩) ∧ w'.cell? ⟨w.heap.size, 6, none⟩ = some (.slice (some pd) m6 d6) ∧ w'.cell? (pd.add (k * 5)) = some (.string ⟨x0.toArray⟩) ∧ w'.cell? ⟨(pd.add (k * 5)).block, (pd.add (k * 5)).off + 1, none⟩ = some (.string ⟨x1.toArray⟩) ∧ w'.cell? ⟨(pd.add (k * 5)).block, (pd.add (k * 5)).off + 2, none⟩ = some (.int .i64 x2) ∧ w'.cell? ⟨(pd.add (k * 5)).block, (pd.add (k * 5)).off + 3, none⟩ = some (.int .i64 x3) ∧ w'.cell? ⟨(pd.add (k * 5)).block, (pd.add (k * 5)).off + 4, none⟩ = some (.int .i64 x4)) := Lib.hid (fun w' hb => by
                            have hp4 : (pd.add (k * 5)).block < wr.heap.size := by rw [block_of_add]; exact HPB.out
                            refine ⟨(by refine (cell_keep hb ?_).trans g1; rw [block_of_add]; exact HAB.out), (K6.out.after hb).cell 6, (by refine (cell_keep hb ?_).trans a0; exact hp4), (by refine (cell_keep hb ?_).trans a1; exact hp4), (by refine (cell_keep hb ?_).trans a2; exact hp4), (by refine (cell_keep hb ?_).trans a3; exact hp4), (by refine (cell_keep hb ?_).trans a4; exact hp4)⟩)
                          have f1 : IntKind.i64.wrap ((t5 : Int) + (k : Int)) = (t5 : Int) + (k : Int) := IntWalk.i64_in _ ⟨by omega, by omega⟩
                          have f2 : (0 : Int) ≤ (t5 : Int) + (k : Int) := by omega
                          have f3 : ((t5 : Int) + (k : Int)).toNat = t5 + k := by omega
                          have f4 : (t5 : Int) + (k : Int) < (n : Int) := by omega
                          have hi : (k : Int) < (m6 : Int) := by omega
                          clear g0 hat ha h0 hj hPX HX1
                          go_upto_region 52 with (fail)
                          go_region_held3 (fun w' => w'.cell? (ad.add (t5 + k)) = some (.string ⟨PX.toArray⟩) ∧ w'.cell? ⟨w.heap.size, 6, none⟩ = some (.slice (some pd) m6 d6) ∧ w'.cell? (pd.add (k * 5)) = some (.string ⟨x0.toArray⟩) ∧ w'.cell? ⟨(pd.add (k * 5)).block, (pd.add (k * 5)).off + 1, none⟩ = some (.string ⟨x1.toArray⟩) ∧ w'.cell? ⟨(pd.add (k * 5)).block, (pd.add (k * 5)).off + 2, none⟩ = some (.int .i64 x2) ∧ w'.cell? ⟨(pd.add (k * 5)).block, (pd.add (k * 5)).off + 3, none⟩ = some (.int .i64 x3) ∧ w'.cell? ⟨(pd.add (k * 5)).block, (pd.add (k * 5)).off + 4, none⟩ = some (.int .i64 x4)) (first | exact KC.out _ Q6.out | exact KC.out _ (below_drew (Below.refl _ _)) | exact KC.out _ (below_drewN (Below.refl _ _) _) | go_keep) (first
                            | (go_at_call 13; (with_reducible refine (HCX.out _ (by first | exact below_drew (Below.refl _ _) | exact below_drewN (Below.refl _ _) _ | exact Below.refl _ _)).mono ?_); rintro e w6 ⟨rfl, hb⟩; have Q6 : Hid (Below wr.heap.size wr w6) := Lib.hid (by first | exact keep_trans (below_drew (Below.refl _ _)) hb | exact keep_trans (below_drewN (Below.refl _ _) _) hb | exact hb); clear hb)
                            | fail)
                          clear f1 f2 f3 f4
                          go_wp2_with fail
                          go_roundw
                          case rel => exact ⟨k + 1, by go_num, by omega, Lib.hid (by first | exact keep_trans HB.out Q6.out | exact below_drew (keep_trans HB.out Q6.out) | exact below_drewN (keep_trans HB.out Q6.out) _)⟩
                          case measure => simp [intOf]; omega
                        · have hi : ¬ (k : Int) < (m6 : Int) := by omega
                          go_wp2_with fail
                          go_ret
                          exact ⟨rfl, Q5.out.trans (HB.out.mono Q5.out.size)⟩
theorem slines_all (x : SheetM) (p : ShA) (w : World) (hE : Tk.Env w) (h : Sh w (· < w.heap.size) x p) :
    Calls Tryd.prog 4 #[shV x p] w (TrueP w) := by
  cases hl : lightM x with
  | false => exact lines_dark x p w hE h hl
  | true =>
    by_cases hc : checkM x = 0
    · exact lines_law x p w hE h hl (may_of hc)
    · exact lines_not x p w hE h hl hc
end Go.Proofs.YtcmlmfcnbmpajaaDoor.Sw
