/- The document's lines of things, proved by walking their text. -/
import Derived.Test.YtcmlmfcnbmpajaaGreatDoorRefNum
import Derived.Test.YtcmlmfcnbmpajaaGreatDoorShowLine
namespace Go.Proofs.YtcmlmfcnbmpajaaGreatDoor.Sw
open Go.ChangeShapes Go.WideShapes Go.ChangeAt Go.RowKit
open Lx Sh Tk
set_option linter.unusedVariables false
set_option linter.unusedSimpArgs false
set_option maxRecDepth 100000

theorem ritoa_le {n : Int} (h : I64 n) : (Lib.itoa n).length ≤ 21 := Lib.itoa_length_le n h.1 h.2
theorem times_len {l k : List UInt8} {t : TimesM} (h : TI64 t) (hk : k.length ≤ 20) : ((timesW t k).flatMap (fun s => 32 :: s)).length ≤ 120 := by
  have h1 := Lib.itoa_length_le t.frm h.1.1 h.1.2
  have h2 := Lib.itoa_length_le t.every h.2.1.1 h.2.1.2
  have h3 := Lib.itoa_length_le t.len h.2.2.1 h.2.2.2
  simp [timesW, kFrom, kEvery]
  omega

set_option maxHeartbeats 8000000 in
theorem rtimes_any (t : TimesM) (k : List UInt8) (w : World) (hi : TI64 t) (hk : k.length ≤ 20) :
    Calls Tryz.prog 51 #[tmV t, .string ⟨k.toArray⟩] w (TextPost w ((timesW t k).flatMap (fun s => 32 :: s))) := by
  have CN1 := Lib.hid (fun w' => rnum_any t.frm hi.1 w')
  have CN2 := Lib.hid (fun w' => rnum_any t.every hi.2.1 w')
  have CN3 := Lib.hid (fun w' => rnum_any t.len hi.2.2 w')
  have q1 := ritoa_le hi.1
  have q2 := ritoa_le hi.2.1
  have q3 := ritoa_le hi.2.2
  clear hi
  obtain ⟨f, e, ln⟩ := t
  dsimp only at *
  have HX : Hid ((timesW ⟨f, e, ln⟩ k).flatMap (fun s => 32 :: s) = [32, 102, 114, 111, 109, 32] ++ Lib.itoa f ++ [32, 101, 118, 101, 114, 121, 32] ++ Lib.itoa e ++ [32] ++ k ++ [32] ++ Lib.itoa ln) := Lib.hid (by simp [timesW, kFrom, kEvery])
  generalize ((timesW ⟨f, e, ln⟩ k).flatMap (fun s => 32 :: s)) = TX at *
  generalize Lib.itoa f = D1 at *
  generalize Lib.itoa e = D2 at *
  generalize Lib.itoa ln = D3 at *
  go_enter Tryz.func51, Tryz.ntmps51
  go_wp2
  obtain ⟨W, hW⟩ : ∃ W, W = w.alloc (.cells #[.int .i64 f, .int .i64 e, .int .i64 ln] 33) := ⟨_, rfl⟩
  have HW0 : Hid (Below w.heap.size w W) := Lib.hid (by rw [hW]; exact one_box _ _)
  have K0 : Hid (Blk W w.heap.size 33 [.int .i64 f, .int .i64 e, .int .i64 ln]) := Lib.hid (by rw [hW]; exact Blk.new w _ _)
  rw [← hW]
  clear hW
  have KC : Hid (∀ w', Below W.heap.size W w' → w'.cell? ⟨w.heap.size, 0, none⟩ = some (.int .i64 f) ∧ w'.cell? ⟨w.heap.size, 1, none⟩ = some (.int .i64 e) ∧ w'.cell? ⟨w.heap.size, 2, none⟩ = some (.int .i64 ln)) :=
    Lib.hid (fun w' hb => by have a := K0.out.after hb; exact ⟨a.cell 0, a.cell 1, a.cell 2⟩)
  have CC1 : Hid (∀ w', Below W.heap.size W w' → Calls Tryz.prog 47 #[.int .i64 f] w' fun e0 w2 => e0 = .returned (.string ⟨D1.toArray⟩) ∧ Below w'.heap.size w' w2) :=
    Lib.hid (fun w' hb => CN1.out w')
  have CC2 : Hid (∀ w', Below W.heap.size W w' → Calls Tryz.prog 47 #[.int .i64 e] w' fun e0 w2 => e0 = .returned (.string ⟨D2.toArray⟩) ∧ Below w'.heap.size w' w2) :=
    Lib.hid (fun w' hb => CN2.out w')
  have CC3 : Hid (∀ w', Below W.heap.size W w' → Calls Tryz.prog 47 #[.int .i64 ln] w' fun e0 w2 => e0 = .returned (.string ⟨D3.toArray⟩) ∧ Below w'.heap.size w' w2) :=
    Lib.hid (fun w' hb => CN3.out w')
  have g1 : ¬ 9223372036854775807 < 6 + D1.length := by omega
  have g2 : ¬ 9223372036854775807 < 6 + D1.length + 7 := by omega
  have g3 : ¬ 9223372036854775807 < 6 + D1.length + 7 + D2.length := by omega
  have g4 : ¬ 9223372036854775807 < 6 + D1.length + 7 + D2.length + 1 := by omega
  have g5 : ¬ 9223372036854775807 < 6 + D1.length + 7 + D2.length + 1 + k.length := by omega
  have g6 : ¬ 9223372036854775807 < 6 + D1.length + 7 + D2.length + 1 + k.length + 1 := by omega
  have g7 : ¬ 9223372036854775807 < 6 + D1.length + 7 + D2.length + 1 + k.length + 1 + D3.length := by omega
  go_region_held3 (fun w' => w'.cell? ⟨w.heap.size, 0, none⟩ = some (.int .i64 f) ∧ w'.cell? ⟨w.heap.size, 1, none⟩ = some (.int .i64 e) ∧ w'.cell? ⟨w.heap.size, 2, none⟩ = some (.int .i64 ln)) (first | exact KC.out _ Q3.out | exact KC.out _ Q2.out | exact KC.out _ Q1.out | exact KC.out _ (below_drew (Below.refl _ _)) | exact KC.out _ (Below.refl _ _) | go_keep) (first
    | (go_at_call 47; (with_reducible refine (CC3.out _ Q2.out).mono ?_); rintro e' w3 ⟨rfl, hb⟩; have Q3 : Hid (Below W.heap.size W w3) := Lib.hid (keep_trans Q2.out hb); clear hb)
    | (go_at_call 47; (with_reducible refine (CC2.out _ Q1.out).mono ?_); rintro e' w2 ⟨rfl, hb⟩; have Q2 : Hid (Below W.heap.size W w2) := Lib.hid (keep_trans Q1.out hb); clear hb)
    | (go_at_call 47; (with_reducible refine (CC1.out _ (below_drew (Below.refl _ _))).mono ?_); rintro e' w1 ⟨rfl, hb⟩; have Q1 : Hid (Below W.heap.size W w1) := Lib.hid (keep_trans (below_drew (Below.refl _ W)) hb); clear hb)
    | fail)
  go_wp2
  go_ret
  exact ⟨congrArg (fun b => Ending.returned (Value.string b)) (bytes_eq (by rw [HX.out]; simp)), keep_trans HW0.out (keep_trans Q3.out (by repeat (first | exact Below.refl _ _ | refine below_drewN ?_ _ | refine below_drew ?_)))⟩
set_option maxHeartbeats 8000000 in
theorem rpath_any (p : PathM) (w : World) (h : PaS p) :
    Calls Tryz.prog 16 #[paV p] w (TextPost w (pathX p)) := by
  have CN1 := Lib.hid (fun w' => rnum_any p.len h.2.2.2 w')
  have q1 := ritoa_le h.2.2.2
  have z1 : p.name.length ≤ 1048576 := h.1
  have z2 : p.a.length ≤ 1048576 := h.2.1
  have z3 : p.b.length ≤ 1048576 := h.2.2.1
  clear h
  obtain ⟨nm, a, b, ln⟩ := p
  dsimp only at *
  have HX : Hid (pathX ⟨nm, a, b, ln⟩ = [112, 97, 116, 104, 32] ++ nm ++ [32] ++ a ++ [32] ++ b ++ [32] ++ Lib.itoa ln) := Lib.hid (by rw [pathX, joinW_first _ (by decide)]; simp [kPath])
  generalize pathX ⟨nm, a, b, ln⟩ = TX at *
  generalize Lib.itoa ln = D1 at *
  go_enter Tryz.func16, Tryz.ntmps16
  go_wp2
  obtain ⟨W, hW⟩ : ∃ W, W = w.alloc (.cells #[.string ⟨nm.toArray⟩, .string ⟨a.toArray⟩, .string ⟨b.toArray⟩, .int .i64 ln] 31) := ⟨_, rfl⟩
  have HW0 : Hid (Below w.heap.size w W) := Lib.hid (by rw [hW]; exact one_box _ _)
  have K0 : Hid (Blk W w.heap.size 31 [.string ⟨nm.toArray⟩, .string ⟨a.toArray⟩, .string ⟨b.toArray⟩, .int .i64 ln]) := Lib.hid (by rw [hW]; exact Blk.new w _ _)
  rw [← hW]
  clear hW
  have KC : Hid (∀ w', Below W.heap.size W w' → w'.cell? ⟨w.heap.size, 0, none⟩ = some (.string ⟨nm.toArray⟩) ∧ w'.cell? ⟨w.heap.size, 1, none⟩ = some (.string ⟨a.toArray⟩) ∧ w'.cell? ⟨w.heap.size, 2, none⟩ = some (.string ⟨b.toArray⟩) ∧ w'.cell? ⟨w.heap.size, 3, none⟩ = some (.int .i64 ln)) :=
    Lib.hid (fun w' hb => by have a := K0.out.after hb; exact ⟨a.cell 0, a.cell 1, a.cell 2, a.cell 3⟩)
  have CC1 : Hid (∀ w', Below W.heap.size W w' → Calls Tryz.prog 47 #[.int .i64 ln] w' fun e0 w2 => e0 = .returned (.string ⟨D1.toArray⟩) ∧ Below w'.heap.size w' w2) :=
    Lib.hid (fun w' hb => CN1.out w')
  have g1 : ¬ 9223372036854775807 < 5 + nm.length := by omega
  have g2 : ¬ 9223372036854775807 < 5 + nm.length + 1 := by omega
  have g3 : ¬ 9223372036854775807 < 5 + nm.length + 1 + a.length := by omega
  have g4 : ¬ 9223372036854775807 < 5 + nm.length + 1 + a.length + 1 := by omega
  have g5 : ¬ 9223372036854775807 < 5 + nm.length + 1 + a.length + 1 + b.length := by omega
  have g6 : ¬ 9223372036854775807 < 5 + nm.length + 1 + a.length + 1 + b.length + 1 := by omega
  have g7 : ¬ 9223372036854775807 < 5 + nm.length + 1 + a.length + 1 + b.length + 1 + D1.length := by omega
  go_region_held3 (fun w' => w'.cell? ⟨w.heap.size, 0, none⟩ = some (.string ⟨nm.toArray⟩) ∧ w'.cell? ⟨w.heap.size, 1, none⟩ = some (.string ⟨a.toArray⟩) ∧ w'.cell? ⟨w.heap.size, 2, none⟩ = some (.string ⟨b.toArray⟩) ∧ w'.cell? ⟨w.heap.size, 3, none⟩ = some (.int .i64 ln)) (first | exact KC.out _ Q1.out | exact KC.out _ (below_drew (Below.refl _ _)) | exact KC.out _ (Below.refl _ _) | go_keep) (first
    | (go_at_call 47; (with_reducible refine (CC1.out _ (below_drew (Below.refl _ _))).mono ?_); rintro e' w1 ⟨rfl, hb⟩; have Q1 : Hid (Below W.heap.size W w1) := Lib.hid (keep_trans (below_drew (Below.refl _ W)) hb); clear hb)
    | fail)
  go_wp2
  go_ret
  exact ⟨congrArg (fun b => Ending.returned (Value.string b)) (bytes_eq (by rw [HX.out]; simp)), keep_trans HW0.out (keep_trans Q1.out (by repeat (first | exact Below.refl _ _ | refine below_drewN ?_ _ | refine below_drew ?_)))⟩
set_option maxHeartbeats 8000000 in
theorem rdoor_any (p : DoorM) (w : World) (h : DoS p) :
    Calls Tryz.prog 18 #[doV p] w (TextPost w (doorX p)) := by
  have CN1 := Lib.hid (fun w' => rnum_any p.len h.2.2.2.1 w')
  have CN2 := Lib.hid (fun w' => rtimes_any p.times kOpen w' h.2.2.2.2 (by decide))
  have q1 := ritoa_le h.2.2.2.1
  have q2 := times_len (l := []) (k := kOpen) h.2.2.2.2 (by decide)
  have z1 : p.name.length ≤ 1048576 := h.1
  have z2 : p.a.length ≤ 1048576 := h.2.1
  have z3 : p.b.length ≤ 1048576 := h.2.2.1
  clear h
  obtain ⟨nm, a, b, ln, ⟨tf, te, tl⟩⟩ := p
  dsimp only at *
  have HX : Hid (doorX ⟨nm, a, b, ln, ⟨tf, te, tl⟩⟩ = [100, 111, 111, 114, 32] ++ nm ++ [32] ++ a ++ [32] ++ b ++ [32] ++ Lib.itoa ln ++ (timesW ⟨tf, te, tl⟩ kOpen).flatMap (fun s => 32 :: s)) := Lib.hid (by rw [doorX, joinW_some (by rw [doorW]; exact joinW_ne (by decide) _), doorW, joinW_first _ (by decide)]; simp [kDoor])
  generalize doorX ⟨nm, a, b, ln, ⟨tf, te, tl⟩⟩ = TX at *
  generalize (timesW ⟨tf, te, tl⟩ kOpen).flatMap (fun s => 32 :: s) = DT at *
  generalize Lib.itoa ln = D1 at *
  go_enter Tryz.func18, Tryz.ntmps18
  go_wp2
  obtain ⟨W, hW⟩ : ∃ W, W = w.alloc (.cells #[.string ⟨nm.toArray⟩, .string ⟨a.toArray⟩, .string ⟨b.toArray⟩, .int .i64 ln, .int .i64 tf, .int .i64 te, .int .i64 tl] 35) := ⟨_, rfl⟩
  have HW0 : Hid (Below w.heap.size w W) := Lib.hid (by rw [hW]; exact one_box _ _)
  have K0 : Hid (Blk W w.heap.size 35 [.string ⟨nm.toArray⟩, .string ⟨a.toArray⟩, .string ⟨b.toArray⟩, .int .i64 ln, .int .i64 tf, .int .i64 te, .int .i64 tl]) := Lib.hid (by rw [hW]; exact Blk.new w _ _)
  rw [← hW]
  clear hW
  have KC : Hid (∀ w', Below W.heap.size W w' → w'.cell? ⟨w.heap.size, 0, none⟩ = some (.string ⟨nm.toArray⟩) ∧ w'.cell? ⟨w.heap.size, 1, none⟩ = some (.string ⟨a.toArray⟩) ∧ w'.cell? ⟨w.heap.size, 2, none⟩ = some (.string ⟨b.toArray⟩) ∧ w'.cell? ⟨w.heap.size, 3, none⟩ = some (.int .i64 ln) ∧ w'.cell? ⟨w.heap.size, 4, none⟩ = some (.int .i64 tf) ∧ w'.cell? ⟨w.heap.size, 5, none⟩ = some (.int .i64 te) ∧ w'.cell? ⟨w.heap.size, 6, none⟩ = some (.int .i64 tl)) :=
    Lib.hid (fun w' hb => by have a := K0.out.after hb; exact ⟨a.cell 0, a.cell 1, a.cell 2, a.cell 3, a.cell 4, a.cell 5, a.cell 6⟩)
  have CC1 : Hid (∀ w', Below W.heap.size W w' → Calls Tryz.prog 47 #[.int .i64 ln] w' fun e0 w2 => e0 = .returned (.string ⟨D1.toArray⟩) ∧ Below w'.heap.size w' w2) :=
    Lib.hid (fun w' hb => CN1.out w')
  have CC2 : Hid (∀ w', Below W.heap.size W w' → Calls Tryz.prog 51 #[.agg #[.int .i64 tf, .int .i64 te, .int .i64 tl], .string ⟨#[111, 112, 101, 110]⟩] w' fun e0 w2 => e0 = .returned (.string ⟨DT.toArray⟩) ∧ Below w'.heap.size w' w2) :=
    Lib.hid (fun w' hb => CN2.out w')
  have g1 : ¬ 9223372036854775807 < 5 + nm.length := by omega
  have g2 : ¬ 9223372036854775807 < 5 + nm.length + 1 := by omega
  have g3 : ¬ 9223372036854775807 < 5 + nm.length + 1 + a.length := by omega
  have g4 : ¬ 9223372036854775807 < 5 + nm.length + 1 + a.length + 1 := by omega
  have g5 : ¬ 9223372036854775807 < 5 + nm.length + 1 + a.length + 1 + b.length := by omega
  have g6 : ¬ 9223372036854775807 < 5 + nm.length + 1 + a.length + 1 + b.length + 1 := by omega
  have g7 : ¬ 9223372036854775807 < 5 + nm.length + 1 + a.length + 1 + b.length + 1 + D1.length := by omega
  have g8 : ¬ 9223372036854775807 < 5 + nm.length + 1 + a.length + 1 + b.length + 1 + D1.length + DT.length := by omega
  go_region_held3 (fun w' => w'.cell? ⟨w.heap.size, 0, none⟩ = some (.string ⟨nm.toArray⟩) ∧ w'.cell? ⟨w.heap.size, 1, none⟩ = some (.string ⟨a.toArray⟩) ∧ w'.cell? ⟨w.heap.size, 2, none⟩ = some (.string ⟨b.toArray⟩) ∧ w'.cell? ⟨w.heap.size, 3, none⟩ = some (.int .i64 ln) ∧ w'.cell? ⟨w.heap.size, 4, none⟩ = some (.int .i64 tf) ∧ w'.cell? ⟨w.heap.size, 5, none⟩ = some (.int .i64 te) ∧ w'.cell? ⟨w.heap.size, 6, none⟩ = some (.int .i64 tl)) (first | exact KC.out _ Q2.out | exact KC.out _ Q1.out | exact KC.out _ (below_drew (Below.refl _ _)) | exact KC.out _ (Below.refl _ _) | go_keep) (first
    | (go_at_call 51; (with_reducible refine (CC2.out _ Q1.out).mono ?_); rintro e' w2 ⟨rfl, hb⟩; have Q2 : Hid (Below W.heap.size W w2) := Lib.hid (keep_trans Q1.out hb); clear hb)
    | (go_at_call 47; (with_reducible refine (CC1.out _ (below_drew (Below.refl _ _))).mono ?_); rintro e' w1 ⟨rfl, hb⟩; have Q1 : Hid (Below W.heap.size W w1) := Lib.hid (keep_trans (below_drew (Below.refl _ W)) hb); clear hb)
    | fail)
  go_wp2
  go_ret
  exact ⟨congrArg (fun b => Ending.returned (Value.string b)) (bytes_eq (by rw [HX.out]; simp)), keep_trans HW0.out (keep_trans Q2.out (by repeat (first | exact Below.refl _ _ | refine below_drewN ?_ _ | refine below_drew ?_)))⟩
set_option maxHeartbeats 8000000 in
theorem rtrip_any (p : TripM) (w : World) (h : TrS p) :
    Calls Tryz.prog 22 #[trV p] w (TextPost w (tripX p)) := by
  have CN1 := Lib.hid (fun w' => rnum_any p.frm h.2.2.1 w')
  have CN2 := Lib.hid (fun w' => rnum_any p.every h.2.2.2.1 w')
  have CN3 := Lib.hid (fun w' => rnum_any p.til h.2.2.2.2 w')
  have q1 := ritoa_le h.2.2.1
  have q2 := ritoa_le h.2.2.2.1
  have q3 := ritoa_le h.2.2.2.2
  have z1 : p.name.length ≤ 1048576 := h.1
  have z2 : p.route.length ≤ 1048576 := h.2.1
  clear h
  obtain ⟨nm, a, tf, te, tl⟩ := p
  dsimp only at *
  have HX : Hid (tripX ⟨nm, a, tf, te, tl⟩ = [116, 114, 105, 112, 32] ++ nm ++ [32, 111, 102, 32] ++ a ++ [32, 102, 114, 111, 109, 32] ++ Lib.itoa tf ++ [32, 101, 118, 101, 114, 121, 32] ++ Lib.itoa te ++ [32, 117, 110, 116, 105, 108, 32] ++ Lib.itoa tl) := Lib.hid (by rw [tripX, joinW_first _ (by decide)]; simp [kTrip, kOf, kFrom, kEvery, kUntil])
  generalize tripX ⟨nm, a, tf, te, tl⟩ = TX at *
  generalize Lib.itoa tf = D1 at *
  generalize Lib.itoa te = D2 at *
  generalize Lib.itoa tl = D3 at *
  go_enter Tryz.func22, Tryz.ntmps22
  go_wp2
  obtain ⟨W, hW⟩ : ∃ W, W = w.alloc (.cells #[.string ⟨nm.toArray⟩, .string ⟨a.toArray⟩, .int .i64 tf, .int .i64 te, .int .i64 tl] 40) := ⟨_, rfl⟩
  have HW0 : Hid (Below w.heap.size w W) := Lib.hid (by rw [hW]; exact one_box _ _)
  have K0 : Hid (Blk W w.heap.size 40 [.string ⟨nm.toArray⟩, .string ⟨a.toArray⟩, .int .i64 tf, .int .i64 te, .int .i64 tl]) := Lib.hid (by rw [hW]; exact Blk.new w _ _)
  rw [← hW]
  clear hW
  have KC : Hid (∀ w', Below W.heap.size W w' → w'.cell? ⟨w.heap.size, 0, none⟩ = some (.string ⟨nm.toArray⟩) ∧ w'.cell? ⟨w.heap.size, 1, none⟩ = some (.string ⟨a.toArray⟩) ∧ w'.cell? ⟨w.heap.size, 2, none⟩ = some (.int .i64 tf) ∧ w'.cell? ⟨w.heap.size, 3, none⟩ = some (.int .i64 te) ∧ w'.cell? ⟨w.heap.size, 4, none⟩ = some (.int .i64 tl)) :=
    Lib.hid (fun w' hb => by have a := K0.out.after hb; exact ⟨a.cell 0, a.cell 1, a.cell 2, a.cell 3, a.cell 4⟩)
  have CC1 : Hid (∀ w', Below W.heap.size W w' → Calls Tryz.prog 47 #[.int .i64 tf] w' fun e0 w2 => e0 = .returned (.string ⟨D1.toArray⟩) ∧ Below w'.heap.size w' w2) :=
    Lib.hid (fun w' hb => CN1.out w')
  have CC2 : Hid (∀ w', Below W.heap.size W w' → Calls Tryz.prog 47 #[.int .i64 te] w' fun e0 w2 => e0 = .returned (.string ⟨D2.toArray⟩) ∧ Below w'.heap.size w' w2) :=
    Lib.hid (fun w' hb => CN2.out w')
  have CC3 : Hid (∀ w', Below W.heap.size W w' → Calls Tryz.prog 47 #[.int .i64 tl] w' fun e0 w2 => e0 = .returned (.string ⟨D3.toArray⟩) ∧ Below w'.heap.size w' w2) :=
    Lib.hid (fun w' hb => CN3.out w')
  have g1 : ¬ 9223372036854775807 < 5 + nm.length := by omega
  have g2 : ¬ 9223372036854775807 < 5 + nm.length + 4 := by omega
  have g3 : ¬ 9223372036854775807 < 5 + nm.length + 4 + a.length := by omega
  have g4 : ¬ 9223372036854775807 < 5 + nm.length + 4 + a.length + 6 := by omega
  have g5 : ¬ 9223372036854775807 < 5 + nm.length + 4 + a.length + 6 + D1.length := by omega
  have g6 : ¬ 9223372036854775807 < 5 + nm.length + 4 + a.length + 6 + D1.length + 7 := by omega
  have g7 : ¬ 9223372036854775807 < 5 + nm.length + 4 + a.length + 6 + D1.length + 7 + D2.length := by omega
  have g8 : ¬ 9223372036854775807 < 5 + nm.length + 4 + a.length + 6 + D1.length + 7 + D2.length + 7 := by omega
  have g9 : ¬ 9223372036854775807 < 5 + nm.length + 4 + a.length + 6 + D1.length + 7 + D2.length + 7 + D3.length := by omega
  go_region_held3 (fun w' => w'.cell? ⟨w.heap.size, 0, none⟩ = some (.string ⟨nm.toArray⟩) ∧ w'.cell? ⟨w.heap.size, 1, none⟩ = some (.string ⟨a.toArray⟩) ∧ w'.cell? ⟨w.heap.size, 2, none⟩ = some (.int .i64 tf) ∧ w'.cell? ⟨w.heap.size, 3, none⟩ = some (.int .i64 te) ∧ w'.cell? ⟨w.heap.size, 4, none⟩ = some (.int .i64 tl)) (first | exact KC.out _ Q3.out | exact KC.out _ Q2.out | exact KC.out _ Q1.out | exact KC.out _ (below_drew (Below.refl _ _)) | exact KC.out _ (Below.refl _ _) | go_keep) (first
    | (go_at_call 47; (with_reducible refine (CC3.out _ Q2.out).mono ?_); rintro e' w3 ⟨rfl, hb⟩; have Q3 : Hid (Below W.heap.size W w3) := Lib.hid (keep_trans Q2.out hb); clear hb)
    | (go_at_call 47; (with_reducible refine (CC2.out _ Q1.out).mono ?_); rintro e' w2 ⟨rfl, hb⟩; have Q2 : Hid (Below W.heap.size W w2) := Lib.hid (keep_trans Q1.out hb); clear hb)
    | (go_at_call 47; (with_reducible refine (CC1.out _ (below_drew (Below.refl _ _))).mono ?_); rintro e' w1 ⟨rfl, hb⟩; have Q1 : Hid (Below W.heap.size W w1) := Lib.hid (keep_trans (below_drew (Below.refl _ W)) hb); clear hb)
    | fail)
  go_wp2
  go_ret
  exact ⟨congrArg (fun b => Ending.returned (Value.string b)) (bytes_eq (by rw [HX.out]; simp)), keep_trans HW0.out (keep_trans Q3.out (by repeat (first | exact Below.refl _ _ | refine below_drewN ?_ _ | refine below_drew ?_)))⟩
set_option maxHeartbeats 8000000 in
theorem rhaz_any (p : HazM) (w : World) (h : HaS p) :
    Calls Tryz.prog 24 #[haV p] w (TextPost w (hazX p)) := by
  have CN1 := Lib.hid (fun w' => rtimes_any p.times kClosed w' h.2.2 (by decide))
  have q2 := times_len (l := []) (k := kClosed) h.2.2 (by decide)
  have z1 : p.name.length ≤ 1048576 := h.1
  have z2 : p.at_.length ≤ 1048576 := h.2.1
  clear h
  obtain ⟨nm, a, ⟨tf, te, tl⟩⟩ := p
  dsimp only at *
  have HX : Hid (hazX ⟨nm, a, ⟨tf, te, tl⟩⟩ = [104, 97, 122, 97, 114, 100, 32] ++ nm ++ [32, 111, 110, 32] ++ a ++ (timesW ⟨tf, te, tl⟩ kClosed).flatMap (fun s => 32 :: s)) := Lib.hid (by rw [hazX, joinW_some (by rw [hazW]; exact joinW_ne (by decide) _), hazW, joinW_first _ (by decide)]; simp [kHazard, kOn])
  generalize hazX ⟨nm, a, ⟨tf, te, tl⟩⟩ = TX at *
  generalize (timesW ⟨tf, te, tl⟩ kClosed).flatMap (fun s => 32 :: s) = DT at *
  go_enter Tryz.func24, Tryz.ntmps24
  go_wp2
  obtain ⟨W, hW⟩ : ∃ W, W = w.alloc (.cells #[.string ⟨nm.toArray⟩, .string ⟨a.toArray⟩, .int .i64 tf, .int .i64 te, .int .i64 tl] 42) := ⟨_, rfl⟩
  have HW0 : Hid (Below w.heap.size w W) := Lib.hid (by rw [hW]; exact one_box _ _)
  have K0 : Hid (Blk W w.heap.size 42 [.string ⟨nm.toArray⟩, .string ⟨a.toArray⟩, .int .i64 tf, .int .i64 te, .int .i64 tl]) := Lib.hid (by rw [hW]; exact Blk.new w _ _)
  rw [← hW]
  clear hW
  have KC : Hid (∀ w', Below W.heap.size W w' → w'.cell? ⟨w.heap.size, 0, none⟩ = some (.string ⟨nm.toArray⟩) ∧ w'.cell? ⟨w.heap.size, 1, none⟩ = some (.string ⟨a.toArray⟩) ∧ w'.cell? ⟨w.heap.size, 2, none⟩ = some (.int .i64 tf) ∧ w'.cell? ⟨w.heap.size, 3, none⟩ = some (.int .i64 te) ∧ w'.cell? ⟨w.heap.size, 4, none⟩ = some (.int .i64 tl)) :=
    Lib.hid (fun w' hb => by have a := K0.out.after hb; exact ⟨a.cell 0, a.cell 1, a.cell 2, a.cell 3, a.cell 4⟩)
  have CC1 : Hid (∀ w', Below W.heap.size W w' → Calls Tryz.prog 51 #[.agg #[.int .i64 tf, .int .i64 te, .int .i64 tl], .string ⟨#[99, 108, 111, 115, 101, 100]⟩] w' fun e0 w2 => e0 = .returned (.string ⟨DT.toArray⟩) ∧ Below w'.heap.size w' w2) :=
    Lib.hid (fun w' hb => CN1.out w')
  have g1 : ¬ 9223372036854775807 < 7 + nm.length := by omega
  have g2 : ¬ 9223372036854775807 < 7 + nm.length + 4 := by omega
  have g3 : ¬ 9223372036854775807 < 7 + nm.length + 4 + a.length := by omega
  have g4 : ¬ 9223372036854775807 < 7 + nm.length + 4 + a.length + DT.length := by omega
  go_region_held3 (fun w' => w'.cell? ⟨w.heap.size, 0, none⟩ = some (.string ⟨nm.toArray⟩) ∧ w'.cell? ⟨w.heap.size, 1, none⟩ = some (.string ⟨a.toArray⟩) ∧ w'.cell? ⟨w.heap.size, 2, none⟩ = some (.int .i64 tf) ∧ w'.cell? ⟨w.heap.size, 3, none⟩ = some (.int .i64 te) ∧ w'.cell? ⟨w.heap.size, 4, none⟩ = some (.int .i64 tl)) (first | exact KC.out _ Q1.out | exact KC.out _ (below_drew (Below.refl _ _)) | exact KC.out _ (Below.refl _ _) | go_keep) (first
    | (go_at_call 51; (with_reducible refine (CC1.out _ (below_drew (Below.refl _ _))).mono ?_); rintro e' w1 ⟨rfl, hb⟩; have Q1 : Hid (Below W.heap.size W w1) := Lib.hid (keep_trans (below_drew (Below.refl _ W)) hb); clear hb)
    | fail)
  go_wp2
  go_ret
  exact ⟨congrArg (fun b => Ending.returned (Value.string b)) (bytes_eq (by rw [HX.out]; simp)), keep_trans HW0.out (keep_trans Q1.out (by repeat (first | exact Below.refl _ _ | refine below_drewN ?_ _ | refine below_drew ?_)))⟩
end Go.Proofs.YtcmlmfcnbmpajaaGreatDoor.Sw
