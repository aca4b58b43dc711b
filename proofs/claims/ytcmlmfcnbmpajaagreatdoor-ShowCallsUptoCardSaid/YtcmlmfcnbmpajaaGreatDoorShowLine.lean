/- Package show's lines: digits, Path, Door, Trip, Hazard, stop: what text each answers, whatever the thing has; proved by walking their text. Conditions: the library's table holds what start-up lays (Env); a line has at most 2^47 bytes. -/
import Derived.Test.YtcmlmfcnbmpajaaGreatDoorShowPut
import Derived.Deep.RegionHeld3
namespace Go.Proofs.YtcmlmfcnbmpajaaGreatDoor.Sw
open Go.ChangeShapes Go.WideShapes Go.ChangeAt Go.RowKit
open Lx Sh
set_option linter.unusedVariables false
set_option linter.unusedSimpArgs false

def I64 (n : Int) : Prop := -9223372036854775808 ≤ n ∧ n ≤ 9223372036854775807
set_option maxHeartbeats 1000000 in
theorem sdigits_any (n : Int) (w : World) (hE : Tk.Env w) (h : I64 n) :
    Calls Tryz.prog 49 #[.int .i64 n] w fun e w' => e = .returned (.string ⟨(Lib.itoa n).toArray⟩) ∧ Below w.heap.size w w' := by
  have H := Lib.hid (format_any n w hE h.1 h.2)
  clear hE h
  go_enter Tryz.func49, Tryz.ntmps49
  go_wp2_with (go_at_call 84; refine H.out.mono ?_; rintro e w1 ⟨rfl, hb⟩)
  go_ret
  exact ⟨rfl, hb⟩

theorem ret_str {a b : List UInt8} (h : a = b) : Ending.returned (.string ⟨b.toArray⟩) = .returned (.string ⟨a.toArray⟩) := by rw [h]
def TextPost (w : World) (l : List UInt8) (e : Ending) (w' : World) : Prop := e = .returned (.string ⟨l.toArray⟩) ∧ Below w.heap.size w w'
theorem lit_blk (w : World) (ws : List (List UInt8)) (a : Array Value) (h : a = (cs strC ws).toArray) : Blk (w.alloc (.cells a 9)) w.heap.size 9 (cs strC ws) := by
  subst h; exact Blk.new _ _ _
theorem joinW_ne {s : List UInt8} (h : s ≠ []) (r : List (List UInt8)) : joinW [] (s :: r) ≠ [] := by
  rw [joinW_first s h]; simp [h]
theorem fin_str {w w2 w3 w4 : World} {b : Nat} (h0 : Below w.heap.size w w2) (h1 : LCh w2 w.heap.size b w3) (hb : w.heap.size ≤ b) (h2 : Below w.heap.size w3 w4) : Below w.heap.size w w4 :=
  (h0.trans (h1.below h0.size hb (Nat.le_refl _))).trans h2


theorem joinW_ne2 {l : List UInt8} (h : l ≠ []) (r : List (List UInt8)) : joinW l r ≠ [] := by
  rw [joinW_some h]; simp [h]
theorem LineAt.new2 (w : World) (o : Obj) (T : TypeId) : LineAt ((w.alloc o).alloc (.cells #[.pointer none, .slice none 0 0] T)) T w.heap.size (w.heap.size + 1) [] := by
  have := LineAt.new (w.alloc o) T w.heap.size
  rwa [show (w.alloc o).heap.size = w.heap.size + 1 by simp] at this

def pathX (p : PathM) : List UInt8 := joinW [] [kPath, p.name, p.a, p.b, Lib.itoa p.len]
abbrev paV (p : PathM) : Value := .agg #[.string ⟨p.name.toArray⟩, .string ⟨p.a.toArray⟩, .string ⟨p.b.toArray⟩, .int .i64 p.len]
set_option maxRecDepth 100000 in
set_option maxHeartbeats 4000000 in
theorem path_any (p : PathM) (w : World) (hE : Tk.Env w) (hi : I64 p.len) (hlen : (pathX p).length ≤ 140737488355328) :
    Calls Tryz.prog 15 #[paV p] w (TextPost w (pathX p)) := by
  have HE := Lib.hid hE
  have HI1 := Lib.hid hi
  have HX : Hid (pathX p = joinW [] [kPath, p.name, p.a, p.b, Lib.itoa p.len]) := Lib.hid rfl
  have HLEN : Hid ((joinW [] [kPath, p.name, p.a, p.b, Lib.itoa p.len]).length ≤ 140737488355328) := Lib.hid hlen
  clear hE hi hlen
  obtain ⟨nm, a, b, ln⟩ := p
  dsimp only at HX HI1 HLEN
  go_enter Tryz.func15, Tryz.ntmps15
  go_wp2
  obtain ⟨W, hW⟩ : ∃ W, W = (w.alloc (.cells #[.string ⟨nm.toArray⟩, .string ⟨a.toArray⟩, .string ⟨b.toArray⟩, .int .i64 ln] 31)).alloc (.cells #[.pointer none, .slice none 0 0] 90) := ⟨_, rfl⟩
  have HW0 : Hid (Below w.heap.size w W) := Lib.hid (by rw [hW]; exact two_box _ _ _)
  have K0 : Hid (Blk W w.heap.size 31 [.string ⟨nm.toArray⟩, .string ⟨a.toArray⟩, .string ⟨b.toArray⟩, .int .i64 ln]) := Lib.hid (by rw [hW]; exact (Blk.new w _ _).alloc _)
  have KL : Hid (LineAt W 90 w.heap.size (w.heap.size + 1) []) := Lib.hid (by rw [hW]; exact LineAt.new2 w _ _)
  rw [← hW]
  clear hW
  have HBW : Hid (w.heap.size ≤ W.heap.size) := Lib.hid HW0.out.size
  have KC : Hid (∀ w', Below W.heap.size W w' → w'.cell? ⟨w.heap.size, 0, none⟩ = some (.string ⟨nm.toArray⟩) ∧ w'.cell? ⟨w.heap.size, 1, none⟩ = some (.string ⟨a.toArray⟩) ∧ w'.cell? ⟨w.heap.size, 2, none⟩ = some (.string ⟨b.toArray⟩) ∧ w'.cell? ⟨w.heap.size, 3, none⟩ = some (.int .i64 ln)) :=
    Lib.hid (fun w' hb => by have a := K0.out.after hb; exact ⟨a.cell 0, a.cell 1, a.cell 2, a.cell 3⟩)
  have CD1 : Hid (∀ w', Below W.heap.size W w' → Calls Tryz.prog 49 #[.int .i64 ln] w' fun e0 w2 => e0 = .returned (.string ⟨(Lib.itoa ln).toArray⟩) ∧ Below w'.heap.size w' w2) :=
    Lib.hid (fun w' hb => sdigits_any ln w' (HE.out.on (keep_trans HW0.out hb)) HI1.out)
  generalize Lib.itoa ln = D1 at *
  have CP : Hid (∀ w', Below W.heap.size W w' → Calls Tryz.prog 48 #[.pointer (some ⟨w.heap.size + 1, 0, none⟩), .slice (some ⟨w'.heap.size, 0, none⟩) 5 5] (w'.alloc (.cells #[.string ⟨#[112, 97, 116, 104]⟩, .string ⟨nm.toArray⟩, .string ⟨a.toArray⟩, .string ⟨b.toArray⟩, .string ⟨D1.toArray⟩] 9)) (PutPost (w'.alloc (.cells #[.string ⟨#[112, 97, 116, 104]⟩, .string ⟨nm.toArray⟩, .string ⟨a.toArray⟩, .string ⟨b.toArray⟩, .string ⟨D1.toArray⟩] 9)) w.heap.size (w.heap.size + 1) (joinW [] [kPath, nm, a, b, D1]))) :=
    Lib.hid (fun w' hb => put_any _ _ _ _ _ [] [kPath, nm, a, b, D1] _ ((KL.out.after hb).after (one_box _ _)) (Lib.hid rfl) (by decide) (lit_blk _ _ _ rfl) (by have h1 := KL.out.lt; have h2 := hb.size; omega) HLEN.out (by have h1 := HBW.out; have h2 := hb.size; simp; omega))
  go_region_held3 (fun w' => w'.cell? ⟨w.heap.size, 0, none⟩ = some (.string ⟨nm.toArray⟩) ∧ w'.cell? ⟨w.heap.size, 1, none⟩ = some (.string ⟨a.toArray⟩) ∧ w'.cell? ⟨w.heap.size, 2, none⟩ = some (.string ⟨b.toArray⟩) ∧ w'.cell? ⟨w.heap.size, 3, none⟩ = some (.int .i64 ln)) (first | exact ⟨K2.out.cell 0, K2.out.cell 1, K2.out.cell 2, K2.out.cell 3⟩ | exact KC.out _ Q1.out | exact KC.out _ (below_drew (Below.refl _ _)) | go_keep) (first
    | (go_at_call 48; (with_reducible refine (CP.out _ Q1.out).mono ?_); rintro e' w9 ⟨rfl, h1, h2⟩; have K2 := Lib.hid (h2.blk ((K0.out.after Q1.out).alloc _) (by omega) (by decide)); have L2 := Lib.hid h1; have H2 := Lib.hid h2; clear h1 h2)
    | (go_at_call 49; (with_reducible refine (CD1.out _ (below_drew (Below.refl _ _))).mono ?_); rintro e' w1 ⟨rfl, hb⟩; have Q1 : Hid (Below W.heap.size W w1) := Lib.hid (keep_trans (below_drew (Below.refl _ W)) hb); clear hb)
    | fail)
  have HN : Hid (joinW [] [kPath, nm, a, b, D1] ≠ []) := Lib.hid (by first | exact joinW_ne (by decide) _ | exact joinW_ne2 (joinW_ne (by decide) _) _)
  go_wp2_with (go_at_call 32; refine (string_some 90 btL w.heap.size (w.heap.size + 1) _ _ L2.out HN.out).mono ?_; rintro e' w10 ⟨rfl, hb⟩; have H3 := Lib.hid hb; clear hb)
  go_ret
  exact ⟨ret_str HX.out, fin_str (keep_trans HW0.out (keep_trans Q1.out (one_box _ _))) H2.out (by omega) H3.out⟩
def timesW (t : TimesM) (k : List UInt8) : List (List UInt8) := [kFrom, Lib.itoa t.frm, kEvery, Lib.itoa t.every, k, Lib.itoa t.len]
abbrev tmV (t : TimesM) : Value := .agg #[.int .i64 t.frm, .int .i64 t.every, .int .i64 t.len]
def TI64 (t : TimesM) : Prop := I64 t.frm ∧ I64 t.every ∧ I64 t.len
set_option maxRecDepth 100000 in
set_option maxHeartbeats 4000000 in
theorem times_any (t : TimesM) (k : List UInt8) (w : World) (B b : Nat) (l : List UInt8) (h : LineAt w 90 B b l) (hE : Tk.Env w) (hi : TI64 t) (hlen : (joinW l (timesW t k)).length ≤ 140737488355328) (hB : B ≤ w.heap.size) :
    Calls Tryz.prog 50 #[.pointer (some ⟨b, 0, none⟩), tmV t, .string ⟨k.toArray⟩] w (PutPost w B b (joinW l (timesW t k))) := by
  have HE := Lib.hid hE
  have HI1 := Lib.hid hi.1
  have HI2 := Lib.hid hi.2.1
  have HI3 := Lib.hid hi.2.2
  have HL := Lib.hid h
  have HX : Hid (joinW l (timesW t k) = joinW l [kFrom, Lib.itoa t.frm, kEvery, Lib.itoa t.every, k, Lib.itoa t.len]) := Lib.hid rfl
  have HLEN : Hid ((joinW l [kFrom, Lib.itoa t.frm, kEvery, Lib.itoa t.every, k, Lib.itoa t.len]).length ≤ 140737488355328) := Lib.hid hlen
  have hbl : b < w.heap.size := h.lt
  clear hE hi hlen h
  obtain ⟨f, e, ln⟩ := t
  dsimp only at HX HI1 HI2 HI3 HLEN
  go_enter Tryz.func50, Tryz.ntmps50
  go_wp2
  obtain ⟨W, hW⟩ : ∃ W, W = w.alloc (.cells #[.int .i64 f, .int .i64 e, .int .i64 ln] 33) := ⟨_, rfl⟩
  have HW0 : Hid (Below w.heap.size w W) := Lib.hid (by rw [hW]; exact one_box _ _)
  have K0 : Hid (Blk W w.heap.size 33 [.int .i64 f, .int .i64 e, .int .i64 ln]) := Lib.hid (by rw [hW]; exact Blk.new w _ _)
  have KL : Hid (LineAt W 90 B b l) := Lib.hid (HL.out.after HW0.out)
  have HBW : Hid (B ≤ W.heap.size) := Lib.hid (Nat.le_trans hB HW0.out.size)
  rw [← hW]
  clear hW
  have KC : Hid (∀ w', Below W.heap.size W w' → w'.cell? ⟨w.heap.size, 0, none⟩ = some (.int .i64 f) ∧ w'.cell? ⟨w.heap.size, 1, none⟩ = some (.int .i64 e) ∧ w'.cell? ⟨w.heap.size, 2, none⟩ = some (.int .i64 ln)) :=
    Lib.hid (fun w' hb => by have a := K0.out.after hb; exact ⟨a.cell 0, a.cell 1, a.cell 2⟩)
  have CD1 : Hid (∀ w', Below W.heap.size W w' → Calls Tryz.prog 49 #[.int .i64 f] w' fun e0 w2 => e0 = .returned (.string ⟨(Lib.itoa f).toArray⟩) ∧ Below w'.heap.size w' w2) :=
    Lib.hid (fun w' hb => sdigits_any f w' (HE.out.on (keep_trans HW0.out hb)) HI1.out)
  have CD2 : Hid (∀ w', Below W.heap.size W w' → Calls Tryz.prog 49 #[.int .i64 e] w' fun e0 w2 => e0 = .returned (.string ⟨(Lib.itoa e).toArray⟩) ∧ Below w'.heap.size w' w2) :=
    Lib.hid (fun w' hb => sdigits_any e w' (HE.out.on (keep_trans HW0.out hb)) HI2.out)
  have CD3 : Hid (∀ w', Below W.heap.size W w' → Calls Tryz.prog 49 #[.int .i64 ln] w' fun e0 w2 => e0 = .returned (.string ⟨(Lib.itoa ln).toArray⟩) ∧ Below w'.heap.size w' w2) :=
    Lib.hid (fun w' hb => sdigits_any ln w' (HE.out.on (keep_trans HW0.out hb)) HI3.out)
  generalize Lib.itoa f = D1 at *
  generalize Lib.itoa e = D2 at *
  generalize Lib.itoa ln = D3 at *
  have CP : Hid (∀ w', Below W.heap.size W w' → Calls Tryz.prog 48 #[.pointer (some ⟨b, 0, none⟩), .slice (some ⟨w'.heap.size, 0, none⟩) 6 6] (w'.alloc (.cells #[.string ⟨#[102, 114, 111, 109]⟩, .string ⟨D1.toArray⟩, .string ⟨#[101, 118, 101, 114, 121]⟩, .string ⟨D2.toArray⟩, .string ⟨k.toArray⟩, .string ⟨D3.toArray⟩] 9)) (PutPost (w'.alloc (.cells #[.string ⟨#[102, 114, 111, 109]⟩, .string ⟨D1.toArray⟩, .string ⟨#[101, 118, 101, 114, 121]⟩, .string ⟨D2.toArray⟩, .string ⟨k.toArray⟩, .string ⟨D3.toArray⟩] 9)) B (b) (joinW l [kFrom, D1, kEvery, D2, k, D3]))) :=
    Lib.hid (fun w' hb => put_any _ _ _ _ _ l [kFrom, D1, kEvery, D2, k, D3] _ ((KL.out.after hb).after (one_box _ _)) (Lib.hid rfl) (by decide) (lit_blk _ _ _ rfl) (by have h1 := KL.out.lt; have h2 := hb.size; omega) HLEN.out (by have h1 := HBW.out; have h2 := hb.size; simp; omega))
  go_region_held3 (fun w' => w'.cell? ⟨w.heap.size, 0, none⟩ = some (.int .i64 f) ∧ w'.cell? ⟨w.heap.size, 1, none⟩ = some (.int .i64 e) ∧ w'.cell? ⟨w.heap.size, 2, none⟩ = some (.int .i64 ln)) (first | exact ⟨K2.out.cell 0, K2.out.cell 1, K2.out.cell 2⟩ | exact KC.out _ Q3.out | exact KC.out _ Q2.out | exact KC.out _ Q1.out | exact KC.out _ (below_drew (Below.refl _ _)) | go_keep) (first
    | (go_at_call 48; (with_reducible refine (CP.out _ Q3.out).mono ?_); rintro e' w9 ⟨rfl, h1, h2⟩; have K2 := Lib.hid (h2.blk ((K0.out.after Q3.out).alloc _) (by omega) (by decide)); have L2 := Lib.hid h1; have H2 := Lib.hid h2; clear h1 h2)
    | (go_at_call 49; (with_reducible refine (CD3.out _ Q2.out).mono ?_); rintro e' w3 ⟨rfl, hb⟩; have Q3 : Hid (Below W.heap.size W w3) := Lib.hid (keep_trans Q2.out hb); clear hb)
    | (go_at_call 49; (with_reducible refine (CD2.out _ Q1.out).mono ?_); rintro e' w2 ⟨rfl, hb⟩; have Q2 : Hid (Below W.heap.size W w2) := Lib.hid (keep_trans Q1.out hb); clear hb)
    | (go_at_call 49; (with_reducible refine (CD1.out _ (below_drew (Below.refl _ _))).mono ?_); rintro e' w1 ⟨rfl, hb⟩; have Q1 : Hid (Below W.heap.size W w1) := Lib.hid (keep_trans (below_drew (Below.refl _ W)) hb); clear hb)
    | fail)
  go_end0
  refine ⟨rfl, HX.out ▸ L2.out, ?_⟩
  exact (LCh.refl w B b).after (keep_trans HW0.out (keep_trans Q3.out (one_box _ _))) |>.trans H2.out
def doorW (p : DoorM) : List UInt8 := joinW [] [kDoor, p.name, p.a, p.b, Lib.itoa p.len]
def doorX (p : DoorM) : List UInt8 := joinW (doorW p) (timesW p.times kOpen)
abbrev doV (p : DoorM) : Value := .agg #[.string ⟨p.name.toArray⟩, .string ⟨p.a.toArray⟩, .string ⟨p.b.toArray⟩, .int .i64 p.len, .int .i64 p.times.frm, .int .i64 p.times.every, .int .i64 p.times.len]
set_option maxRecDepth 100000 in
set_option maxHeartbeats 4000000 in
theorem door_any (p : DoorM) (w : World) (hE : Tk.Env w) (hi : I64 p.len) (ht : TI64 p.times) (hlen : (doorX p).length ≤ 140737488355328) :
    Calls Tryz.prog 17 #[doV p] w (TextPost w (doorX p)) := by
  have HE := Lib.hid hE
  have HI1 := Lib.hid hi
  have HTI := Lib.hid ht
  have HX0 : Hid (doorX p = joinW (joinW [] [kDoor, p.name, p.a, p.b, Lib.itoa p.len]) (timesW p.times kOpen)) := Lib.hid rfl
  have HLEN : Hid ((joinW [] [kDoor, p.name, p.a, p.b, Lib.itoa p.len]).length ≤ 140737488355328) := Lib.hid (Nat.le_trans (joinW_le _ _) hlen)
  have HLEN2 : Hid ((joinW (joinW [] [kDoor, p.name, p.a, p.b, Lib.itoa p.len]) (timesW p.times kOpen)).length ≤ 140737488355328) := Lib.hid hlen
  clear hE hi hlen ht
  obtain ⟨nm, a, b, ln, f, e, tl⟩ := p
  dsimp only at HX0 HI1 HLEN HLEN2 HTI
  go_enter Tryz.func17, Tryz.ntmps17
  go_wp2
  obtain ⟨W, hW⟩ : ∃ W, W = (w.alloc (.cells #[.string ⟨nm.toArray⟩, .string ⟨a.toArray⟩, .string ⟨b.toArray⟩, .int .i64 ln, .int .i64 f, .int .i64 e, .int .i64 tl] 35)).alloc (.cells #[.pointer none, .slice none 0 0] 90) := ⟨_, rfl⟩
  have HW0 : Hid (Below w.heap.size w W) := Lib.hid (by rw [hW]; exact two_box _ _ _)
  have K0 : Hid (Blk W w.heap.size 35 [.string ⟨nm.toArray⟩, .string ⟨a.toArray⟩, .string ⟨b.toArray⟩, .int .i64 ln, .int .i64 f, .int .i64 e, .int .i64 tl]) := Lib.hid (by rw [hW]; exact (Blk.new w _ _).alloc _)
  have KL : Hid (LineAt W 90 w.heap.size (w.heap.size + 1) []) := Lib.hid (by rw [hW]; exact LineAt.new2 w _ _)
  rw [← hW]
  clear hW
  have HBW : Hid (w.heap.size ≤ W.heap.size) := Lib.hid HW0.out.size
  have KC : Hid (∀ w', Below W.heap.size W w' → w'.cell? ⟨w.heap.size, 0, none⟩ = some (.string ⟨nm.toArray⟩) ∧ w'.cell? ⟨w.heap.size, 1, none⟩ = some (.string ⟨a.toArray⟩) ∧ w'.cell? ⟨w.heap.size, 2, none⟩ = some (.string ⟨b.toArray⟩) ∧ w'.cell? ⟨w.heap.size, 3, none⟩ = some (.int .i64 ln)) :=
    Lib.hid (fun w' hb => by have a := K0.out.after hb; exact ⟨a.cell 0, a.cell 1, a.cell 2, a.cell 3⟩)
  have CD1 : Hid (∀ w', Below W.heap.size W w' → Calls Tryz.prog 49 #[.int .i64 ln] w' fun e0 w2 => e0 = .returned (.string ⟨(Lib.itoa ln).toArray⟩) ∧ Below w'.heap.size w' w2) :=
    Lib.hid (fun w' hb => sdigits_any ln w' (HE.out.on (keep_trans HW0.out hb)) HI1.out)
  generalize Lib.itoa ln = D1 at *
  have CP : Hid (∀ w', Below W.heap.size W w' → Calls Tryz.prog 48 #[.pointer (some ⟨w.heap.size + 1, 0, none⟩), .slice (some ⟨w'.heap.size, 0, none⟩) 5 5] (w'.alloc (.cells #[.string ⟨#[100, 111, 111, 114]⟩, .string ⟨nm.toArray⟩, .string ⟨a.toArray⟩, .string ⟨b.toArray⟩, .string ⟨D1.toArray⟩] 9)) (PutPost (w'.alloc (.cells #[.string ⟨#[100, 111, 111, 114]⟩, .string ⟨nm.toArray⟩, .string ⟨a.toArray⟩, .string ⟨b.toArray⟩, .string ⟨D1.toArray⟩] 9)) w.heap.size (w.heap.size + 1) (joinW [] [kDoor, nm, a, b, D1]))) :=
    Lib.hid (fun w' hb => put_any _ _ _ _ _ [] [kDoor, nm, a, b, D1] _ ((KL.out.after hb).after (one_box _ _)) (Lib.hid rfl) (by decide) (lit_blk _ _ _ rfl) (by have h1 := KL.out.lt; have h2 := hb.size; omega) HLEN.out (by have h1 := HBW.out; have h2 := hb.size; simp; omega))
  go_region_held3 (fun w' => w'.cell? ⟨w.heap.size, 0, none⟩ = some (.string ⟨nm.toArray⟩) ∧ w'.cell? ⟨w.heap.size, 1, none⟩ = some (.string ⟨a.toArray⟩) ∧ w'.cell? ⟨w.heap.size, 2, none⟩ = some (.string ⟨b.toArray⟩) ∧ w'.cell? ⟨w.heap.size, 3, none⟩ = some (.int .i64 ln)) (first | exact ⟨K2.out.cell 0, K2.out.cell 1, K2.out.cell 2, K2.out.cell 3⟩ | exact KC.out _ Q1.out | exact KC.out _ (below_drew (Below.refl _ _)) | go_keep) (first
    | (go_at_call 48; (with_reducible refine (CP.out _ Q1.out).mono ?_); rintro e' w9 ⟨rfl, h1, h2⟩; have K2 := Lib.hid (h2.blk ((K0.out.after Q1.out).alloc _) (by omega) (by decide)); have L2 := Lib.hid h1; have H2 := Lib.hid h2; clear h1 h2)
    | (go_at_call 49; (with_reducible refine (CD1.out _ (below_drew (Below.refl _ _))).mono ?_); rintro e' w1 ⟨rfl, hb⟩; have Q1 : Hid (Below W.heap.size W w1) := Lib.hid (keep_trans (below_drew (Below.refl _ W)) hb); clear hb)
    | fail)
  have y4 : w9.cell? ⟨w.heap.size, 4, none⟩ = some (.int .i64 f) := K2.out.cell 4
  have y5 : w9.cell? ⟨w.heap.size, 5, none⟩ = some (.int .i64 e) := K2.out.cell 5
  have y6 : w9.cell? ⟨w.heap.size, 6, none⟩ = some (.int .i64 tl) := K2.out.cell 6
  have HZ : Hid (w.heap.size ≤ w9.heap.size) := Lib.hid (by have h1 := HW0.out.size; have h2 := ((keep_trans Q1.out (one_box _ (.cells #[.string ⟨#[100, 111, 111, 114]⟩, .string ⟨nm.toArray⟩, .string ⟨a.toArray⟩, .string ⟨b.toArray⟩, .string ⟨D1.toArray⟩] 9)))).size; have h3 := Ch.size H2.out; omega)
  have HB9 : Hid (Below w.heap.size w w9) := Lib.hid ((keep_trans HW0.out (keep_trans Q1.out (one_box _ (.cells #[.string ⟨#[100, 111, 111, 114]⟩, .string ⟨nm.toArray⟩, .string ⟨a.toArray⟩, .string ⟨b.toArray⟩, .string ⟨D1.toArray⟩] 9)))).trans (H2.out.below (by have h1 := HW0.out.size; have h2 := ((keep_trans Q1.out (one_box _ (.cells #[.string ⟨#[100, 111, 111, 114]⟩, .string ⟨nm.toArray⟩, .string ⟨a.toArray⟩, .string ⟨b.toArray⟩, .string ⟨D1.toArray⟩] 9)))).size; omega) (by omega) (Nat.le_refl _)))
  have CT : Hid (Calls Tryz.prog 50 #[.pointer (some ⟨w.heap.size + 1, 0, none⟩), .agg #[.int .i64 f, .int .i64 e, .int .i64 tl], .string ⟨#[111, 112, 101, 110]⟩] w9 (PutPost w9 w.heap.size (w.heap.size + 1) (joinW (joinW [] [kDoor, nm, a, b, D1]) (timesW ⟨f, e, tl⟩ kOpen)))) :=
    Lib.hid (times_any ⟨f, e, tl⟩ kOpen w9 _ _ _ L2.out (HE.out.on HB9.out) HTI.out HLEN2.out HZ.out)
  go_wp2_with (first
    | (go_at_call 50; (with_reducible refine CT.out.mono ?_); rintro e' w11 ⟨rfl, h1, h2⟩; have L4 := Lib.hid h1; have H4 := Lib.hid h2; clear h1 h2)
    | fail)
  have HX := HX0
  have HN : Hid (joinW (joinW [] [kDoor, nm, a, b, D1]) (timesW ⟨f, e, tl⟩ kOpen) ≠ []) := Lib.hid (by first | exact joinW_ne (by decide) _ | exact joinW_ne2 (joinW_ne (by decide) _) _)
  go_wp2_with (go_at_call 32; refine (string_some 90 btL w.heap.size (w.heap.size + 1) _ _ L4.out HN.out).mono ?_; rintro e' w10 ⟨rfl, hb⟩; have H3 := Lib.hid hb; clear hb)
  go_ret
  exact ⟨ret_str HX.out, fin_str (keep_trans HW0.out (keep_trans Q1.out (one_box _ _))) (H2.out.trans H4.out) (by omega) H3.out⟩
def hazW (p : HazM) : List UInt8 := joinW [] [kHazard, p.name, kOn, p.at_]
def hazX (p : HazM) : List UInt8 := joinW (hazW p) (timesW p.times kClosed)
abbrev haV (p : HazM) : Value := .agg #[.string ⟨p.name.toArray⟩, .string ⟨p.at_.toArray⟩, .int .i64 p.times.frm, .int .i64 p.times.every, .int .i64 p.times.len]
set_option maxRecDepth 100000 in
set_option maxHeartbeats 4000000 in
theorem haz_any (p : HazM) (w : World) (hE : Tk.Env w) (ht : TI64 p.times) (hlen : (hazX p).length ≤ 140737488355328) :
    Calls Tryz.prog 23 #[haV p] w (TextPost w (hazX p)) := by
  have HE := Lib.hid hE
  have HTI := Lib.hid ht
  have HX : Hid (hazX p = joinW (joinW [] [kHazard, p.name, kOn, p.at_]) (timesW p.times kClosed)) := Lib.hid rfl
  have HLEN : Hid ((joinW [] [kHazard, p.name, kOn, p.at_]).length ≤ 140737488355328) := Lib.hid (Nat.le_trans (joinW_le _ _) hlen)
  have HLEN2 : Hid ((joinW (joinW [] [kHazard, p.name, kOn, p.at_]) (timesW p.times kClosed)).length ≤ 140737488355328) := Lib.hid hlen
  clear hE hlen ht
  obtain ⟨nm, a, f, e, tl⟩ := p
  dsimp only at HX HLEN HLEN2 HTI
  go_enter Tryz.func23, Tryz.ntmps23
  go_upto_region 2 with (fail)
  obtain ⟨W, hW⟩ : ∃ W, W = (w.alloc (.cells #[.string ⟨nm.toArray⟩, .string ⟨a.toArray⟩, .int .i64 f, .int .i64 e, .int .i64 tl] 42)).alloc (.cells #[.pointer none, .slice none 0 0] 90) := ⟨_, rfl⟩
  have HW0 : Hid (Below w.heap.size w W) := Lib.hid (by rw [hW]; exact two_box _ _ _)
  have K0 : Hid (Blk W w.heap.size 42 [.string ⟨nm.toArray⟩, .string ⟨a.toArray⟩, .int .i64 f, .int .i64 e, .int .i64 tl]) := Lib.hid (by rw [hW]; exact (Blk.new w _ _).alloc _)
  have KL : Hid (LineAt W 90 w.heap.size (w.heap.size + 1) []) := Lib.hid (by rw [hW]; exact LineAt.new2 w _ _)
  rw [← hW]
  clear hW
  have HBW : Hid (w.heap.size ≤ W.heap.size) := Lib.hid HW0.out.size
  have KC : Hid (∀ w', Below W.heap.size W w' → w'.cell? ⟨w.heap.size, 0, none⟩ = some (.string ⟨nm.toArray⟩) ∧ w'.cell? ⟨w.heap.size, 1, none⟩ = some (.string ⟨a.toArray⟩)) :=
    Lib.hid (fun w' hb => by have a := K0.out.after hb; exact ⟨a.cell 0, a.cell 1⟩)
  have CP : Hid (∀ w', Below W.heap.size W w' → Calls Tryz.prog 48 #[.pointer (some ⟨w.heap.size + 1, 0, none⟩), .slice (some ⟨w'.heap.size, 0, none⟩) 4 4] (w'.alloc (.cells #[.string ⟨#[104, 97, 122, 97, 114, 100]⟩, .string ⟨nm.toArray⟩, .string ⟨#[111, 110]⟩, .string ⟨a.toArray⟩] 9)) (PutPost (w'.alloc (.cells #[.string ⟨#[104, 97, 122, 97, 114, 100]⟩, .string ⟨nm.toArray⟩, .string ⟨#[111, 110]⟩, .string ⟨a.toArray⟩] 9)) w.heap.size (w.heap.size + 1) (joinW [] [kHazard, nm, kOn, a]))) :=
    Lib.hid (fun w' hb => put_any _ _ _ _ _ [] [kHazard, nm, kOn, a] _ ((KL.out.after hb).after (one_box _ _)) (Lib.hid rfl) (by decide) (lit_blk _ _ _ rfl) (by have h1 := KL.out.lt; have h2 := hb.size; omega) HLEN.out (by have h1 := HBW.out; have h2 := hb.size; simp; omega))
  have xx := KC.out W (Below.refl _ _)
  obtain ⟨x0, x1⟩ := xx
  go_wp2_with (first
    | (go_at_call 48; (with_reducible refine (CP.out _ (Below.refl _ _)).mono ?_); rintro e' w9 ⟨rfl, h1, h2⟩; have K2 := Lib.hid (h2.blk ((K0.out.after (Below.refl _ _)).alloc _) (by omega) (by decide)); have L2 := Lib.hid h1; have H2 := Lib.hid h2; clear h1 h2; have y4 : w9.cell? ⟨w.heap.size, 2, none⟩ = some (.int .i64 f) := K2.out.cell 2; have y5 : w9.cell? ⟨w.heap.size, 3, none⟩ = some (.int .i64 e) := K2.out.cell 3; have y6 : w9.cell? ⟨w.heap.size, 4, none⟩ = some (.int .i64 tl) := K2.out.cell 4)
    | fail)
  have HZ : Hid (w.heap.size ≤ w9.heap.size) := Lib.hid (by have h1 := HW0.out.size; have h2 := ((one_box W (.cells #[.string ⟨#[104, 97, 122, 97, 114, 100]⟩, .string ⟨nm.toArray⟩, .string ⟨#[111, 110]⟩, .string ⟨a.toArray⟩] 9))).size; have h3 := Ch.size H2.out; omega)
  have HB9 : Hid (Below w.heap.size w w9) := Lib.hid ((keep_trans HW0.out (one_box W (.cells #[.string ⟨#[104, 97, 122, 97, 114, 100]⟩, .string ⟨nm.toArray⟩, .string ⟨#[111, 110]⟩, .string ⟨a.toArray⟩] 9))).trans (H2.out.below (by have h1 := HW0.out.size; have h2 := ((one_box W (.cells #[.string ⟨#[104, 97, 122, 97, 114, 100]⟩, .string ⟨nm.toArray⟩, .string ⟨#[111, 110]⟩, .string ⟨a.toArray⟩] 9))).size; omega) (by omega) (Nat.le_refl _)))
  have CT : Hid (Calls Tryz.prog 50 #[.pointer (some ⟨w.heap.size + 1, 0, none⟩), .agg #[.int .i64 f, .int .i64 e, .int .i64 tl], .string ⟨#[99, 108, 111, 115, 101, 100]⟩] w9 (PutPost w9 w.heap.size (w.heap.size + 1) (joinW (joinW [] [kHazard, nm, kOn, a]) (timesW ⟨f, e, tl⟩ kClosed)))) :=
    Lib.hid (times_any ⟨f, e, tl⟩ kClosed w9 _ _ _ L2.out (HE.out.on HB9.out) HTI.out HLEN2.out HZ.out)
  go_wp2_with (first
    | (go_at_call 50; (with_reducible refine CT.out.mono ?_); rintro e' w11 ⟨rfl, h1, h2⟩; have L4 := Lib.hid h1; have H4 := Lib.hid h2; clear h1 h2)
    | fail)
  have HN : Hid (joinW (joinW [] [kHazard, nm, kOn, a]) (timesW ⟨f, e, tl⟩ kClosed) ≠ []) := Lib.hid (by first | exact joinW_ne (by decide) _ | exact joinW_ne2 (joinW_ne (by decide) _) _)
  go_wp2_with (go_at_call 32; refine (string_some 90 btL w.heap.size (w.heap.size + 1) _ _ L4.out HN.out).mono ?_; rintro e' w10 ⟨rfl, hb⟩; have H3 := Lib.hid hb; clear hb)
  go_ret
  exact ⟨ret_str HX.out, fin_str (keep_trans HW0.out (one_box _ _)) (H2.out.trans H4.out) (by omega) H3.out⟩
def tripX (p : TripM) : List UInt8 := joinW [] [kTrip, p.name, kOf, p.route, kFrom, Lib.itoa p.frm, kEvery, Lib.itoa p.every, kUntil, Lib.itoa p.til]
abbrev trV (p : TripM) : Value := .agg #[.string ⟨p.name.toArray⟩, .string ⟨p.route.toArray⟩, .int .i64 p.frm, .int .i64 p.every, .int .i64 p.til]
def TrI64 (p : TripM) : Prop := I64 p.frm ∧ I64 p.every ∧ I64 p.til
set_option maxRecDepth 100000 in
set_option maxHeartbeats 4000000 in
theorem trip_any (p : TripM) (w : World) (hE : Tk.Env w) (hi : TrI64 p) (hlen : (tripX p).length ≤ 140737488355328) :
    Calls Tryz.prog 21 #[trV p] w (TextPost w (tripX p)) := by
  have HE := Lib.hid hE
  have HI1 := Lib.hid hi.1
  have HI2 := Lib.hid hi.2.1
  have HI3 := Lib.hid hi.2.2
  have HX : Hid (tripX p = joinW [] [kTrip, p.name, kOf, p.route, kFrom, Lib.itoa p.frm, kEvery, Lib.itoa p.every, kUntil, Lib.itoa p.til]) := Lib.hid rfl
  have HLEN : Hid ((joinW [] [kTrip, p.name, kOf, p.route, kFrom, Lib.itoa p.frm, kEvery, Lib.itoa p.every, kUntil, Lib.itoa p.til]).length ≤ 140737488355328) := Lib.hid hlen
  clear hE hi hlen
  obtain ⟨nm, a, f, e, tl⟩ := p
  dsimp only at HX HI1 HI2 HI3 HLEN
  go_enter Tryz.func21, Tryz.ntmps21
  go_wp2
  obtain ⟨W, hW⟩ : ∃ W, W = (w.alloc (.cells #[.string ⟨nm.toArray⟩, .string ⟨a.toArray⟩, .int .i64 f, .int .i64 e, .int .i64 tl] 40)).alloc (.cells #[.pointer none, .slice none 0 0] 90) := ⟨_, rfl⟩
  have HW0 : Hid (Below w.heap.size w W) := Lib.hid (by rw [hW]; exact two_box _ _ _)
  have K0 : Hid (Blk W w.heap.size 40 [.string ⟨nm.toArray⟩, .string ⟨a.toArray⟩, .int .i64 f, .int .i64 e, .int .i64 tl]) := Lib.hid (by rw [hW]; exact (Blk.new w _ _).alloc _)
  have KL : Hid (LineAt W 90 w.heap.size (w.heap.size + 1) []) := Lib.hid (by rw [hW]; exact LineAt.new2 w _ _)
  rw [← hW]
  clear hW
  have HBW : Hid (w.heap.size ≤ W.heap.size) := Lib.hid HW0.out.size
  have KC : Hid (∀ w', Below W.heap.size W w' → w'.cell? ⟨w.heap.size, 0, none⟩ = some (.string ⟨nm.toArray⟩) ∧ w'.cell? ⟨w.heap.size, 1, none⟩ = some (.string ⟨a.toArray⟩) ∧ w'.cell? ⟨w.heap.size, 2, none⟩ = some (.int .i64 f) ∧ w'.cell? ⟨w.heap.size, 3, none⟩ = some (.int .i64 e) ∧ w'.cell? ⟨w.heap.size, 4, none⟩ = some (.int .i64 tl)) :=
    Lib.hid (fun w' hb => by have a := K0.out.after hb; exact ⟨a.cell 0, a.cell 1, a.cell 2, a.cell 3, a.cell 4⟩)
  have CD1 : Hid (∀ w', Below W.heap.size W w' → Calls Tryz.prog 49 #[.int .i64 f] w' fun e0 w2 => e0 = .returned (.string ⟨(Lib.itoa f).toArray⟩) ∧ Below w'.heap.size w' w2) :=
    Lib.hid (fun w' hb => sdigits_any f w' (HE.out.on (keep_trans HW0.out hb)) HI1.out)
  have CD2 : Hid (∀ w', Below W.heap.size W w' → Calls Tryz.prog 49 #[.int .i64 e] w' fun e0 w2 => e0 = .returned (.string ⟨(Lib.itoa e).toArray⟩) ∧ Below w'.heap.size w' w2) :=
    Lib.hid (fun w' hb => sdigits_any e w' (HE.out.on (keep_trans HW0.out hb)) HI2.out)
  have CD3 : Hid (∀ w', Below W.heap.size W w' → Calls Tryz.prog 49 #[.int .i64 tl] w' fun e0 w2 => e0 = .returned (.string ⟨(Lib.itoa tl).toArray⟩) ∧ Below w'.heap.size w' w2) :=
    Lib.hid (fun w' hb => sdigits_any tl w' (HE.out.on (keep_trans HW0.out hb)) HI3.out)
  generalize Lib.itoa f = D1 at *
  generalize Lib.itoa e = D2 at *
  generalize Lib.itoa tl = D3 at *
  have CP : Hid (∀ w', Below W.heap.size W w' → Calls Tryz.prog 48 #[.pointer (some ⟨w.heap.size + 1, 0, none⟩), .slice (some ⟨w'.heap.size, 0, none⟩) 10 10] (w'.alloc (.cells #[.string ⟨#[116, 114, 105, 112]⟩, .string ⟨nm.toArray⟩, .string ⟨#[111, 102]⟩, .string ⟨a.toArray⟩, .string ⟨#[102, 114, 111, 109]⟩, .string ⟨D1.toArray⟩, .string ⟨#[101, 118, 101, 114, 121]⟩, .string ⟨D2.toArray⟩, .string ⟨#[117, 110, 116, 105, 108]⟩, .string ⟨D3.toArray⟩] 9)) (PutPost (w'.alloc (.cells #[.string ⟨#[116, 114, 105, 112]⟩, .string ⟨nm.toArray⟩, .string ⟨#[111, 102]⟩, .string ⟨a.toArray⟩, .string ⟨#[102, 114, 111, 109]⟩, .string ⟨D1.toArray⟩, .string ⟨#[101, 118, 101, 114, 121]⟩, .string ⟨D2.toArray⟩, .string ⟨#[117, 110, 116, 105, 108]⟩, .string ⟨D3.toArray⟩] 9)) w.heap.size (w.heap.size + 1) (joinW [] [kTrip, nm, kOf, a, kFrom, D1, kEvery, D2, kUntil, D3]))) :=
    Lib.hid (fun w' hb => put_any _ _ _ _ _ [] [kTrip, nm, kOf, a, kFrom, D1, kEvery, D2, kUntil, D3] _ ((KL.out.after hb).after (one_box _ _)) (Lib.hid rfl) (by decide) (lit_blk _ _ _ rfl) (by have h1 := KL.out.lt; have h2 := hb.size; omega) HLEN.out (by have h1 := HBW.out; have h2 := hb.size; simp; omega))
  go_region_held3 (fun w' => w'.cell? ⟨w.heap.size, 0, none⟩ = some (.string ⟨nm.toArray⟩) ∧ w'.cell? ⟨w.heap.size, 1, none⟩ = some (.string ⟨a.toArray⟩) ∧ w'.cell? ⟨w.heap.size, 2, none⟩ = some (.int .i64 f) ∧ w'.cell? ⟨w.heap.size, 3, none⟩ = some (.int .i64 e) ∧ w'.cell? ⟨w.heap.size, 4, none⟩ = some (.int .i64 tl)) (first | exact ⟨K2.out.cell 0, K2.out.cell 1, K2.out.cell 2, K2.out.cell 3, K2.out.cell 4⟩ | exact KC.out _ Q3.out | exact KC.out _ Q2.out | exact KC.out _ Q1.out | exact KC.out _ (below_drew (Below.refl _ _)) | go_keep) (first
    | (go_at_call 48; (with_reducible refine (CP.out _ Q3.out).mono ?_); rintro e' w9 ⟨rfl, h1, h2⟩; have K2 := Lib.hid (h2.blk ((K0.out.after Q3.out).alloc _) (by omega) (by decide)); have L2 := Lib.hid h1; have H2 := Lib.hid h2; clear h1 h2)
    | (go_at_call 49; (with_reducible refine (CD3.out _ Q2.out).mono ?_); rintro e' w3 ⟨rfl, hb⟩; have Q3 : Hid (Below W.heap.size W w3) := Lib.hid (keep_trans Q2.out hb); clear hb)
    | (go_at_call 49; (with_reducible refine (CD2.out _ Q1.out).mono ?_); rintro e' w2 ⟨rfl, hb⟩; have Q2 : Hid (Below W.heap.size W w2) := Lib.hid (keep_trans Q1.out hb); clear hb)
    | (go_at_call 49; (with_reducible refine (CD1.out _ (below_drew (Below.refl _ _))).mono ?_); rintro e' w1 ⟨rfl, hb⟩; have Q1 : Hid (Below W.heap.size W w1) := Lib.hid (keep_trans (below_drew (Below.refl _ W)) hb); clear hb)
    | fail)
  have HN : Hid (joinW [] [kTrip, nm, kOf, a, kFrom, D1, kEvery, D2, kUntil, D3] ≠ []) := Lib.hid (by first | exact joinW_ne (by decide) _ | exact joinW_ne2 (joinW_ne (by decide) _) _)
  go_wp2_with (go_at_call 32; refine (string_some 90 btL w.heap.size (w.heap.size + 1) _ _ L2.out HN.out).mono ?_; rintro e' w10 ⟨rfl, hb⟩; have H3 := Lib.hid hb; clear hb)
  go_ret
  exact ⟨ret_str HX.out, fin_str (keep_trans HW0.out (keep_trans Q3.out (one_box _ _))) H2.out (by omega) H3.out⟩
def stopX (s : List UInt8) : List UInt8 := joinW [] [kStop, s]
set_option maxRecDepth 100000 in
set_option maxHeartbeats 4000000 in
theorem stop_any (s : List UInt8) (w : World) (hlen : (stopX s).length ≤ 140737488355328) :
    Calls Tryz.prog 76 #[.string ⟨s.toArray⟩] w (TextPost w (stopX s)) := by
  have HX : Hid (stopX s = joinW [] [kStop, s]) := Lib.hid rfl
  have HLEN : Hid ((joinW [] [kStop, s]).length ≤ 140737488355328) := Lib.hid hlen
  clear hlen
  go_enter Tryz.func76, Tryz.ntmps76
  go_upto_region 2 with (fail)
  obtain ⟨W, hW⟩ : ∃ W, W = w.alloc (.cells #[.pointer none, .slice none 0 0] 90) := ⟨_, rfl⟩
  have HW0 : Hid (Below w.heap.size w W) := Lib.hid (by rw [hW]; exact one_box _ _)
  have KL : Hid (LineAt W 90 w.heap.size w.heap.size []) := Lib.hid (by rw [hW]; exact LineAt.new w _ _)
  rw [← hW]
  clear hW
  have HBW : Hid (w.heap.size ≤ W.heap.size) := Lib.hid HW0.out.size
  have CP : Hid (Calls Tryz.prog 48 #[.pointer (some ⟨w.heap.size, 0, none⟩), .slice (some ⟨W.heap.size, 0, none⟩) 2 2] (W.alloc (.cells #[.string ⟨#[115, 116, 111, 112]⟩, .string ⟨s.toArray⟩] 9)) (PutPost (W.alloc (.cells #[.string ⟨#[115, 116, 111, 112]⟩, .string ⟨s.toArray⟩] 9)) w.heap.size w.heap.size (joinW [] [kStop, s]))) :=
    Lib.hid (put_any _ _ _ _ _ [] [kStop, s] _ (KL.out.after (one_box _ _)) (Lib.hid rfl) (by decide) (lit_blk _ _ _ rfl) (by have h1 := KL.out.lt; omega) HLEN.out (by have h1 := HBW.out; simp; omega))
  have HN : Hid (joinW [] [kStop, s] ≠ []) := Lib.hid (joinW_ne (by decide) _)
  go_wp2_with (first
    | (go_at_call 48; (with_reducible refine CP.out.mono ?_); rintro e' w9 ⟨rfl, h1, h2⟩; have L2 := Lib.hid h1; have H2 := Lib.hid h2; clear h1 h2)
    | (go_at_call 32; (with_reducible refine (string_some 90 btL w.heap.size w.heap.size _ _ L2.out HN.out).mono ?_); rintro e' w10 ⟨rfl, hb⟩; have H3 := Lib.hid hb; clear hb)
    | fail)
  go_ret
  exact ⟨ret_str HX.out, fin_str (keep_trans HW0.out (one_box _ _)) H2.out (by omega) H3.out⟩
end Go.Proofs.YtcmlmfcnbmpajaaGreatDoor.Sw
