/- Package sheet's each, at each kind of things and each question, and the questions themselves, proved by walking their texts. Conditions: at most a million things. · Package sheet's each, at each kind of things and each question, and the questions themselves, proved by walking their texts. Conditions: at most a million things. · Package sheet's each, at each kind of things and each question, and the questions themselves, proved by walking their texts. Conditions: at most a million things. -/
import Derived.Test.YtcmlmfcnbmpajaaGreatDoorEachA
namespace Go.Proofs.YtcmlmfcnbmpajaaGreatDoor.Sh
open Go.ChangeShapes Go.WideShapes Go.ChangeAt Go.RowKit
open Lx
set_option linter.unusedVariables false
set_option linter.unusedSimpArgs false

def door_tick (p : DoorM) : Bool := tickB p.len && timesB p.times
def haz_tick (p : HazM) : Bool := timesB p.times
set_option maxHeartbeats 1000000 in
theorem ask_haz_tick (p : HazM) (w : World) : Calls Tryz.prog 112 #[haV p] w (BPost w (haz_tick p)) := by
  obtain ⟨x0, x1, ⟨x2, x3, x4⟩⟩ := p
  have H : Hid (∀ w', Calls Tryz.prog 109 #[.agg #[.int .i64 x2, .int .i64 x3, .int .i64 x4]] w' (BPost w' (haz_tick ⟨x0, x1, ⟨x2, x3, x4⟩⟩))) := Lib.hid (fun w' => timed_any ⟨x2, x3, x4⟩ w')
  go_enter Tryz.func112, Tryz.ntmps112
  go_wp2_with (go_at_call 109; refine (H.out _).mono ?_; rintro e' w1 ⟨rfl, hb⟩)
  go_ret
  exact ⟨rfl, keep_trans (one_box _ _) hb⟩
set_option maxHeartbeats 1000000 in
theorem ask_door_tick (p : DoorM) (w : World) : Calls Tryz.prog 108 #[doV p] w (BPost w (door_tick p)) := by
  obtain ⟨x0, x1, x2, x3, ⟨x4, x5, x6⟩⟩ := p
  have HT := Lib.hid (fun w' A c (hx : Rd w' (· < w'.heap.size) A (cs intC [x3])) => ticks_any w' A 1 c [x3] (Lib.hid rfl) (by omega) hx)
  cases hq : tickB x3 with
  | false =>
    rw [show [x3].all tickB = false by simp [hq]] at HT
    have HN : Hid (door_tick ⟨x0, x1, x2, x3, ⟨x4, x5, x6⟩⟩ = false) := Lib.hid (by simp [door_tick, hq])
    rw [HN.out]
    clear hq
    go_enter Tryz.func108, Tryz.ntmps108
    go_wp2_with (go_at_call 106; refine (HT.out _ _ _ (lit_i _ _ _ _ (by simp) rfl)).mono ?_; rintro e' w1 ⟨rfl, hb⟩)
    go_ret
    exact ⟨rfl, keep_trans (two_box _ _ _) hb⟩
  | true =>
    rw [show [x3].all tickB = true by simp [hq]] at HT
    have HD : Hid (∀ w', Calls Tryz.prog 109 #[.agg #[.int .i64 x4, .int .i64 x5, .int .i64 x6]] w' (BPost w' (door_tick ⟨x0, x1, x2, x3, ⟨x4, x5, x6⟩⟩))) := Lib.hid (fun w' => by
      have := timed_any ⟨x4, x5, x6⟩ w'
      rwa [show door_tick ⟨x0, x1, x2, x3, ⟨x4, x5, x6⟩⟩ = timesB ⟨x4, x5, x6⟩ by simp [door_tick, hq]])
    clear hq
    go_enter Tryz.func108, Tryz.ntmps108
    go_wp2_with (first
      | (go_at_call 106; refine (HT.out _ _ _ (lit_i _ _ _ _ (by simp) rfl)).mono ?_; rintro e' w1 ⟨rfl, hb⟩; have HB := Lib.hid hb; have KB := ((Blk.new w 35 [.string ⟨x0.toArray⟩, .string ⟨x1.toArray⟩, .string ⟨x2.toArray⟩, .int .i64 x3, .int .i64 x4, .int .i64 x5, .int .i64 x6]).alloc _).after hb; have k4 : w1.cell? ⟨w.heap.size, 4, none⟩ = some (.int .i64 x4) := KB.cell 4; have k5 : w1.cell? ⟨w.heap.size, 5, none⟩ = some (.int .i64 x5) := KB.cell 5; have k6 : w1.cell? ⟨w.heap.size, 6, none⟩ = some (.int .i64 x6) := KB.cell 6; clear hb KB)
      | (go_at_call 109; refine (HD.out _).mono ?_; rintro e' w2 ⟨rfl, hb2⟩))
    go_ret
    exact ⟨rfl, keep_trans (keep_trans (two_box _ _ _) HB.out) hb2⟩

set_option maxRecDepth 100000 in
set_option maxHeartbeats 1000000 in
theorem each_door_tick (w : World) (A : Option Addr) (n c : Nat) (l : List (DoorM)) (hn : Hid (n = l.length)) (hN : n ≤ 1000000) (hx : Rd w (· < w.heap.size) A (cs doC l)) :
    Calls Tryz.prog 99 #[.slice A n c, .func (.func 108) #[] #[]] w (BPost w (l.all door_tick)) := by
  have HX := Lib.hid hx
  have HF := Lib.hid (fun (a : DoorM) w' => ask_door_tick a w')
  clear hx
  go_enter Tryz.func99, Tryz.ntmps99
  go_wp2
  go_loopw [9] (fun v wr => ∃ k : Nat, v = .int .i64 k ∧ k ≤ n ∧ Hid ((l.take k).all door_tick = true) ∧ Hid (Below w.heap.size w wr)) (fun v _ => n - (intOf v).toNat)
  case atStart => exact ⟨0, rfl, by omega, Lib.hid rfl, Lib.hid (Below.refl _ _)⟩
  case round =>
    obtain ⟨k, rfl, hk, HP, HB⟩ := hrel
    by_cases hlt : k < n
    · obtain ⟨a, ha⟩ := at_in l hn hlt
      obtain ⟨ad, rfl, hS, h0, hj⟩ := rd_at 7 (fun _ => rfl) (by omega) (HX.out.below HB.out) ha
      have HA := Lib.hid ha
      have HG : ∀ w', Calls Tryz.prog 108 #[doV a] w' (BPost w' (door_tick a)) := fun w' => HF.out a w'
      cases hg : door_tick a with
      | true =>
        obtain ⟨x0, x1, x2, x3, ⟨x4, x5, x6⟩⟩ := a
        have a0 : wr.cell? (ad.add (k * 7)) = some (.string ⟨x0.toArray⟩) := h0
        have a1 : wr.cell? ⟨(ad.add (k * 7)).block, (ad.add (k * 7)).off + 1, none⟩ = some (.string ⟨x1.toArray⟩) := (hj 1 (by omega)).resolve_right (by omega)
        have a2 : wr.cell? ⟨(ad.add (k * 7)).block, (ad.add (k * 7)).off + 2, none⟩ = some (.string ⟨x2.toArray⟩) := (hj 2 (by omega)).resolve_right (by omega)
        have a3 : wr.cell? ⟨(ad.add (k * 7)).block, (ad.add (k * 7)).off + 3, none⟩ = some (.int .i64 x3) := (hj 3 (by omega)).resolve_right (by omega)
        have a4 : wr.cell? ⟨(ad.add (k * 7)).block, (ad.add (k * 7)).off + 4, none⟩ = some (.int .i64 x4) := (hj 4 (by omega)).resolve_right (by omega)
        have a5 : wr.cell? ⟨(ad.add (k * 7)).block, (ad.add (k * 7)).off + 5, none⟩ = some (.int .i64 x5) := (hj 5 (by omega)).resolve_right (by omega)
        have a6 : wr.cell? ⟨(ad.add (k * 7)).block, (ad.add (k * 7)).off + 6, none⟩ = some (.int .i64 x6) := (hj 6 (by omega)).resolve_right (by omega)
        rw [hg] at HG
        have HGG := Lib.hid HG
        have HGO := Lib.hid hg
        have hi : (k : Int) < (n : Int) := by omega
        clear ha h0 hj HG hg
        go_wp2_with (go_at_call 108; refine (HGG.out _).mono ?_; rintro e w2 ⟨rfl, hb⟩; have HB2 := Lib.hid hb; clear hb)
        go_roundw
        case rel => exact ⟨k + 1, by go_num, by omega, Lib.hid (all_take HA.out HP.out HGO.out), Lib.hid (below_then (HB.out.alloc HB.out.size _) HB2.out (Nat.le_trans HB.out.size (by simp)))⟩
        case measure => simp [intOf]; omega
      | false =>
        obtain ⟨x0, x1, x2, x3, ⟨x4, x5, x6⟩⟩ := a
        have a0 : wr.cell? (ad.add (k * 7)) = some (.string ⟨x0.toArray⟩) := h0
        have a1 : wr.cell? ⟨(ad.add (k * 7)).block, (ad.add (k * 7)).off + 1, none⟩ = some (.string ⟨x1.toArray⟩) := (hj 1 (by omega)).resolve_right (by omega)
        have a2 : wr.cell? ⟨(ad.add (k * 7)).block, (ad.add (k * 7)).off + 2, none⟩ = some (.string ⟨x2.toArray⟩) := (hj 2 (by omega)).resolve_right (by omega)
        have a3 : wr.cell? ⟨(ad.add (k * 7)).block, (ad.add (k * 7)).off + 3, none⟩ = some (.int .i64 x3) := (hj 3 (by omega)).resolve_right (by omega)
        have a4 : wr.cell? ⟨(ad.add (k * 7)).block, (ad.add (k * 7)).off + 4, none⟩ = some (.int .i64 x4) := (hj 4 (by omega)).resolve_right (by omega)
        have a5 : wr.cell? ⟨(ad.add (k * 7)).block, (ad.add (k * 7)).off + 5, none⟩ = some (.int .i64 x5) := (hj 5 (by omega)).resolve_right (by omega)
        have a6 : wr.cell? ⟨(ad.add (k * 7)).block, (ad.add (k * 7)).off + 6, none⟩ = some (.int .i64 x6) := (hj 6 (by omega)).resolve_right (by omega)
        rw [hg] at HG
        have HGG := Lib.hid HG
        have HNO := Lib.hid (all_no HA.out hg)
        have hi : (k : Int) < (n : Int) := by omega
        clear ha h0 hj HG hg
        rw [HNO.out]
        go_wp2_with (go_at_call 108; refine (HGG.out _).mono ?_; rintro e w2 ⟨rfl, hb⟩; have HB2 := Lib.hid hb; clear hb)
        go_ret
        exact ⟨rfl, below_then (HB.out.alloc HB.out.size _) HB2.out (Nat.le_trans HB.out.size (by simp))⟩
    · have HAL := Lib.hid (all_full HP.out (by rw [← hn.out]; omega))
      go_wp2
      go_ret
      exact ⟨by rw [HAL.out]; rfl, HB.out⟩

set_option maxRecDepth 100000 in
set_option maxHeartbeats 1000000 in
theorem each_haz_tick (w : World) (A : Option Addr) (n c : Nat) (l : List (HazM)) (hn : Hid (n = l.length)) (hN : n ≤ 1000000) (hx : Rd w (· < w.heap.size) A (cs haC l)) :
    Calls Tryz.prog 104 #[.slice A n c, .func (.func 112) #[] #[]] w (BPost w (l.all haz_tick)) := by
  have HX := Lib.hid hx
  have HF := Lib.hid (fun (a : HazM) w' => ask_haz_tick a w')
  clear hx
  go_enter Tryz.func104, Tryz.ntmps104
  go_wp2
  go_loopw [9] (fun v wr => ∃ k : Nat, v = .int .i64 k ∧ k ≤ n ∧ Hid ((l.take k).all haz_tick = true) ∧ Hid (Below w.heap.size w wr)) (fun v _ => n - (intOf v).toNat)
  case atStart => exact ⟨0, rfl, by omega, Lib.hid rfl, Lib.hid (Below.refl _ _)⟩
  case round =>
    obtain ⟨k, rfl, hk, HP, HB⟩ := hrel
    by_cases hlt : k < n
    · obtain ⟨a, ha⟩ := at_in l hn hlt
      obtain ⟨ad, rfl, hS, h0, hj⟩ := rd_at 5 (fun _ => rfl) (by omega) (HX.out.below HB.out) ha
      have HA := Lib.hid ha
      have HG : ∀ w', Calls Tryz.prog 112 #[haV a] w' (BPost w' (haz_tick a)) := fun w' => HF.out a w'
      cases hg : haz_tick a with
      | true =>
        obtain ⟨x0, x1, ⟨x2, x3, x4⟩⟩ := a
        have a0 : wr.cell? (ad.add (k * 5)) = some (.string ⟨x0.toArray⟩) := h0
        have a1 : wr.cell? ⟨(ad.add (k * 5)).block, (ad.add (k * 5)).off + 1, none⟩ = some (.string ⟨x1.toArray⟩) := (hj 1 (by omega)).resolve_right (by omega)
        have a2 : wr.cell? ⟨(ad.add (k * 5)).block, (ad.add (k * 5)).off + 2, none⟩ = some (.int .i64 x2) := (hj 2 (by omega)).resolve_right (by omega)
        have a3 : wr.cell? ⟨(ad.add (k * 5)).block, (ad.add (k * 5)).off + 3, none⟩ = some (.int .i64 x3) := (hj 3 (by omega)).resolve_right (by omega)
        have a4 : wr.cell? ⟨(ad.add (k * 5)).block, (ad.add (k * 5)).off + 4, none⟩ = some (.int .i64 x4) := (hj 4 (by omega)).resolve_right (by omega)
        rw [hg] at HG
        have HGG := Lib.hid HG
        have HGO := Lib.hid hg
        have hi : (k : Int) < (n : Int) := by omega
        clear ha h0 hj HG hg
        go_wp2_with (go_at_call 112; refine (HGG.out _).mono ?_; rintro e w2 ⟨rfl, hb⟩; have HB2 := Lib.hid hb; clear hb)
        go_roundw
        case rel => exact ⟨k + 1, by go_num, by omega, Lib.hid (all_take HA.out HP.out HGO.out), Lib.hid (below_then (HB.out.alloc HB.out.size _) HB2.out (Nat.le_trans HB.out.size (by simp)))⟩
        case measure => simp [intOf]; omega
      | false =>
        obtain ⟨x0, x1, ⟨x2, x3, x4⟩⟩ := a
        have a0 : wr.cell? (ad.add (k * 5)) = some (.string ⟨x0.toArray⟩) := h0
        have a1 : wr.cell? ⟨(ad.add (k * 5)).block, (ad.add (k * 5)).off + 1, none⟩ = some (.string ⟨x1.toArray⟩) := (hj 1 (by omega)).resolve_right (by omega)
        have a2 : wr.cell? ⟨(ad.add (k * 5)).block, (ad.add (k * 5)).off + 2, none⟩ = some (.int .i64 x2) := (hj 2 (by omega)).resolve_right (by omega)
        have a3 : wr.cell? ⟨(ad.add (k * 5)).block, (ad.add (k * 5)).off + 3, none⟩ = some (.int .i64 x3) := (hj 3 (by omega)).resolve_right (by omega)
        have a4 : wr.cell? ⟨(ad.add (k * 5)).block, (ad.add (k * 5)).off + 4, none⟩ = some (.int .i64 x4) := (hj 4 (by omega)).resolve_right (by omega)
        rw [hg] at HG
        have HGG := Lib.hid HG
        have HNO := Lib.hid (all_no HA.out hg)
        have hi : (k : Int) < (n : Int) := by omega
        clear ha h0 hj HG hg
        rw [HNO.out]
        go_wp2_with (go_at_call 112; refine (HGG.out _).mono ?_; rintro e w2 ⟨rfl, hb⟩; have HB2 := Lib.hid hb; clear hb)
        go_ret
        exact ⟨rfl, below_then (HB.out.alloc HB.out.size _) HB2.out (Nat.le_trans HB.out.size (by simp))⟩
    · have HAL := Lib.hid (all_full HP.out (by rw [← hn.out]; omega))
      go_wp2
      go_ret
      exact ⟨by rw [HAL.out]; rfl, HB.out⟩

end Go.Proofs.YtcmlmfcnbmpajaaGreatDoor.Sh
namespace Go.Proofs.YtcmlmfcnbmpajaaGreatDoor.Sh
open Go.ChangeShapes Go.WideShapes Go.ChangeAt Go.RowKit
open Lx
set_option linter.unusedVariables false
set_option linter.unusedSimpArgs false

/-- a route as it lies -/
structure RtAt (w : World) (S : Nat → Prop) (r : RouteM) (sa ra ya : Option Addr) : Prop where
  hs : Rd w S sa (cs strC r.stops)
  hr : Rd w S ra (cs intC r.rides)
  hy : Rd w S ya (cs intC r.stays)
theorem RtAt.keep {w w' : World} {S : Nat → Prop} {r : RouteM} {sa ra ya : Option Addr} (h : RtAt w S r sa ra ya) (hk : ∀ b, S b → w'.heap[b]? = w.heap[b]?) : RtAt w' S r sa ra ya := ⟨h.hs.keep hk, h.hr.keep hk, h.hy.keep hk⟩
theorem RtAt.more {w : World} {S S' : Nat → Prop} {r : RouteM} {sa ra ya : Option Addr} (h : RtAt w S r sa ra ya) (hs : ∀ b, S b → S' b) : RtAt w S' r sa ra ya := ⟨h.hs.more hs, h.hr.more hs, h.hy.more hs⟩
theorem RtAt.later {w w' : World} {r : RouteM} {sa ra ya : Option Addr} (h : RtAt w (· < w.heap.size) r sa ra ya) (hb : Below w.heap.size w w') : RtAt w' (· < w'.heap.size) r sa ra ya :=
  (h.keep fun b hl => hb.block b hl).more fun b h1 => by have := hb.size; omega
abbrev rtV (r : RouteM) (sa ra ya : Option Addr) (sc rc yc : Nat) : Value := .agg #[.string ⟨r.name.toArray⟩, .slice sa r.stops.length sc, .slice ra r.rides.length rc, .slice ya r.stays.length yc]
theorem rts_cells {w : World} {S : Nat → Prop} : ∀ {l : List RouteM} {c : List Value} {k : Nat} {r : RouteM}, Rts w S l c → l[k]? = some r → ∃ sa sc ra rc ya yc, c[k * 4]? = some (.string ⟨r.name.toArray⟩) ∧ c[k * 4 + 1]? = some (.slice sa r.stops.length sc) ∧ c[k * 4 + 2]? = some (.slice ra r.rides.length rc) ∧ c[k * 4 + 3]? = some (.slice ya r.stays.length yc) ∧ RtAt w S r sa ra ya
  | [], _, k, r, _, h => by simp at h
  | x :: l, c, 0, r, ⟨sa, sc, ra, rc, ya, yc, rest, e, h1, h2, h3, _⟩, h => by
    simp at h; subst h; subst e
    exact ⟨sa, sc, ra, rc, ya, yc, rfl, rfl, rfl, rfl, h1, h2, h3⟩
  | x :: l, c, k + 1, r, ⟨sa, sc, ra, rc, ya, yc, rest, e, _, _, _, h4⟩, h => by
    simp at h
    obtain ⟨sa', sc', ra', rc', ya', yc', g0, g1, g2, g3, g⟩ := rts_cells h4 h
    subst e
    have e : (k + 1) * 4 = k * 4 + 4 := by omega
    rw [e]
    exact ⟨sa', sc', ra', rc', ya', yc', by simpa using g0, by simpa using g1, by simpa using g2, by simpa using g3, g⟩
theorem rts_at {w : World} {S : Nat → Prop} {A : Option Addr} {l : List RouteM} {c : List Value} {k : Nat} {r : RouteM} (hr : Rd w S A c) (h : Rts w S l c) (hk : l[k]? = some r) :
    ∃ ad, A = some ad ∧ S ad.block ∧ ∃ sa sc ra rc ya yc, w.cell? (ad.add (k * 4)) = some (.string ⟨r.name.toArray⟩) ∧ w.cell? ⟨(ad.add (k * 4)).block, (ad.add (k * 4)).off + 1, none⟩ = some (.slice sa r.stops.length sc) ∧ w.cell? ⟨(ad.add (k * 4)).block, (ad.add (k * 4)).off + 2, none⟩ = some (.slice ra r.rides.length rc) ∧ w.cell? ⟨(ad.add (k * 4)).block, (ad.add (k * 4)).off + 3, none⟩ = some (.slice ya r.stays.length yc) ∧ RtAt w S r sa ra ya := by
  have hlt : k < l.length := (List.getElem?_eq_some_iff.1 hk).1
  obtain ⟨ad, e, hb, hc⟩ := hr (by rw [Rts.length h]; omega)
  obtain ⟨sa, sc, ra, rc, ya, yc, g0, g1, g2, g3, g⟩ := rts_cells h hk
  have e1 : (⟨(ad.add (k * 4)).block, (ad.add (k * 4)).off + 1, none⟩ : Addr) = (ad.add (k * 4)).add 1 := rfl
  have e2 : (⟨(ad.add (k * 4)).block, (ad.add (k * 4)).off + 2, none⟩ : Addr) = (ad.add (k * 4)).add 2 := rfl
  have e3 : (⟨(ad.add (k * 4)).block, (ad.add (k * 4)).off + 3, none⟩ : Addr) = (ad.add (k * 4)).add 3 := rfl
  exact ⟨ad, e, hb, sa, sc, ra, rc, ya, yc, hc _ _ g0, by rw [e1, add_of_add]; exact hc _ _ g1, by rw [e2, add_of_add]; exact hc _ _ g2, by rw [e3, add_of_add]; exact hc _ _ g3, g⟩
/-- routes that are not beyond all bounds -/
def Few (r : RouteM) : Prop := r.stops.length ≤ 1000000 ∧ r.rides.length ≤ 1000000 ∧ r.stays.length ≤ 1000000
def route_name (r : RouteM) : Bool := nameB r.name && r.stops.all nameB
def route_tick (r : RouteM) : Bool := r.rides.all tickB && r.stays.all tickB
def route_count (r : RouteM) : Bool := decide (2 ≤ r.stops.length) && (decide (r.stops.length ≤ 32) && (decide (r.rides.length + 1 = r.stops.length) && decide (r.stays.length + 2 = r.stops.length)))
set_option maxHeartbeats 1000000 in
theorem ask_route_name (r : RouteM) (sa ra ya : Option Addr) (sc rc yc : Nat) (w : World) (h : RtAt w (· < w.heap.size) r sa ra ya) (hf : Few r) : Calls Tryz.prog 101 #[rtV r sa ra ya sc rc yc] w (BPost w (route_name r)) := by
  obtain ⟨nm, st, ri, sy⟩ := r
  obtain ⟨f1, f2, f3⟩ := hf
  dsimp only at f1 f2 f3
  have HN := Lib.hid (fun w' A c (hx : Rd w' (· < w'.heap.size) A (cs strC [nm])) => names_any w' A 1 c [nm] (Lib.hid rfl) (by omega) hx)
  have HS := Lib.hid (fun w' (hb : Below w.heap.size w w') => names_any w' sa st.length sc st (Lib.hid rfl) f1 (rd_later h.hs hb))
  obtain ⟨n1, hn1⟩ : ∃ n1, n1 = st.length := ⟨_, rfl⟩
  rw [← hn1] at HS
  show Calls _ _ #[.agg #[.string ⟨nm.toArray⟩, .slice sa st.length sc, .slice ra ri.length rc, .slice ya sy.length yc]] _ _
  rw [← hn1]
  cases hq : nameB nm with
  | false =>
    rw [show [nm].all nameB = false by simp [hq]] at HN
    have HNO : Hid (route_name ⟨nm, st, ri, sy⟩ = false) := Lib.hid (by simp [route_name, hq])
    rw [HNO.out]
    clear hq h hn1
    go_enter Tryz.func101, Tryz.ntmps101
    go_wp2_with (go_at_call 96; refine (HN.out _ _ _ (lit_s _ _ _ _ (by simp) rfl)).mono ?_; rintro e' w1 ⟨rfl, hb⟩)
    go_ret
    exact ⟨rfl, keep_trans (two_box _ _ _) hb⟩
  | true =>
    rw [show [nm].all nameB = true by simp [hq]] at HN
    rw [show st.all nameB = route_name ⟨nm, st, ri, sy⟩ by simp [route_name, hq]] at HS
    clear hq h hn1
    generalize route_name ⟨nm, st, ri, sy⟩ = b at HS ⊢
    go_enter Tryz.func101, Tryz.ntmps101
    go_wp2_with (first
      | (go_at_call 96; (with_reducible refine (HS.out _ HB.out).mono ?_); rintro e' w2 ⟨rfl, hb2⟩)
      | (go_at_call 96; refine (HN.out _ _ _ (lit_s _ _ _ _ (by simp) rfl)).mono ?_; rintro e' w1 ⟨rfl, hb⟩; have HB := Lib.hid (keep_trans (two_box w _ _) hb); have KB := ((Blk.new w 38 [.string ⟨nm.toArray⟩, .slice sa n1 sc, .slice ra ri.length rc, .slice ya sy.length yc]).alloc _).after hb; have k1 : w1.cell? ⟨w.heap.size, 1, none⟩ = some (.slice sa n1 sc) := KB.cell 1; clear hb KB))
    go_ret
    exact ⟨rfl, keep_trans HB.out hb2⟩
set_option maxHeartbeats 1000000 in
theorem ask_route_tick (r : RouteM) (sa ra ya : Option Addr) (sc rc yc : Nat) (w : World) (h : RtAt w (· < w.heap.size) r sa ra ya) (hf : Few r) : Calls Tryz.prog 110 #[rtV r sa ra ya sc rc yc] w (BPost w (route_tick r)) := by
  obtain ⟨nm, st, ri, sy⟩ := r
  obtain ⟨f1, f2, f3⟩ := hf
  dsimp only at f1 f2 f3
  have HN := Lib.hid (fun w' (hb : Below w.heap.size w w') => ticks_any w' ra ri.length rc ri (Lib.hid rfl) f2 (rd_later h.hr hb))
  have HS := Lib.hid (fun w' (hb : Below w.heap.size w w') => ticks_any w' ya sy.length yc sy (Lib.hid rfl) f3 (rd_later h.hy hb))
  obtain ⟨n1, hn1⟩ : ∃ n1, n1 = ri.length := ⟨_, rfl⟩
  obtain ⟨n2, hn2⟩ : ∃ n2, n2 = sy.length := ⟨_, rfl⟩
  rw [← hn1] at HN
  rw [← hn2] at HS
  show Calls _ _ #[.agg #[.string ⟨nm.toArray⟩, .slice sa st.length sc, .slice ra ri.length rc, .slice ya sy.length yc]] _ _
  rw [← hn1, ← hn2]
  cases hq : ri.all tickB with
  | false =>
    rw [hq] at HN
    have HNO : Hid (route_tick ⟨nm, st, ri, sy⟩ = false) := Lib.hid (by simp only [route_tick, hq, Bool.false_and])
    rw [HNO.out]
    clear hq h hn1 hn2
    go_enter Tryz.func110, Tryz.ntmps110
    go_wp2_with (go_at_call 106; (with_reducible refine (HN.out _ (one_box _ _)).mono ?_); rintro e' w1 ⟨rfl, hb⟩)
    go_ret
    exact ⟨rfl, keep_trans (one_box _ _) hb⟩
  | true =>
    rw [hq] at HN
    rw [show sy.all tickB = route_tick ⟨nm, st, ri, sy⟩ by simp only [route_tick, hq, Bool.true_and]] at HS
    clear hq h hn1 hn2
    generalize route_tick ⟨nm, st, ri, sy⟩ = b at HS ⊢
    go_enter Tryz.func110, Tryz.ntmps110
    go_wp2_with (first
      | (go_at_call 106; (with_reducible refine (HN.out _ (one_box _ _)).mono ?_); rintro e' w1 ⟨rfl, hb⟩; have HB := Lib.hid (keep_trans (one_box w _) hb); have KB := (Blk.new w 38 [.string ⟨nm.toArray⟩, .slice sa st.length sc, .slice ra n1 rc, .slice ya n2 yc]).after hb; have k1 : w1.cell? ⟨w.heap.size, 3, none⟩ = some (.slice ya n2 yc) := KB.cell 3; clear hb KB)
      | (go_at_call 106; (with_reducible refine (HS.out _ HB.out).mono ?_); rintro e' w2 ⟨rfl, hb2⟩))
    go_ret
    exact ⟨rfl, keep_trans HB.out hb2⟩

end Go.Proofs.YtcmlmfcnbmpajaaGreatDoor.Sh
namespace Go.Proofs.YtcmlmfcnbmpajaaGreatDoor.Sh
open Go.ChangeShapes Go.WideShapes Go.ChangeAt Go.RowKit
open Lx
set_option linter.unusedVariables false
set_option linter.unusedSimpArgs false

theorem Rts.later {w w' : World} : ∀ {l : List RouteM} {c : List Value}, Rts w (· < w.heap.size) l c → Below w.heap.size w w' → Rts w' (· < w'.heap.size) l c
  | [], _, h, _ => h
  | _ :: _, _, ⟨sa, sc, ra, rc, ya, yc, rest, e, h1, h2, h3, h4⟩, hb => ⟨sa, sc, ra, rc, ya, yc, rest, e, rd_later h1 hb, rd_later h2 hb, rd_later h3 hb, Rts.later h4 hb⟩
set_option maxHeartbeats 1000000 in
theorem ask_route_count (r : RouteM) (sa ra ya : Option Addr) (sc rc yc : Nat) (w : World) (h : RtAt w (· < w.heap.size) r sa ra ya) (hf : Few r) : Calls Tryz.prog 74 #[rtV r sa ra ya sc rc yc] w (BPost w (route_count r)) := by
  obtain ⟨nm, st, ri, sy⟩ := r
  obtain ⟨f1, f2, f3⟩ := hf
  dsimp only at f1 f2 f3
  clear h
  simp only [route_count]
  show Calls _ _ #[.agg #[.string ⟨nm.toArray⟩, .slice sa st.length sc, .slice ra ri.length rc, .slice ya sy.length yc]] _ _
  generalize st.length = a at *
  generalize ri.length = b at *
  generalize sy.length = d at *
  go_enter Tryz.func74, Tryz.ntmps74
  go_wp2
  all_goals go_ret
  all_goals exact ⟨congrArg (fun b => Ending.returned (Value.bool b)) (by rw [Bool.eq_iff_iff]; simp; omega), one_box _ _⟩

set_option maxRecDepth 100000 in
set_option maxHeartbeats 1000000 in
theorem each_route_name (w : World) (A : Option Addr) (n c : Nat) (l : List RouteM) (cl : List Value) (hn : Hid (n = l.length)) (hN : n ≤ 1000000) (hx : Rd w (· < w.heap.size) A cl) (hr : Rts w (· < w.heap.size) l cl) (hf : ∀ r ∈ l, Few r) :
    Calls Tryz.prog 73 #[.slice A n c, .func (.func 101) #[] #[]] w (BPost w (l.all route_name)) := by
  have HX := Lib.hid hx
  have HR := Lib.hid hr
  have HW := Lib.hid hf
  clear hx hr hf
  go_enter Tryz.func73, Tryz.ntmps73
  go_wp2
  go_loopw [9] (fun v wr => ∃ k : Nat, v = .int .i64 k ∧ k ≤ n ∧ Hid ((l.take k).all route_name = true) ∧ Hid (Below w.heap.size w wr)) (fun v _ => n - (intOf v).toNat)
  case atStart => exact ⟨0, rfl, by omega, Lib.hid rfl, Lib.hid (Below.refl _ _)⟩
  case round =>
    obtain ⟨k, rfl, hk, HP, HB⟩ := hrel
    by_cases hlt : k < n
    · obtain ⟨a, ha⟩ := at_in l hn hlt
      obtain ⟨ad, rfl, hS, sa, sc, ra, rc, ya, yc, a0, a1, a2, a3, hg0⟩ := rts_at (rd_later HX.out HB.out) (HR.out.later HB.out) ha
      have HA := Lib.hid ha
      have HG : ∀ w', Below wr.heap.size wr w' → Calls Tryz.prog 101 #[rtV a sa ra ya sc rc yc] w' (BPost w' (route_name a)) := fun w' hb => ask_route_name a sa ra ya sc rc yc w' (hg0.later hb) (HW.out a (List.mem_of_getElem? ha))
      have HG2 := HG
      cases hg : route_name a with
      | true =>
        rw [hg] at HG2
        obtain ⟨nm, st, ri, sy⟩ := a
        dsimp only at a0 a1 a2 a3 HG2
        obtain ⟨n1, hn1⟩ : ∃ n1, n1 = st.length := ⟨_, rfl⟩
        obtain ⟨n2, hn2⟩ : ∃ n2, n2 = ri.length := ⟨_, rfl⟩
        obtain ⟨n3, hn3⟩ : ∃ n3, n3 = sy.length := ⟨_, rfl⟩
        rw [← hn1] at a1
        rw [← hn2] at a2
        rw [← hn3] at a3
        simp only [rtV, ← hn1, ← hn2, ← hn3] at HG2
        have HGG := Lib.hid HG2
        have HGO := Lib.hid hg
        have hi : (k : Int) < (n : Int) := by omega
        clear ha HG HG2 hg hg0 hn1 hn2 hn3
        go_wp2_with (go_at_call 101; (with_reducible refine (HGG.out _ (one_box _ _)).mono ?_); rintro e w2 ⟨rfl, hb⟩; have HB2 := Lib.hid hb; clear hb)
        go_roundw
        case rel => exact ⟨k + 1, by go_num, by omega, Lib.hid (all_take HA.out HP.out HGO.out), Lib.hid (below_then (HB.out.alloc HB.out.size _) HB2.out (Nat.le_trans HB.out.size (by simp)))⟩
        case measure => simp [intOf]; omega
      | false =>
        rw [hg] at HG2
        obtain ⟨nm, st, ri, sy⟩ := a
        dsimp only at a0 a1 a2 a3 HG2
        obtain ⟨n1, hn1⟩ : ∃ n1, n1 = st.length := ⟨_, rfl⟩
        obtain ⟨n2, hn2⟩ : ∃ n2, n2 = ri.length := ⟨_, rfl⟩
        obtain ⟨n3, hn3⟩ : ∃ n3, n3 = sy.length := ⟨_, rfl⟩
        rw [← hn1] at a1
        rw [← hn2] at a2
        rw [← hn3] at a3
        simp only [rtV, ← hn1, ← hn2, ← hn3] at HG2
        have HGG := Lib.hid HG2
        have HNO := Lib.hid (all_no HA.out hg)
        have hi : (k : Int) < (n : Int) := by omega
        clear ha HG HG2 hg hg0 hn1 hn2 hn3
        rw [HNO.out]
        go_wp2_with (go_at_call 101; (with_reducible refine (HGG.out _ (one_box _ _)).mono ?_); rintro e w2 ⟨rfl, hb⟩; have HB2 := Lib.hid hb; clear hb)
        go_ret
        exact ⟨rfl, below_then (HB.out.alloc HB.out.size _) HB2.out (Nat.le_trans HB.out.size (by simp))⟩
    · have HAL := Lib.hid (all_full HP.out (by rw [← hn.out]; omega))
      go_wp2
      go_ret
      exact ⟨by rw [HAL.out]; rfl, HB.out⟩

set_option maxRecDepth 100000 in
set_option maxHeartbeats 1000000 in
theorem each_route_tick (w : World) (A : Option Addr) (n c : Nat) (l : List RouteM) (cl : List Value) (hn : Hid (n = l.length)) (hN : n ≤ 1000000) (hx : Rd w (· < w.heap.size) A cl) (hr : Rts w (· < w.heap.size) l cl) (hf : ∀ r ∈ l, Few r) :
    Calls Tryz.prog 73 #[.slice A n c, .func (.func 110) #[] #[]] w (BPost w (l.all route_tick)) := by
  have HX := Lib.hid hx
  have HR := Lib.hid hr
  have HW := Lib.hid hf
  clear hx hr hf
  go_enter Tryz.func73, Tryz.ntmps73
  go_wp2
  go_loopw [9] (fun v wr => ∃ k : Nat, v = .int .i64 k ∧ k ≤ n ∧ Hid ((l.take k).all route_tick = true) ∧ Hid (Below w.heap.size w wr)) (fun v _ => n - (intOf v).toNat)
  case atStart => exact ⟨0, rfl, by omega, Lib.hid rfl, Lib.hid (Below.refl _ _)⟩
  case round =>
    obtain ⟨k, rfl, hk, HP, HB⟩ := hrel
    by_cases hlt : k < n
    · obtain ⟨a, ha⟩ := at_in l hn hlt
      obtain ⟨ad, rfl, hS, sa, sc, ra, rc, ya, yc, a0, a1, a2, a3, hg0⟩ := rts_at (rd_later HX.out HB.out) (HR.out.later HB.out) ha
      have HA := Lib.hid ha
      have HG : ∀ w', Below wr.heap.size wr w' → Calls Tryz.prog 110 #[rtV a sa ra ya sc rc yc] w' (BPost w' (route_tick a)) := fun w' hb => ask_route_tick a sa ra ya sc rc yc w' (hg0.later hb) (HW.out a (List.mem_of_getElem? ha))
      have HG2 := HG
      cases hg : route_tick a with
      | true =>
        rw [hg] at HG2
        obtain ⟨nm, st, ri, sy⟩ := a
        dsimp only at a0 a1 a2 a3 HG2
        obtain ⟨n1, hn1⟩ : ∃ n1, n1 = st.length := ⟨_, rfl⟩
        obtain ⟨n2, hn2⟩ : ∃ n2, n2 = ri.length := ⟨_, rfl⟩
        obtain ⟨n3, hn3⟩ : ∃ n3, n3 = sy.length := ⟨_, rfl⟩
        rw [← hn1] at a1
        rw [← hn2] at a2
        rw [← hn3] at a3
        simp only [rtV, ← hn1, ← hn2, ← hn3] at HG2
        have HGG := Lib.hid HG2
        have HGO := Lib.hid hg
        have hi : (k : Int) < (n : Int) := by omega
        clear ha HG HG2 hg hg0 hn1 hn2 hn3
        go_wp2_with (go_at_call 110; (with_reducible refine (HGG.out _ (one_box _ _)).mono ?_); rintro e w2 ⟨rfl, hb⟩; have HB2 := Lib.hid hb; clear hb)
        go_roundw
        case rel => exact ⟨k + 1, by go_num, by omega, Lib.hid (all_take HA.out HP.out HGO.out), Lib.hid (below_then (HB.out.alloc HB.out.size _) HB2.out (Nat.le_trans HB.out.size (by simp)))⟩
        case measure => simp [intOf]; omega
      | false =>
        rw [hg] at HG2
        obtain ⟨nm, st, ri, sy⟩ := a
        dsimp only at a0 a1 a2 a3 HG2
        obtain ⟨n1, hn1⟩ : ∃ n1, n1 = st.length := ⟨_, rfl⟩
        obtain ⟨n2, hn2⟩ : ∃ n2, n2 = ri.length := ⟨_, rfl⟩
        obtain ⟨n3, hn3⟩ : ∃ n3, n3 = sy.length := ⟨_, rfl⟩
        rw [← hn1] at a1
        rw [← hn2] at a2
        rw [← hn3] at a3
        simp only [rtV, ← hn1, ← hn2, ← hn3] at HG2
        have HGG := Lib.hid HG2
        have HNO := Lib.hid (all_no HA.out hg)
        have hi : (k : Int) < (n : Int) := by omega
        clear ha HG HG2 hg hg0 hn1 hn2 hn3
        rw [HNO.out]
        go_wp2_with (go_at_call 110; (with_reducible refine (HGG.out _ (one_box _ _)).mono ?_); rintro e w2 ⟨rfl, hb⟩; have HB2 := Lib.hid hb; clear hb)
        go_ret
        exact ⟨rfl, below_then (HB.out.alloc HB.out.size _) HB2.out (Nat.le_trans HB.out.size (by simp))⟩
    · have HAL := Lib.hid (all_full HP.out (by rw [← hn.out]; omega))
      go_wp2
      go_ret
      exact ⟨by rw [HAL.out]; rfl, HB.out⟩

set_option maxRecDepth 100000 in
set_option maxHeartbeats 1000000 in
theorem each_route_count (w : World) (A : Option Addr) (n c : Nat) (l : List RouteM) (cl : List Value) (hn : Hid (n = l.length)) (hN : n ≤ 1000000) (hx : Rd w (· < w.heap.size) A cl) (hr : Rts w (· < w.heap.size) l cl) (hf : ∀ r ∈ l, Few r) :
    Calls Tryz.prog 73 #[.slice A n c, .func (.func 74) #[] #[]] w (BPost w (l.all route_count)) := by
  have HX := Lib.hid hx
  have HR := Lib.hid hr
  have HW := Lib.hid hf
  clear hx hr hf
  go_enter Tryz.func73, Tryz.ntmps73
  go_wp2
  go_loopw [9] (fun v wr => ∃ k : Nat, v = .int .i64 k ∧ k ≤ n ∧ Hid ((l.take k).all route_count = true) ∧ Hid (Below w.heap.size w wr)) (fun v _ => n - (intOf v).toNat)
  case atStart => exact ⟨0, rfl, by omega, Lib.hid rfl, Lib.hid (Below.refl _ _)⟩
  case round =>
    obtain ⟨k, rfl, hk, HP, HB⟩ := hrel
    by_cases hlt : k < n
    · obtain ⟨a, ha⟩ := at_in l hn hlt
      obtain ⟨ad, rfl, hS, sa, sc, ra, rc, ya, yc, a0, a1, a2, a3, hg0⟩ := rts_at (rd_later HX.out HB.out) (HR.out.later HB.out) ha
      have HA := Lib.hid ha
      have HG : ∀ w', Below wr.heap.size wr w' → Calls Tryz.prog 74 #[rtV a sa ra ya sc rc yc] w' (BPost w' (route_count a)) := fun w' hb => ask_route_count a sa ra ya sc rc yc w' (hg0.later hb) (HW.out a (List.mem_of_getElem? ha))
      have HG2 := HG
      cases hg : route_count a with
      | true =>
        rw [hg] at HG2
        obtain ⟨nm, st, ri, sy⟩ := a
        dsimp only at a0 a1 a2 a3 HG2
        obtain ⟨n1, hn1⟩ : ∃ n1, n1 = st.length := ⟨_, rfl⟩
        obtain ⟨n2, hn2⟩ : ∃ n2, n2 = ri.length := ⟨_, rfl⟩
        obtain ⟨n3, hn3⟩ : ∃ n3, n3 = sy.length := ⟨_, rfl⟩
        rw [← hn1] at a1
        rw [← hn2] at a2
        rw [← hn3] at a3
        simp only [rtV, ← hn1, ← hn2, ← hn3] at HG2
        have HGG := Lib.hid HG2
        have HGO := Lib.hid hg
        have hi : (k : Int) < (n : Int) := by omega
        clear ha HG HG2 hg hg0 hn1 hn2 hn3
        go_wp2_with (go_at_call 74; (with_reducible refine (HGG.out _ (one_box _ _)).mono ?_); rintro e w2 ⟨rfl, hb⟩; have HB2 := Lib.hid hb; clear hb)
        go_roundw
        case rel => exact ⟨k + 1, by go_num, by omega, Lib.hid (all_take HA.out HP.out HGO.out), Lib.hid (below_then (HB.out.alloc HB.out.size _) HB2.out (Nat.le_trans HB.out.size (by simp)))⟩
        case measure => simp [intOf]; omega
      | false =>
        rw [hg] at HG2
        obtain ⟨nm, st, ri, sy⟩ := a
        dsimp only at a0 a1 a2 a3 HG2
        obtain ⟨n1, hn1⟩ : ∃ n1, n1 = st.length := ⟨_, rfl⟩
        obtain ⟨n2, hn2⟩ : ∃ n2, n2 = ri.length := ⟨_, rfl⟩
        obtain ⟨n3, hn3⟩ : ∃ n3, n3 = sy.length := ⟨_, rfl⟩
        rw [← hn1] at a1
        rw [← hn2] at a2
        rw [← hn3] at a3
        simp only [rtV, ← hn1, ← hn2, ← hn3] at HG2
        have HGG := Lib.hid HG2
        have HNO := Lib.hid (all_no HA.out hg)
        have hi : (k : Int) < (n : Int) := by omega
        clear ha HG HG2 hg hg0 hn1 hn2 hn3
        rw [HNO.out]
        go_wp2_with (go_at_call 74; (with_reducible refine (HGG.out _ (one_box _ _)).mono ?_); rintro e w2 ⟨rfl, hb⟩; have HB2 := Lib.hid hb; clear hb)
        go_ret
        exact ⟨rfl, below_then (HB.out.alloc HB.out.size _) HB2.out (Nat.le_trans HB.out.size (by simp))⟩
    · have HAL := Lib.hid (all_full HP.out (by rw [← hn.out]; omega))
      go_wp2
      go_ret
      exact ⟨by rw [HAL.out]; rfl, HB.out⟩

end Go.Proofs.YtcmlmfcnbmpajaaGreatDoor.Sh

