/- Package world's each at things and what asks them for their names, proved by walking their texts. Conditions: at most 400 things. -/
import Derived.Test.YtfefnfifeaihhaaGreatWoRep
set_option linter.unusedVariables false
set_option linter.unusedSimpArgs false
set_option maxHeartbeats 1000000
set_option maxRecDepth 100000
namespace Go.Proofs.YtfefnfifeaihhaaGreat.Wo
open Go.ChangeShapes Go.WideShapes Go.ChangeAt Go.RowKit Go.Maps
open Lx Sh
theorem ask_nmPath (p : PathM) (w : World) : Calls Tryz.prog 143 #[paV p] w (fun e w' => e = .returned (.string ⟨p.name.toArray⟩) ∧ Below w.heap.size w w') := by
  obtain ⟨x0, x1, x2, x3⟩ := p
  go_enter Tryz.func143, Tryz.ntmps143
  go_wp2
  go_ret
  exact ⟨rfl, one_box _ _⟩
theorem each_nmPath (w : World) (A : Option Addr) (n c : Nat) (l : List PathM) (hn : Hid (n = l.length)) (hN : n ≤ 400) (hx : Rd w (· < w.heap.size) A (cs paC l)) :
    Calls Tryz.prog 142 #[.slice A n c, .func (.func 143) #[] #[]] w (NewRow w 9 1 (cs strC (l.map (·.name))) n) := by
  have HX := HH hx
  clear hx
  go_enter Tryz.func142, Tryz.ntmps142
  go_wp2
  go_loopw [5, 10] (fun v vi wr => EaRel w 9 1 strC (fun p : PathM => p.name) l n v vi wr) (fun _ vi _ => n - (intOf vi).toNat)
  case atStart => exact ea_start _ _ _ _ _ _
  case round =>
    obtain ⟨k, B, d, rfl, rfl, hk, HO, HB⟩ := hrel
    by_cases hlt : k < n
    · obtain ⟨a, ha⟩ := at_in l hn hlt
      obtain ⟨ad, rfl, hS, h0, hj⟩ := rd_at 4 (fun _ => rfl) (by omega) (HX.out.below HB.out) ha
      have HA := HH ha
      have HG := HH (fun w' => ask_nmPath a w')
      obtain ⟨x0, x1, x2, x3⟩ := a
      have a0 : wr.cell? (ad.add (k * 4)) = some (.string ⟨x0.toArray⟩) := h0
      have a1 : wr.cell? ⟨(ad.add (k * 4)).block, (ad.add (k * 4)).off + 1, none⟩ = some (.string ⟨x1.toArray⟩) := (hj 1 (by omega)).resolve_right (by omega)
      have a2 : wr.cell? ⟨(ad.add (k * 4)).block, (ad.add (k * 4)).off + 2, none⟩ = some (.string ⟨x2.toArray⟩) := (hj 2 (by omega)).resolve_right (by omega)
      have a3 : wr.cell? ⟨(ad.add (k * 4)).block, (ad.add (k * 4)).off + 3, none⟩ = some (.int .i64 x3) := (hj 3 (by omega)).resolve_right (by omega)
      have hi : (k : Int) < (n : Int) := by omega
      clear ha h0 hj
      go_wp2_with (first
        | (go_at_call 143; refine (HG.out _).mono ?_; rintro e w2 ⟨rfl, hb⟩; have HB2 := HH (keep_trans (one_box _ _) hb); clear hb)
        | (at_builtin; refine wpList_append_rd rfl (.tmp 14) (.tmp 18) 28 rfl w.heap.size 9 _ 1 16 Tryz.underlying28 info_Str rfl (by omega) (by omega) (.slice B k d) k (cs strC ((l.take k).map (fun p : PathM => p.name))) rfl (own_after (own_after HO.out HB2.out) (one_box _ _)) _ _ 1 1 [.string ⟨x0.toArray⟩] rfl rfl (Sh.lit_at _ _ _ _ _ (by simp) rfl) (by simp [Value.oneCell']) (by omega) (by have := HB.out.size; have := HB2.out.size; simp; omega) ?_; intro v' w4 hown hbel; obtain ⟨A', c', rfl, -, -⟩ := own_form hown.out))
      go_roundw
      case rel => exact ea_more HA.out (by omega) rfl rfl hown.out ((below_then HB.out HB2.out HB.out.size).trans (((Below.refl _ _).alloc (by have := HB.out.size; have := HB2.out.size; omega) _).trans hbel.out)) rfl rfl
      case measure => simp [intOf]; omega
    · obtain rfl : n = k := by omega
      have hi : ¬ ((n : Int) < (n : Int)) := by omega
      go_wp2
      go_ret
      exact ea_over hn.out HO.out HB.out
theorem ask_nmDoor (p : DoorM) (w : World) : Calls Tryz.prog 145 #[doV p] w (fun e w' => e = .returned (.string ⟨p.name.toArray⟩) ∧ Below w.heap.size w w') := by
  obtain ⟨x0, x1, x2, x3, ⟨x4, x5, x6⟩⟩ := p
  go_enter Tryz.func145, Tryz.ntmps145
  go_wp2
  go_ret
  exact ⟨rfl, one_box _ _⟩
theorem each_nmDoor (w : World) (A : Option Addr) (n c : Nat) (l : List DoorM) (hn : Hid (n = l.length)) (hN : n ≤ 400) (hx : Rd w (· < w.heap.size) A (cs doC l)) :
    Calls Tryz.prog 144 #[.slice A n c, .func (.func 145) #[] #[]] w (NewRow w 9 1 (cs strC (l.map (·.name))) n) := by
  have HX := HH hx
  clear hx
  go_enter Tryz.func144, Tryz.ntmps144
  go_wp2
  go_loopw [5, 10] (fun v vi wr => EaRel w 9 1 strC (fun p : DoorM => p.name) l n v vi wr) (fun _ vi _ => n - (intOf vi).toNat)
  case atStart => exact ea_start _ _ _ _ _ _
  case round =>
    obtain ⟨k, B, d, rfl, rfl, hk, HO, HB⟩ := hrel
    by_cases hlt : k < n
    · obtain ⟨a, ha⟩ := at_in l hn hlt
      obtain ⟨ad, rfl, hS, h0, hj⟩ := rd_at 7 (fun _ => rfl) (by omega) (HX.out.below HB.out) ha
      have HA := HH ha
      have HG := HH (fun w' => ask_nmDoor a w')
      obtain ⟨x0, x1, x2, x3, ⟨x4, x5, x6⟩⟩ := a
      have a0 : wr.cell? (ad.add (k * 7)) = some (.string ⟨x0.toArray⟩) := h0
      have a1 : wr.cell? ⟨(ad.add (k * 7)).block, (ad.add (k * 7)).off + 1, none⟩ = some (.string ⟨x1.toArray⟩) := (hj 1 (by omega)).resolve_right (by omega)
      have a2 : wr.cell? ⟨(ad.add (k * 7)).block, (ad.add (k * 7)).off + 2, none⟩ = some (.string ⟨x2.toArray⟩) := (hj 2 (by omega)).resolve_right (by omega)
      have a3 : wr.cell? ⟨(ad.add (k * 7)).block, (ad.add (k * 7)).off + 3, none⟩ = some (.int .i64 x3) := (hj 3 (by omega)).resolve_right (by omega)
      have a4 : wr.cell? ⟨(ad.add (k * 7)).block, (ad.add (k * 7)).off + 4, none⟩ = some (.int .i64 x4) := (hj 4 (by omega)).resolve_right (by omega)
      have a5 : wr.cell? ⟨(ad.add (k * 7)).block, (ad.add (k * 7)).off + 5, none⟩ = some (.int .i64 x5) := (hj 5 (by omega)).resolve_right (by omega)
      have a6 : wr.cell? ⟨(ad.add (k * 7)).block, (ad.add (k * 7)).off + 6, none⟩ = some (.int .i64 x6) := (hj 6 (by omega)).resolve_right (by omega)
      have hi : (k : Int) < (n : Int) := by omega
      clear ha h0 hj
      go_wp2_with (first
        | (go_at_call 145; refine (HG.out _).mono ?_; rintro e w2 ⟨rfl, hb⟩; have HB2 := HH (keep_trans (one_box _ _) hb); clear hb)
        | (at_builtin; refine wpList_append_rd rfl (.tmp 14) (.tmp 18) 28 rfl w.heap.size 9 _ 1 16 Tryz.underlying28 info_Str rfl (by omega) (by omega) (.slice B k d) k (cs strC ((l.take k).map (fun p : DoorM => p.name))) rfl (own_after (own_after HO.out HB2.out) (one_box _ _)) _ _ 1 1 [.string ⟨x0.toArray⟩] rfl rfl (Sh.lit_at _ _ _ _ _ (by simp) rfl) (by simp [Value.oneCell']) (by omega) (by have := HB.out.size; have := HB2.out.size; simp; omega) ?_; intro v' w4 hown hbel; obtain ⟨A', c', rfl, -, -⟩ := own_form hown.out))
      go_roundw
      case rel => exact ea_more HA.out (by omega) rfl rfl hown.out ((below_then HB.out HB2.out HB.out.size).trans (((Below.refl _ _).alloc (by have := HB.out.size; have := HB2.out.size; omega) _).trans hbel.out)) rfl rfl
      case measure => simp [intOf]; omega
    · obtain rfl : n = k := by omega
      have hi : ¬ ((n : Int) < (n : Int)) := by omega
      go_wp2
      go_ret
      exact ea_over hn.out HO.out HB.out
theorem ask_nmTrip (p : TripM) (w : World) : Calls Tryz.prog 149 #[trV p] w (fun e w' => e = .returned (.string ⟨p.name.toArray⟩) ∧ Below w.heap.size w w') := by
  obtain ⟨x0, x1, x2, x3, x4⟩ := p
  go_enter Tryz.func149, Tryz.ntmps149
  go_wp2
  go_ret
  exact ⟨rfl, one_box _ _⟩
theorem each_nmTrip (w : World) (A : Option Addr) (n c : Nat) (l : List TripM) (hn : Hid (n = l.length)) (hN : n ≤ 400) (hx : Rd w (· < w.heap.size) A (cs trC l)) :
    Calls Tryz.prog 148 #[.slice A n c, .func (.func 149) #[] #[]] w (NewRow w 9 1 (cs strC (l.map (·.name))) n) := by
  have HX := HH hx
  clear hx
  go_enter Tryz.func148, Tryz.ntmps148
  go_wp2
  go_loopw [5, 10] (fun v vi wr => EaRel w 9 1 strC (fun p : TripM => p.name) l n v vi wr) (fun _ vi _ => n - (intOf vi).toNat)
  case atStart => exact ea_start _ _ _ _ _ _
  case round =>
    obtain ⟨k, B, d, rfl, rfl, hk, HO, HB⟩ := hrel
    by_cases hlt : k < n
    · obtain ⟨a, ha⟩ := at_in l hn hlt
      obtain ⟨ad, rfl, hS, h0, hj⟩ := rd_at 5 (fun _ => rfl) (by omega) (HX.out.below HB.out) ha
      have HA := HH ha
      have HG := HH (fun w' => ask_nmTrip a w')
      obtain ⟨x0, x1, x2, x3, x4⟩ := a
      have a0 : wr.cell? (ad.add (k * 5)) = some (.string ⟨x0.toArray⟩) := h0
      have a1 : wr.cell? ⟨(ad.add (k * 5)).block, (ad.add (k * 5)).off + 1, none⟩ = some (.string ⟨x1.toArray⟩) := (hj 1 (by omega)).resolve_right (by omega)
      have a2 : wr.cell? ⟨(ad.add (k * 5)).block, (ad.add (k * 5)).off + 2, none⟩ = some (.int .i64 x2) := (hj 2 (by omega)).resolve_right (by omega)
      have a3 : wr.cell? ⟨(ad.add (k * 5)).block, (ad.add (k * 5)).off + 3, none⟩ = some (.int .i64 x3) := (hj 3 (by omega)).resolve_right (by omega)
      have a4 : wr.cell? ⟨(ad.add (k * 5)).block, (ad.add (k * 5)).off + 4, none⟩ = some (.int .i64 x4) := (hj 4 (by omega)).resolve_right (by omega)
      have hi : (k : Int) < (n : Int) := by omega
      clear ha h0 hj
      go_wp2_with (first
        | (go_at_call 149; refine (HG.out _).mono ?_; rintro e w2 ⟨rfl, hb⟩; have HB2 := HH (keep_trans (one_box _ _) hb); clear hb)
        | (at_builtin; refine wpList_append_rd rfl (.tmp 14) (.tmp 18) 28 rfl w.heap.size 9 _ 1 16 Tryz.underlying28 info_Str rfl (by omega) (by omega) (.slice B k d) k (cs strC ((l.take k).map (fun p : TripM => p.name))) rfl (own_after (own_after HO.out HB2.out) (one_box _ _)) _ _ 1 1 [.string ⟨x0.toArray⟩] rfl rfl (Sh.lit_at _ _ _ _ _ (by simp) rfl) (by simp [Value.oneCell']) (by omega) (by have := HB.out.size; have := HB2.out.size; simp; omega) ?_; intro v' w4 hown hbel; obtain ⟨A', c', rfl, -, -⟩ := own_form hown.out))
      go_roundw
      case rel => exact ea_more HA.out (by omega) rfl rfl hown.out ((below_then HB.out HB2.out HB.out.size).trans (((Below.refl _ _).alloc (by have := HB.out.size; have := HB2.out.size; omega) _).trans hbel.out)) rfl rfl
      case measure => simp [intOf]; omega
    · obtain rfl : n = k := by omega
      have hi : ¬ ((n : Int) < (n : Int)) := by omega
      go_wp2
      go_ret
      exact ea_over hn.out HO.out HB.out
theorem ask_nmHaz (p : HazM) (w : World) : Calls Tryz.prog 151 #[haV p] w (fun e w' => e = .returned (.string ⟨p.name.toArray⟩) ∧ Below w.heap.size w w') := by
  obtain ⟨x0, x1, ⟨x2, x3, x4⟩⟩ := p
  go_enter Tryz.func151, Tryz.ntmps151
  go_wp2
  go_ret
  exact ⟨rfl, one_box _ _⟩
theorem each_nmHaz (w : World) (A : Option Addr) (n c : Nat) (l : List HazM) (hn : Hid (n = l.length)) (hN : n ≤ 400) (hx : Rd w (· < w.heap.size) A (cs haC l)) :
    Calls Tryz.prog 150 #[.slice A n c, .func (.func 151) #[] #[]] w (NewRow w 9 1 (cs strC (l.map (·.name))) n) := by
  have HX := HH hx
  clear hx
  go_enter Tryz.func150, Tryz.ntmps150
  go_wp2
  go_loopw [5, 10] (fun v vi wr => EaRel w 9 1 strC (fun p : HazM => p.name) l n v vi wr) (fun _ vi _ => n - (intOf vi).toNat)
  case atStart => exact ea_start _ _ _ _ _ _
  case round =>
    obtain ⟨k, B, d, rfl, rfl, hk, HO, HB⟩ := hrel
    by_cases hlt : k < n
    · obtain ⟨a, ha⟩ := at_in l hn hlt
      obtain ⟨ad, rfl, hS, h0, hj⟩ := rd_at 5 (fun _ => rfl) (by omega) (HX.out.below HB.out) ha
      have HA := HH ha
      have HG := HH (fun w' => ask_nmHaz a w')
      obtain ⟨x0, x1, ⟨x2, x3, x4⟩⟩ := a
      have a0 : wr.cell? (ad.add (k * 5)) = some (.string ⟨x0.toArray⟩) := h0
      have a1 : wr.cell? ⟨(ad.add (k * 5)).block, (ad.add (k * 5)).off + 1, none⟩ = some (.string ⟨x1.toArray⟩) := (hj 1 (by omega)).resolve_right (by omega)
      have a2 : wr.cell? ⟨(ad.add (k * 5)).block, (ad.add (k * 5)).off + 2, none⟩ = some (.int .i64 x2) := (hj 2 (by omega)).resolve_right (by omega)
      have a3 : wr.cell? ⟨(ad.add (k * 5)).block, (ad.add (k * 5)).off + 3, none⟩ = some (.int .i64 x3) := (hj 3 (by omega)).resolve_right (by omega)
      have a4 : wr.cell? ⟨(ad.add (k * 5)).block, (ad.add (k * 5)).off + 4, none⟩ = some (.int .i64 x4) := (hj 4 (by omega)).resolve_right (by omega)
      have hi : (k : Int) < (n : Int) := by omega
      clear ha h0 hj
      go_wp2_with (first
        | (go_at_call 151; refine (HG.out _).mono ?_; rintro e w2 ⟨rfl, hb⟩; have HB2 := HH (keep_trans (one_box _ _) hb); clear hb)
        | (at_builtin; refine wpList_append_rd rfl (.tmp 14) (.tmp 18) 28 rfl w.heap.size 9 _ 1 16 Tryz.underlying28 info_Str rfl (by omega) (by omega) (.slice B k d) k (cs strC ((l.take k).map (fun p : HazM => p.name))) rfl (own_after (own_after HO.out HB2.out) (one_box _ _)) _ _ 1 1 [.string ⟨x0.toArray⟩] rfl rfl (Sh.lit_at _ _ _ _ _ (by simp) rfl) (by simp [Value.oneCell']) (by omega) (by have := HB.out.size; have := HB2.out.size; simp; omega) ?_; intro v' w4 hown hbel; obtain ⟨A', c', rfl, -, -⟩ := own_form hown.out))
      go_roundw
      case rel => exact ea_more HA.out (by omega) rfl rfl hown.out ((below_then HB.out HB2.out HB.out.size).trans (((Below.refl _ _).alloc (by have := HB.out.size; have := HB2.out.size; omega) _).trans hbel.out)) rfl rfl
      case measure => simp [intOf]; omega
    · obtain rfl : n = k := by omega
      have hi : ¬ ((n : Int) < (n : Int)) := by omega
      go_wp2
      go_ret
      exact ea_over hn.out HO.out HB.out
theorem ask_nmRoute (r : RouteM) (sa ra ya : Option Addr) (sc rc yc : Nat) (w : World) : Calls Tryz.prog 147 #[rtV r sa ra ya sc rc yc] w (fun e w' => e = .returned (.string ⟨r.name.toArray⟩) ∧ Below w.heap.size w w') := by
  go_enter Tryz.func147, Tryz.ntmps147
  go_wp2
  go_ret
  exact ⟨rfl, one_box _ _⟩
theorem each_nmRoute (w : World) (A : Option Addr) (n c : Nat) (l : List RouteM) (cl : List Value) (hn : Hid (n = l.length)) (hN : n ≤ 400) (hx : Rd w (· < w.heap.size) A cl) (hr : Rts w (· < w.heap.size) l cl) :
    Calls Tryz.prog 146 #[.slice A n c, .func (.func 147) #[] #[]] w (NewRow w 9 1 (cs strC (l.map (·.name))) n) := by
  have HX := HH hx
  have HR := HH hr
  clear hx hr
  go_enter Tryz.func146, Tryz.ntmps146
  go_wp2
  go_loopw [5, 10] (fun v vi wr => EaRel w 9 1 strC (fun p : RouteM => p.name) l n v vi wr) (fun _ vi _ => n - (intOf vi).toNat)
  case atStart => exact ea_start _ _ _ _ _ _
  case round =>
    obtain ⟨k, B, d, rfl, rfl, hk, HO, HB⟩ := hrel
    by_cases hlt : k < n
    · obtain ⟨a, ha⟩ := at_in l hn hlt
      obtain ⟨ad, rfl, hS, sa, sc, ra, rc, ya, yc, a0, a1, a2, a3, hg0⟩ := rts_at (rd_later HX.out HB.out) (HR.out.later HB.out) ha
      have HA := HH ha
      have HG := HH (fun w' => ask_nmRoute a sa ra ya sc rc yc w')
      obtain ⟨nm, st, ri, sy⟩ := a
      dsimp only [rtV] at a0 a1 a2 a3 HG
      obtain ⟨n1, hn1⟩ : ∃ n1, n1 = st.length := ⟨_, rfl⟩
      obtain ⟨n2, hn2⟩ : ∃ n2, n2 = ri.length := ⟨_, rfl⟩
      obtain ⟨n3, hn3⟩ : ∃ n3, n3 = sy.length := ⟨_, rfl⟩
      rw [← hn1] at a1
      rw [← hn2] at a2
      rw [← hn3] at a3
      rw [← hn1, ← hn2, ← hn3] at HG
      have hi : (k : Int) < (n : Int) := by omega
      clear ha hg0 hn1 hn2 hn3
      go_wp2_with (first
        | (go_at_call 147; refine (HG.out _).mono ?_; rintro e w2 ⟨rfl, hb⟩; have HB2 := HH (keep_trans (one_box _ _) hb); clear hb)
        | (at_builtin; refine wpList_append_rd rfl (.tmp 14) (.tmp 18) 28 rfl w.heap.size 9 _ 1 16 Tryz.underlying28 info_Str rfl (by omega) (by omega) (.slice B k d) k (cs strC ((l.take k).map (fun p : RouteM => p.name))) rfl (own_after (own_after HO.out HB2.out) (one_box _ _)) _ _ 1 1 [.string ⟨nm.toArray⟩] rfl rfl (Sh.lit_at _ _ _ _ _ (by simp) rfl) (by simp [Value.oneCell']) (by omega) (by have := HB.out.size; have := HB2.out.size; simp; omega) ?_; intro v' w4 hown hbel; obtain ⟨A', c', rfl, -, -⟩ := own_form hown.out))
      go_roundw
      case rel => exact ea_more HA.out (by omega) rfl rfl hown.out ((below_then HB.out HB2.out HB.out.size).trans (((Below.refl _ _).alloc (by have := HB.out.size; have := HB2.out.size; omega) _).trans hbel.out)) rfl rfl
      case measure => simp [intOf]; omega
    · obtain rfl : n = k := by omega
      have hi : ¬ ((n : Int) < (n : Int)) := by omega
      go_wp2
      go_ret
      exact ea_over hn.out HO.out HB.out
end Go.Proofs.YtfefnfifeaihhaaGreat.Wo
