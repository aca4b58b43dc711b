/- slices.ContainsFunc and IndexFunc of a world's things, asked by a closure with one captured box; proved by walking their texts. Conditions: at most 400 things; the closure leaves what was there alone. -/
import Derived.Test.YtfefnfifeaihhaaGreatWoRep
set_option linter.unusedVariables false
set_option linter.unusedSimpArgs false
set_option maxHeartbeats 1000000
set_option maxRecDepth 100000
namespace Go.Proofs.YtfefnfifeaihhaaGreat.Wo
open Go.ChangeShapes Go.WideShapes Go.ChangeAt Go.RowKit Go.Maps
open Lx Sh
/-- what a closure answers -/
def BoolB (w : World) (b : Bool) (e : Ending) (w' : World) : Prop := e = .returned (.bool b) ∧ Below w.heap.size w w'
theorem anyU {α : Type} {f : α → Bool} {l : List α} {k : Nat} {a : α} (h : (l.take k).any f = false) (ha : l[k]? = some a) (hf : f a = false) : (l.take (k + 1)).any f = false := by
  rw [List.take_add_one, ha, List.any_append, h]
  simp [hf]
theorem anyH {α : Type} {f : α → Bool} {l : List α} {k : Nat} {a : α} (ha : l[k]? = some a) (hf : f a = true) : l.any f = true := List.any_eq_true.2 ⟨a, List.mem_of_getElem? ha, hf⟩
theorem anyF {α : Type} {f : α → Bool} {l : List α} {k : Nat} (h : (l.take k).any f = false) (hk : k = l.length) : l.any f = false := by rw [hk, List.take_length] at h; exact h
abbrev dooG (p : DoorO) : Value := .agg #[.int .i64 p.a, .int .i64 p.b, .int .i64 p.len, .int .i64 p.times.frm, .int .i64 p.times.every, .int .i64 p.times.len]
abbrev hoG (p : HazO) : Value := .agg #[.bool p.stop, .int .i64 p.on_, .int .i64 p.times.frm, .int .i64 p.times.every, .int .i64 p.times.len]
def IdxB (w : World) (b : Bool) (e : Ending) (w' : World) : Prop := ∃ i : Int, e = .returned (.int .i64 i) ∧ decide (0 ≤ i) = b ∧ Below w.heap.size w w'
theorem idxf_po (w : World) (A : Option Addr) (n c g : Nat) (l : List PathO) (b : PathO → Bool) (hn : Hid (n = l.length)) (hN : n ≤ 400) (hx : Rd w (· < w.heap.size) A (cs poC l))
    (hg : Hid (∀ a, a ∈ l → ∀ w', Below w.heap.size w w' → Calls Tryz.prog 95 #[poV a, .pointer (some ⟨g, 0, none⟩)] w' (BoolB w' (b a)))) :
    Calls Tryz.prog 128 #[.slice A n c, .func (.func 95) #[] #[.pointer (some ⟨g, 0, none⟩)]] w (IdxB w (l.any b)) := by
  have HX := HH hx
  clear hx
  go_enter Tryz.func128, Tryz.ntmps128
  go_wp2
  go_loopw [8] (fun v wr => ∃ k : Nat, v = .int .i64 (k : Int) ∧ k ≤ n ∧ Hid ((l.take k).any b = false) ∧ Hid (Below w.heap.size w wr)) (fun v _ => n - (intOf v).toNat)
  case atStart => exact ⟨0, rfl, by omega, HH rfl, HH (Below.refl _ _)⟩
  case round =>
    obtain ⟨k, rfl, hk, HP, HB⟩ := hrel
    by_cases hlt : k < n
    · obtain ⟨a, ha⟩ := at_in (k := k) l hn hlt
      obtain ⟨ad, rfl, hS, h0, hj⟩ := rd_at 3 (fun _ => rfl) (by omega) (HX.out.below HB.out) ha
      have HA := HH ha
      have HG := HH (hg.out a (List.mem_of_getElem? ha))
      have hi : (k : Int) < (n : Int) := by omega
      obtain ⟨bb, hbb⟩ : ∃ z, z = b a := ⟨_, rfl⟩
      rw [← hbb] at HG
      have HBB := HH hbb
      clear ha hbb
      obtain ⟨x0, x1, x2⟩ := a
      have a0 : wr.cell? (ad.add (k * 3)) = some (.int .i64 x0) := h0
      have a1 : wr.cell? ⟨(ad.add (k * 3)).block, (ad.add (k * 3)).off + 1, none⟩ = some (.int .i64 x1) := (hj 1 (by omega)).resolve_right (by omega)
      have a2 : wr.cell? ⟨(ad.add (k * 3)).block, (ad.add (k * 3)).off + 2, none⟩ = some (.int .i64 x2) := (hj 2 (by omega)).resolve_right (by omega)
      clear h0 hj hS
      cases bb with
      | true =>
        have HR : Hid (l.any b = true) := HH (anyH HA.out HBB.out.symm)
        go_wp2_with (go_at_call 95; (with_reducible refine (HG.out _ ?hq).mono ?_); (case hq => exact HB.out); rintro e w2 ⟨rfl, hb⟩; have HB2 := HH (keep_trans HB.out hb); clear hb)
        go_ret
        exact ⟨k, rfl, by rw [HR.out]; simp, HB2.out⟩
      | false =>
        go_wp2_with (go_at_call 95; (with_reducible refine (HG.out _ ?hq).mono ?_); (case hq => exact HB.out); rintro e w2 ⟨rfl, hb⟩; have HB2 := HH (keep_trans HB.out hb); clear hb)
        go_roundw
        case rel => exact ⟨k + 1, by go_num, by omega, HH (anyU HP.out HA.out HBB.out.symm), HB2⟩
        case measure => simp [intOf]; omega
    · have hi : ¬ ((k : Int) < (n : Int)) := by omega
      have HR : Hid (l.any b = false) := HH (anyF HP.out (by have := hn.out; omega))
      go_wp2
      go_ret
      exact ⟨-1, rfl, by rw [HR.out]; rfl, HB.out⟩
theorem cont_po (w : World) (A : Option Addr) (n c g : Nat) (l : List PathO) (b : PathO → Bool) (hn : Hid (n = l.length)) (hN : n ≤ 400) (hx : Rd w (· < w.heap.size) A (cs poC l))
    (hg : Hid (∀ a, a ∈ l → ∀ w', Below w.heap.size w w' → Calls Tryz.prog 95 #[poV a, .pointer (some ⟨g, 0, none⟩)] w' (BoolB w' (b a)))) :
    Calls Tryz.prog 94 #[.slice A n c, .func (.func 95) #[] #[.pointer (some ⟨g, 0, none⟩)]] w (BoolB w (l.any b)) := by
  have HI := HH (idxf_po w A n c g l b hn hN hx hg)
  clear hx hg
  go_enter Tryz.func94, Tryz.ntmps94
  go_wp2_with (go_at_call 128; (with_reducible refine HI.out.mono ?_); rintro e w2 ⟨i, rfl, hi, hb⟩; have HB2 := HH hb; have HII := HH hi; clear hb hi)
  go_ret
  exact ⟨by rw [← HII.out]; rfl, HB2.out⟩
theorem idxf_dof (w : World) (A : Option Addr) (n c g : Nat) (l : List DoorO) (b : DoorO → Bool) (hn : Hid (n = l.length)) (hN : n ≤ 400) (hx : Rd w (· < w.heap.size) A (cs dooC l))
    (hg : Hid (∀ a, a ∈ l → ∀ w', Below w.heap.size w w' → Calls Tryz.prog 98 #[dooG a, .pointer (some ⟨g, 0, none⟩)] w' (BoolB w' (b a)))) :
    Calls Tryz.prog 131 #[.slice A n c, .func (.func 98) #[] #[.pointer (some ⟨g, 0, none⟩)]] w (IdxB w (l.any b)) := by
  have HX := HH hx
  clear hx
  go_enter Tryz.func131, Tryz.ntmps131
  go_wp2
  go_loopw [8] (fun v wr => ∃ k : Nat, v = .int .i64 (k : Int) ∧ k ≤ n ∧ Hid ((l.take k).any b = false) ∧ Hid (Below w.heap.size w wr)) (fun v _ => n - (intOf v).toNat)
  case atStart => exact ⟨0, rfl, by omega, HH rfl, HH (Below.refl _ _)⟩
  case round =>
    obtain ⟨k, rfl, hk, HP, HB⟩ := hrel
    by_cases hlt : k < n
    · obtain ⟨a, ha⟩ := at_in (k := k) l hn hlt
      obtain ⟨ad, rfl, hS, h0, hj⟩ := rd_at 6 (fun _ => rfl) (by omega) (HX.out.below HB.out) ha
      have HA := HH ha
      have HG := HH (hg.out a (List.mem_of_getElem? ha))
      have hi : (k : Int) < (n : Int) := by omega
      obtain ⟨bb, hbb⟩ : ∃ z, z = b a := ⟨_, rfl⟩
      rw [← hbb] at HG
      have HBB := HH hbb
      clear ha hbb
      obtain ⟨x0, x1, x2, ⟨x3, x4, x5⟩⟩ := a
      have a0 : wr.cell? (ad.add (k * 6)) = some (.int .i64 x0) := h0
      have a1 : wr.cell? ⟨(ad.add (k * 6)).block, (ad.add (k * 6)).off + 1, none⟩ = some (.int .i64 x1) := (hj 1 (by omega)).resolve_right (by omega)
      have a2 : wr.cell? ⟨(ad.add (k * 6)).block, (ad.add (k * 6)).off + 2, none⟩ = some (.int .i64 x2) := (hj 2 (by omega)).resolve_right (by omega)
      have a3 : wr.cell? ⟨(ad.add (k * 6)).block, (ad.add (k * 6)).off + 3, none⟩ = some (.int .i64 x3) := (hj 3 (by omega)).resolve_right (by omega)
      have a4 : wr.cell? ⟨(ad.add (k * 6)).block, (ad.add (k * 6)).off + 4, none⟩ = some (.int .i64 x4) := (hj 4 (by omega)).resolve_right (by omega)
      have a5 : wr.cell? ⟨(ad.add (k * 6)).block, (ad.add (k * 6)).off + 5, none⟩ = some (.int .i64 x5) := (hj 5 (by omega)).resolve_right (by omega)
      clear h0 hj hS
      cases bb with
      | true =>
        have HR : Hid (l.any b = true) := HH (anyH HA.out HBB.out.symm)
        go_wp2_with (go_at_call 98; (with_reducible refine (HG.out _ ?hq).mono ?_); (case hq => exact HB.out); rintro e w2 ⟨rfl, hb⟩; have HB2 := HH (keep_trans HB.out hb); clear hb)
        go_ret
        exact ⟨k, rfl, by rw [HR.out]; simp, HB2.out⟩
      | false =>
        go_wp2_with (go_at_call 98; (with_reducible refine (HG.out _ ?hq).mono ?_); (case hq => exact HB.out); rintro e w2 ⟨rfl, hb⟩; have HB2 := HH (keep_trans HB.out hb); clear hb)
        go_roundw
        case rel => exact ⟨k + 1, by go_num, by omega, HH (anyU HP.out HA.out HBB.out.symm), HB2⟩
        case measure => simp [intOf]; omega
    · have hi : ¬ ((k : Int) < (n : Int)) := by omega
      have HR : Hid (l.any b = false) := HH (anyF HP.out (by have := hn.out; omega))
      go_wp2
      go_ret
      exact ⟨-1, rfl, by rw [HR.out]; rfl, HB.out⟩
theorem cont_dof (w : World) (A : Option Addr) (n c g : Nat) (l : List DoorO) (b : DoorO → Bool) (hn : Hid (n = l.length)) (hN : n ≤ 400) (hx : Rd w (· < w.heap.size) A (cs dooC l))
    (hg : Hid (∀ a, a ∈ l → ∀ w', Below w.heap.size w w' → Calls Tryz.prog 98 #[dooG a, .pointer (some ⟨g, 0, none⟩)] w' (BoolB w' (b a)))) :
    Calls Tryz.prog 97 #[.slice A n c, .func (.func 98) #[] #[.pointer (some ⟨g, 0, none⟩)]] w (BoolB w (l.any b)) := by
  have HI := HH (idxf_dof w A n c g l b hn hN hx hg)
  clear hx hg
  go_enter Tryz.func97, Tryz.ntmps97
  go_wp2_with (go_at_call 131; (with_reducible refine HI.out.mono ?_); rintro e w2 ⟨i, rfl, hi, hb⟩; have HB2 := HH hb; have HII := HH hi; clear hb hi)
  go_ret
  exact ⟨by rw [← HII.out]; rfl, HB2.out⟩
theorem idxf_to (w : World) (A : Option Addr) (n c g : Nat) (l : List TripO) (b : TripO → Bool) (hn : Hid (n = l.length)) (hN : n ≤ 400) (hx : Rd w (· < w.heap.size) A (cs toC l))
    (hg : Hid (∀ a, a ∈ l → ∀ w', Below w.heap.size w w' → Calls Tryz.prog 102 #[toV a, .pointer (some ⟨g, 0, none⟩)] w' (BoolB w' (b a)))) :
    Calls Tryz.prog 133 #[.slice A n c, .func (.func 102) #[] #[.pointer (some ⟨g, 0, none⟩)]] w (IdxB w (l.any b)) := by
  have HX := HH hx
  clear hx
  go_enter Tryz.func133, Tryz.ntmps133
  go_wp2
  go_loopw [8] (fun v wr => ∃ k : Nat, v = .int .i64 (k : Int) ∧ k ≤ n ∧ Hid ((l.take k).any b = false) ∧ Hid (Below w.heap.size w wr)) (fun v _ => n - (intOf v).toNat)
  case atStart => exact ⟨0, rfl, by omega, HH rfl, HH (Below.refl _ _)⟩
  case round =>
    obtain ⟨k, rfl, hk, HP, HB⟩ := hrel
    by_cases hlt : k < n
    · obtain ⟨a, ha⟩ := at_in (k := k) l hn hlt
      obtain ⟨ad, rfl, hS, h0, hj⟩ := rd_at 4 (fun _ => rfl) (by omega) (HX.out.below HB.out) ha
      have HA := HH ha
      have HG := HH (hg.out a (List.mem_of_getElem? ha))
      have hi : (k : Int) < (n : Int) := by omega
      obtain ⟨bb, hbb⟩ : ∃ z, z = b a := ⟨_, rfl⟩
      rw [← hbb] at HG
      have HBB := HH hbb
      clear ha hbb
      obtain ⟨x0, x1, x2, x3⟩ := a
      have a0 : wr.cell? (ad.add (k * 4)) = some (.int .i64 x0) := h0
      have a1 : wr.cell? ⟨(ad.add (k * 4)).block, (ad.add (k * 4)).off + 1, none⟩ = some (.int .i64 x1) := (hj 1 (by omega)).resolve_right (by omega)
      have a2 : wr.cell? ⟨(ad.add (k * 4)).block, (ad.add (k * 4)).off + 2, none⟩ = some (.int .i64 x2) := (hj 2 (by omega)).resolve_right (by omega)
      have a3 : wr.cell? ⟨(ad.add (k * 4)).block, (ad.add (k * 4)).off + 3, none⟩ = some (.int .i64 x3) := (hj 3 (by omega)).resolve_right (by omega)
      clear h0 hj hS
      cases bb with
      | true =>
        have HR : Hid (l.any b = true) := HH (anyH HA.out HBB.out.symm)
        go_wp2_with (go_at_call 102; (with_reducible refine (HG.out _ ?hq).mono ?_); (case hq => exact HB.out); rintro e w2 ⟨rfl, hb⟩; have HB2 := HH (keep_trans HB.out hb); clear hb)
        go_ret
        exact ⟨k, rfl, by rw [HR.out]; simp, HB2.out⟩
      | false =>
        go_wp2_with (go_at_call 102; (with_reducible refine (HG.out _ ?hq).mono ?_); (case hq => exact HB.out); rintro e w2 ⟨rfl, hb⟩; have HB2 := HH (keep_trans HB.out hb); clear hb)
        go_roundw
        case rel => exact ⟨k + 1, by go_num, by omega, HH (anyU HP.out HA.out HBB.out.symm), HB2⟩
        case measure => simp [intOf]; omega
    · have hi : ¬ ((k : Int) < (n : Int)) := by omega
      have HR : Hid (l.any b = false) := HH (anyF HP.out (by have := hn.out; omega))
      go_wp2
      go_ret
      exact ⟨-1, rfl, by rw [HR.out]; rfl, HB.out⟩
theorem cont_to (w : World) (A : Option Addr) (n c g : Nat) (l : List TripO) (b : TripO → Bool) (hn : Hid (n = l.length)) (hN : n ≤ 400) (hx : Rd w (· < w.heap.size) A (cs toC l))
    (hg : Hid (∀ a, a ∈ l → ∀ w', Below w.heap.size w w' → Calls Tryz.prog 102 #[toV a, .pointer (some ⟨g, 0, none⟩)] w' (BoolB w' (b a)))) :
    Calls Tryz.prog 101 #[.slice A n c, .func (.func 102) #[] #[.pointer (some ⟨g, 0, none⟩)]] w (BoolB w (l.any b)) := by
  have HI := HH (idxf_to w A n c g l b hn hN hx hg)
  clear hx hg
  go_enter Tryz.func101, Tryz.ntmps101
  go_wp2_with (go_at_call 133; (with_reducible refine HI.out.mono ?_); rintro e w2 ⟨i, rfl, hi, hb⟩; have HB2 := HH hb; have HII := HH hi; clear hb hi)
  go_ret
  exact ⟨by rw [← HII.out]; rfl, HB2.out⟩
theorem idxf_ho (w : World) (A : Option Addr) (n c g : Nat) (l : List HazO) (b : HazO → Bool) (hn : Hid (n = l.length)) (hN : n ≤ 400) (hx : Rd w (· < w.heap.size) A (cs hoC l))
    (hg : Hid (∀ a, a ∈ l → ∀ w', Below w.heap.size w w' → Calls Tryz.prog 104 #[hoG a, .pointer (some ⟨g, 0, none⟩)] w' (BoolB w' (b a)))) :
    Calls Tryz.prog 134 #[.slice A n c, .func (.func 104) #[] #[.pointer (some ⟨g, 0, none⟩)]] w (IdxB w (l.any b)) := by
  have HX := HH hx
  clear hx
  go_enter Tryz.func134, Tryz.ntmps134
  go_wp2
  go_loopw [8] (fun v wr => ∃ k : Nat, v = .int .i64 (k : Int) ∧ k ≤ n ∧ Hid ((l.take k).any b = false) ∧ Hid (Below w.heap.size w wr)) (fun v _ => n - (intOf v).toNat)
  case atStart => exact ⟨0, rfl, by omega, HH rfl, HH (Below.refl _ _)⟩
  case round =>
    obtain ⟨k, rfl, hk, HP, HB⟩ := hrel
    by_cases hlt : k < n
    · obtain ⟨a, ha⟩ := at_in (k := k) l hn hlt
      obtain ⟨ad, rfl, hS, h0, hj⟩ := rd_at 5 (fun _ => rfl) (by omega) (HX.out.below HB.out) ha
      have HA := HH ha
      have HG := HH (hg.out a (List.mem_of_getElem? ha))
      have hi : (k : Int) < (n : Int) := by omega
      obtain ⟨bb, hbb⟩ : ∃ z, z = b a := ⟨_, rfl⟩
      rw [← hbb] at HG
      have HBB := HH hbb
      clear ha hbb
      obtain ⟨x0, x1, ⟨x2, x3, x4⟩⟩ := a
      have a0 : wr.cell? (ad.add (k * 5)) = some (.bool x0) := h0
      have a1 : wr.cell? ⟨(ad.add (k * 5)).block, (ad.add (k * 5)).off + 1, none⟩ = some (.int .i64 x1) := (hj 1 (by omega)).resolve_right (by omega)
      have a2 : wr.cell? ⟨(ad.add (k * 5)).block, (ad.add (k * 5)).off + 2, none⟩ = some (.int .i64 x2) := (hj 2 (by omega)).resolve_right (by omega)
      have a3 : wr.cell? ⟨(ad.add (k * 5)).block, (ad.add (k * 5)).off + 3, none⟩ = some (.int .i64 x3) := (hj 3 (by omega)).resolve_right (by omega)
      have a4 : wr.cell? ⟨(ad.add (k * 5)).block, (ad.add (k * 5)).off + 4, none⟩ = some (.int .i64 x4) := (hj 4 (by omega)).resolve_right (by omega)
      clear h0 hj hS
      cases bb with
      | true =>
        have HR : Hid (l.any b = true) := HH (anyH HA.out HBB.out.symm)
        go_wp2_with (go_at_call 104; (with_reducible refine (HG.out _ ?hq).mono ?_); (case hq => exact HB.out); rintro e w2 ⟨rfl, hb⟩; have HB2 := HH (keep_trans HB.out hb); clear hb)
        go_ret
        exact ⟨k, rfl, by rw [HR.out]; simp, HB2.out⟩
      | false =>
        go_wp2_with (go_at_call 104; (with_reducible refine (HG.out _ ?hq).mono ?_); (case hq => exact HB.out); rintro e w2 ⟨rfl, hb⟩; have HB2 := HH (keep_trans HB.out hb); clear hb)
        go_roundw
        case rel => exact ⟨k + 1, by go_num, by omega, HH (anyU HP.out HA.out HBB.out.symm), HB2⟩
        case measure => simp [intOf]; omega
    · have hi : ¬ ((k : Int) < (n : Int)) := by omega
      have HR : Hid (l.any b = false) := HH (anyF HP.out (by have := hn.out; omega))
      go_wp2
      go_ret
      exact ⟨-1, rfl, by rw [HR.out]; rfl, HB.out⟩
theorem cont_ho (w : World) (A : Option Addr) (n c g : Nat) (l : List HazO) (b : HazO → Bool) (hn : Hid (n = l.length)) (hN : n ≤ 400) (hx : Rd w (· < w.heap.size) A (cs hoC l))
    (hg : Hid (∀ a, a ∈ l → ∀ w', Below w.heap.size w w' → Calls Tryz.prog 104 #[hoG a, .pointer (some ⟨g, 0, none⟩)] w' (BoolB w' (b a)))) :
    Calls Tryz.prog 103 #[.slice A n c, .func (.func 104) #[] #[.pointer (some ⟨g, 0, none⟩)]] w (BoolB w (l.any b)) := by
  have HI := HH (idxf_ho w A n c g l b hn hN hx hg)
  clear hx hg
  go_enter Tryz.func103, Tryz.ntmps103
  go_wp2_with (go_at_call 134; (with_reducible refine HI.out.mono ?_); rintro e w2 ⟨i, rfl, hi, hb⟩; have HB2 := HH hb; have HII := HH hi; clear hb hi)
  go_ret
  exact ⟨by rw [← HII.out]; rfl, HB2.out⟩
theorem idxf_ii (w : World) (A : Option Addr) (n c g : Nat) (l : List Int) (b : Int → Bool) (hn : Hid (n = l.length)) (hN : n ≤ 400) (hx : Rd w (· < w.heap.size) A (cs intC l))
    (hg : Hid (∀ a, a ∈ l → ∀ w', Below w.heap.size w w' → Calls Tryz.prog 130 #[.int .i64 a, .pointer (some ⟨g, 0, none⟩)] w' (BoolB w' (b a)))) :
    Calls Tryz.prog 160 #[.slice A n c, .func (.func 130) #[] #[.pointer (some ⟨g, 0, none⟩)]] w (IdxB w (l.any b)) := by
  have HX := HH hx
  clear hx
  go_enter Tryz.func160, Tryz.ntmps160
  go_wp2
  go_loopw [8] (fun v wr => ∃ k : Nat, v = .int .i64 (k : Int) ∧ k ≤ n ∧ Hid ((l.take k).any b = false) ∧ Hid (Below w.heap.size w wr)) (fun v _ => n - (intOf v).toNat)
  case atStart => exact ⟨0, rfl, by omega, HH rfl, HH (Below.refl _ _)⟩
  case round =>
    obtain ⟨k, rfl, hk, HP, HB⟩ := hrel
    by_cases hlt : k < n
    · obtain ⟨a, ha⟩ := at_in (k := k) l hn hlt
      obtain ⟨ad, rfl, hS, h0, hj⟩ := rd_at 1 (fun _ => rfl) (by omega) (HX.out.below HB.out) ha
      have HA := HH ha
      have HG := HH (hg.out a (List.mem_of_getElem? ha))
      have hi : (k : Int) < (n : Int) := by omega
      obtain ⟨bb, hbb⟩ : ∃ z, z = b a := ⟨_, rfl⟩
      rw [← hbb] at HG
      have HBB := HH hbb
      clear ha hbb
      have a0 : wr.cell? (ad.add k) = some (.int .i64 a) := by have : wr.cell? (ad.add (k * 1)) = some (.int .i64 a) := h0; rwa [Nat.mul_one] at this
      clear h0 hj hS
      cases bb with
      | true =>
        have HR : Hid (l.any b = true) := HH (anyH HA.out HBB.out.symm)
        go_wp2_with (go_at_call 130; (with_reducible refine (HG.out _ ?hq).mono ?_); (case hq => exact HB.out); rintro e w2 ⟨rfl, hb⟩; have HB2 := HH (keep_trans HB.out hb); clear hb)
        go_ret
        exact ⟨k, rfl, by rw [HR.out]; simp, HB2.out⟩
      | false =>
        go_wp2_with (go_at_call 130; (with_reducible refine (HG.out _ ?hq).mono ?_); (case hq => exact HB.out); rintro e w2 ⟨rfl, hb⟩; have HB2 := HH (keep_trans HB.out hb); clear hb)
        go_roundw
        case rel => exact ⟨k + 1, by go_num, by omega, HH (anyU HP.out HA.out HBB.out.symm), HB2⟩
        case measure => simp [intOf]; omega
    · have hi : ¬ ((k : Int) < (n : Int)) := by omega
      have HR : Hid (l.any b = false) := HH (anyF HP.out (by have := hn.out; omega))
      go_wp2
      go_ret
      exact ⟨-1, rfl, by rw [HR.out]; rfl, HB.out⟩
theorem cont_ii (w : World) (A : Option Addr) (n c g : Nat) (l : List Int) (b : Int → Bool) (hn : Hid (n = l.length)) (hN : n ≤ 400) (hx : Rd w (· < w.heap.size) A (cs intC l))
    (hg : Hid (∀ a, a ∈ l → ∀ w', Below w.heap.size w w' → Calls Tryz.prog 130 #[.int .i64 a, .pointer (some ⟨g, 0, none⟩)] w' (BoolB w' (b a)))) :
    Calls Tryz.prog 129 #[.slice A n c, .func (.func 130) #[] #[.pointer (some ⟨g, 0, none⟩)]] w (BoolB w (l.any b)) := by
  have HI := HH (idxf_ii w A n c g l b hn hN hx hg)
  clear hx hg
  go_enter Tryz.func129, Tryz.ntmps129
  go_wp2_with (go_at_call 160; (with_reducible refine HI.out.mono ?_); rintro e w2 ⟨i, rfl, hi, hb⟩; have HB2 := HH hb; have HII := HH hi; clear hb hi)
  go_ret
  exact ⟨by rw [← HII.out]; rfl, HB2.out⟩
theorem idxf_ro (w : World) (A : Option Addr) (n c g : Nat) (l : List RouteO) (cl : List Value) (b : RouteO → Bool) (hn : Hid (n = l.length)) (hN : n ≤ 400) (hx : Rd w (· < w.heap.size) A cl) (hr : Rtos w (· < w.heap.size) l cl)
    (hg : Hid (∀ a, a ∈ l → ∀ w' sa sc ra rc ya yc, Below w.heap.size w w' → RoAt w' (· < w'.heap.size) a sa ra ya → Calls Tryz.prog 100 #[roV a sa ra ya sc rc yc, .pointer (some ⟨g, 0, none⟩)] w' (BoolB w' (b a)))) :
    Calls Tryz.prog 132 #[.slice A n c, .func (.func 100) #[] #[.pointer (some ⟨g, 0, none⟩)]] w (IdxB w (l.any b)) := by
  have HX := HH hx
  have HRR := HH hr
  clear hx hr
  go_enter Tryz.func132, Tryz.ntmps132
  go_wp2
  go_loopw [8] (fun v wr => ∃ k : Nat, v = .int .i64 (k : Int) ∧ k ≤ n ∧ Hid ((l.take k).any b = false) ∧ Hid (Below w.heap.size w wr)) (fun v _ => n - (intOf v).toNat)
  case atStart => exact ⟨0, rfl, by omega, HH rfl, HH (Below.refl _ _)⟩
  case round =>
    obtain ⟨k, rfl, hk, HP, HB⟩ := hrel
    by_cases hlt : k < n
    · obtain ⟨a, ha⟩ := at_in (k := k) l hn hlt
      obtain ⟨ad, rfl, hS, sa, sc, ra, rc, ya, yc, a0, a1, a2, hro⟩ := rtos_at (rd_later HX.out HB.out) (HRR.out.later HB.out) ha
      have HA := HH ha
      have HG := HH (hg.out a (List.mem_of_getElem? ha) wr sa sc ra rc ya yc HB.out hro)
      have hi : (k : Int) < (n : Int) := by omega
      obtain ⟨bb, hbb⟩ : ∃ z, z = b a := ⟨_, rfl⟩
      rw [← hbb] at HG
      have HBB := HH hbb
      dsimp only [roV] at HG
      generalize a.stops.length = m1 at *
      generalize a.rides.length = m2 at *
      generalize a.stays.length = m3 at *
      clear ha hbb hS hro
      cases bb with
      | true =>
        have HR : Hid (l.any b = true) := HH (anyH HA.out HBB.out.symm)
        go_wp2_with (go_at_call 100; (with_reducible refine HG.out.mono ?_); rintro e w2 ⟨rfl, hb⟩; have HB2 := HH (keep_trans HB.out hb); clear hb)
        go_ret
        exact ⟨k, rfl, by rw [HR.out]; simp, HB2.out⟩
      | false =>
        go_wp2_with (go_at_call 100; (with_reducible refine HG.out.mono ?_); rintro e w2 ⟨rfl, hb⟩; have HB2 := HH (keep_trans HB.out hb); clear hb)
        go_roundw
        case rel => exact ⟨k + 1, by go_num, by omega, HH (anyU HP.out HA.out HBB.out.symm), HB2⟩
        case measure => simp [intOf]; omega
    · have hi : ¬ ((k : Int) < (n : Int)) := by omega
      have HR : Hid (l.any b = false) := HH (anyF HP.out (by have := hn.out; omega))
      go_wp2
      go_ret
      exact ⟨-1, rfl, by rw [HR.out]; rfl, HB.out⟩
theorem cont_ro (w : World) (A : Option Addr) (n c g : Nat) (l : List RouteO) (cl : List Value) (b : RouteO → Bool) (hn : Hid (n = l.length)) (hN : n ≤ 400) (hx : Rd w (· < w.heap.size) A cl) (hr : Rtos w (· < w.heap.size) l cl)
    (hg : Hid (∀ a, a ∈ l → ∀ w' sa sc ra rc ya yc, Below w.heap.size w w' → RoAt w' (· < w'.heap.size) a sa ra ya → Calls Tryz.prog 100 #[roV a sa ra ya sc rc yc, .pointer (some ⟨g, 0, none⟩)] w' (BoolB w' (b a)))) :
    Calls Tryz.prog 99 #[.slice A n c, .func (.func 100) #[] #[.pointer (some ⟨g, 0, none⟩)]] w (BoolB w (l.any b)) := by
  have HI := HH (idxf_ro w A n c g l cl b hn hN hx hr hg)
  clear hx hr hg
  go_enter Tryz.func99, Tryz.ntmps99
  go_wp2_with (go_at_call 132; (with_reducible refine HI.out.mono ?_); rintro e w2 ⟨i, rfl, hi, hb⟩; have HB2 := HH hb; have HII := HH hi; clear hb hi)
  go_ret
  exact ⟨by rw [← HII.out]; rfl, HB2.out⟩
end Go.Proofs.YtfefnfifeaihhaaGreat.Wo
