/- Contracts of package window's small functions: within, finite, Check, Good and Sum, each proved by walking its text. Conditions: rows hold fewer than a million windows. -/
import Derived.Test.YtejmfhmglbggnaaWinBase
namespace Go.Proofs.Ytejmfhmglbggnaa.Wn
open Go.ChangeShapes Go.WideShapes Go.ChangeAt Go.RowKit
set_option linter.unusedVariables false
set_option linter.unusedSimpArgs false

theorem within_any (x lo hi : Int) (w : World) : Calls Try.prog 42 #[.int .i64 x, .int .i64 lo, .int .i64 hi] w fun e w' => e = .returned (.bool (decide (lo ≤ x ∧ x ≤ hi))) ∧ w = w' := by
  by_cases h1 : lo ≤ x
  · by_cases h2 : x ≤ hi
    · go_enter Try.func42, Try.ntmps42
      go_wp2
      go_ret
      exact ⟨ret_b (by simp [h1, h2]), rfl⟩
    · go_enter Try.func42, Try.ntmps42
      go_wp2
      go_ret
      exact ⟨ret_b (by simp [h1, h2]), rfl⟩
  · go_enter Try.func42, Try.ntmps42
    go_wp2
    go_ret
    exact ⟨ret_b (by simp; omega), rfl⟩
theorem checkV_tick (x : Int) : Tk.checkV x = if tick x = true then 0 else 9 := by simp [Tk.checkV, tick]
theorem finite_any (x : Int) (w : World) : Calls Try.prog 35 #[.int .i64 x] w fun e w' => e = .returned (.bool (tick x)) ∧ w = w' := by
  by_cases h : tick x = true
  · have h' := (tick_iff x).1 h
    go_enter Try.func35, Try.ntmps35
    go_wp2_with (go_at_call 31; refine (Tk.check_ok x w h'.1 h'.2).mono ?_; rintro e w1 ⟨rfl, rfl⟩)
    go_ret
    exact ⟨ret_b (by simp [h]), rfl⟩
  · have h' : x < 0 ∨ 1099511627776 < x := by
      have h2 : ¬ (0 ≤ x ∧ x ≤ 1099511627776) := fun h' => h ((tick_iff x).2 h')
      omega
    go_enter Try.func35, Try.ntmps35
    go_wp2_with (go_at_call 31; refine (Tk.check_bad x w h').mono ?_; rintro e w1 ⟨rfl, rfl⟩)
    go_ret
    exact ⟨ret_b (by simp [h]), rfl⟩

/-- times as a value -/
def tv (t : Tm) : Value := .agg #[.int .i64 t.f, .int .i64 t.e, .int .i64 t.l]

set_option maxHeartbeats 1000000 in
theorem good_any (w : World) (A : Option Addr) (n c : Nat) (zs : List Win) (hn : Hid (n = zs.length)) (hN : n ≤ 1000000) (hx : Rd w (· < w.heap.size) A (kc zs)) :
    Calls Try.prog 12 #[.slice A n c] w fun e w' => e = .returned (.bool (good zs)) ∧ Below w.heap.size w w' := by
  have HX := Lib.hid hx
  clear hx
  go_enter Try.func12, Try.ntmps12
  go_wp2
  go_loopw [3, 8] (fun v3 v8 wr => ∃ (k : Nat) (e : Int), v3 = .int .i64 e ∧ v8 = .int .i64 k ∧ k ≤ n ∧ Hid (good zs = goodB e (zs.drop k)) ∧ Below w.heap.size w wr) (fun _ v _ => n - (intOf v).toNat)
  case atStart => exact ⟨0, -1, rfl, rfl, by omega, by show _ = _; rfl, Below.refl _ _⟩
  case round =>
    obtain ⟨k, e, rfl, rfl, hk, hG, hbel⟩ := hrel
    by_cases hlt : k < n
    · have hkl : k < zs.length := by rw [← hn.out]; exact hlt
      obtain ⟨ad, rfl, hS, hca⟩ := (HX.out.below2 hbel).key2 (k := k) hkl
      obtain ⟨ha0, ha1⟩ := hca k hkl
      obtain ⟨p, hp⟩ : ∃ p, p = zs.getD k (0, 0) := ⟨_, rfl⟩
      have hdr : zs.drop k = p :: zs.drop (k + 1) := by
        rw [List.drop_eq_getElem_cons hkl, hp]
        simp [List.getD_eq_getElem?_getD, List.getElem?_eq_getElem hkl]
      rw [← hp] at ha0 ha1
      have HG : Hid (good zs = if p.1 ≤ e ∨ p.2 ≤ p.1 ∨ 2199023255552 < p.2 then false else goodB p.2 (zs.drop (k + 1))) := Lib.hid (by
        have := hG.out; rw [hdr] at this; exact this)
      have HB := Lib.hid hbel
      clear hca hbel hp hdr hG
      have hi : (k : Int) < (n : Int) := by omega
      obtain ⟨p1, p2⟩ := p
      dsimp only at ha0 ha1 HG
      by_cases c1 : p1 ≤ e
      · have HR : Hid (false = good zs) := Lib.hid (by rw [HG.out, if_pos (.inl c1)])
        clear HG
        go_wp2
        go_ret
        exact ⟨ret_b HR.out.symm, HB.out.alloc HB.out.size _⟩
      · by_cases c2 : p2 ≤ p1
        · have HR : Hid (false = good zs) := Lib.hid (by rw [HG.out, if_pos (.inr (.inl c2))])
          clear HG
          go_wp2
          go_ret
          exact ⟨ret_b HR.out.symm, HB.out.alloc HB.out.size _⟩
        · by_cases c3 : 2199023255552 < p2
          · have HR : Hid (false = good zs) := Lib.hid (by rw [HG.out, if_pos (.inr (.inr c3))])
            clear HG
            go_wp2
            go_ret
            exact ⟨ret_b HR.out.symm, HB.out.alloc HB.out.size _⟩
          · have HR : Hid (good zs = goodB p2 (zs.drop (k + 1))) := Lib.hid (by rw [HG.out, if_neg (by omega)])
            clear HG
            go_wp2
            go_roundw
            case rel => exact ⟨k + 1, p2, rfl, by go_num, by omega, HR.out, HB.out.alloc HB.out.size _⟩
            case measure => simp [intOf]; omega
    · have HB := Lib.hid hbel
      have HR : Hid (good zs = true) := Lib.hid (by
        have := hG.out; rw [List.drop_eq_nil_of_le (by rw [← hn.out]; omega)] at this; exact this)
      clear hbel hG
      go_wp2
      go_ret
      exact ⟨ret_b HR.out, HB.out⟩

theorem sm_take_succ (zs : List Win) (k : Nat) (hk : k < zs.length) : sm (zs.take (k + 1)) = sm (zs.take k) + ((zs.getD k (0, 0)).2 - (zs.getD k (0, 0)).1) := by
  rw [List.take_add_one, List.getElem?_eq_getElem hk]
  simp only [Option.toList]
  rw [sm_snoc]
  simp [List.getD_eq_getElem?_getD, List.getElem?_eq_getElem hk]
theorem Gd.take {lo : Int} {l : List Win} (h : Gd lo l) (k : Nat) : Gd lo (l.take k) := by
  induction l generalizing lo k with
  | nil => simp [Gd]
  | cons w r ih =>
    cases k with
    | zero => trivial
    | succ k => exact ⟨h.1, h.2.1, h.2.2.1, ih h.2.2.2 k⟩
/-- what Sum tells -/
def smV (l : List Win) : Int := if good l = true then sm l else 0
set_option maxHeartbeats 1000000 in
theorem sum_any (w : World) (A : Option Addr) (n c : Nat) (zs : List Win) (hn : Hid (n = zs.length)) (hN : n ≤ 1000000) (hx : Rd w (· < w.heap.size) A (kc zs)) :
    Calls Try.prog 13 #[.slice A n c] w fun e w' => e = .returned (.int .i64 (smV zs)) ∧ Below w.heap.size w w' := by
  have HX := Lib.hid hx
  have CG := Lib.hid (good_any w A n c zs hn hN hx)
  clear hx
  cases hg : good zs with
  | false =>
    have HR : Hid (smV zs = 0) := Lib.hid (by simp [smV, hg])
    rw [hg] at CG
    go_enter Try.func13, Try.ntmps13
    go_wp2_with (go_at_call 12; refine CG.out.mono ?_; rintro e w1 ⟨rfl, hb⟩)
    go_ret
    exact ⟨ret_i HR.out.symm, hb⟩
  | true =>
    have HS : Hid (∀ k, k ≤ zs.length → 0 ≤ sm (zs.take k) ∧ sm (zs.take k) ≤ 2199023255553) := Lib.hid fun k _ => by
      have := ((good_gd hg).take k).sm_le (by omega); omega
    have HA : Hid (∀ k, k < zs.length → 0 ≤ (zs.getD k (0, 0)).1 ∧ (zs.getD k (0, 0)).1 < (zs.getD k (0, 0)).2 ∧ (zs.getD k (0, 0)).2 ≤ 2199023255552) := Lib.hid fun k hk => by
      have := (good_gd hg).all (zs.getD k (0, 0)) (by simp [List.getD_eq_getElem?_getD, List.getElem?_eq_getElem hk]); omega
    have HR : Hid (smV zs = sm zs) := Lib.hid (by simp [smV, hg])
    rw [hg] at CG
    go_enter Try.func13, Try.ntmps13
    go_wp2_with (go_at_call 12; refine CG.out.mono ?_; rintro e w1 ⟨rfl, hb0⟩)
    have HB0 := Lib.hid hb0
    clear hb0
    go_loopw [3, 11] (fun v3 v11 wr => ∃ (k : Nat) (e : Int), v3 = .int .i64 e ∧ v11 = .int .i64 k ∧ k ≤ n ∧ Hid (e = sm (zs.take k)) ∧ Below w.heap.size w wr) (fun _ v _ => n - (intOf v).toNat)
    case atStart => exact ⟨0, 0, rfl, rfl, by omega, by show _ = _; rfl, HB0.out⟩
    case round =>
      obtain ⟨k, e, rfl, rfl, hk, hE, hbel⟩ := hrel
      by_cases hlt : k < n
      · have hkl : k < zs.length := by rw [← hn.out]; exact hlt
        obtain ⟨ad, rfl, hS, hca⟩ := (HX.out.below2 hbel).key2 (k := k) hkl
        obtain ⟨ha0, ha1⟩ := hca k hkl
        have hz := HA.out k hkl
        have hs := HS.out k (by omega)
        rw [← hE.out] at hs
        have HE : Hid (e + ((zs.getD k (0, 0)).2 - (zs.getD k (0, 0)).1) = sm (zs.take (k + 1))) := Lib.hid (by rw [sm_take_succ zs k hkl, hE.out])
        obtain ⟨p, hp⟩ : ∃ p, p = zs.getD k (0, 0) := ⟨_, rfl⟩
        rw [← hp] at ha0 ha1 hz HE
        have HB := Lib.hid hbel
        clear hca hbel hp hE
        have hi : (k : Int) < (n : Int) := by omega
        obtain ⟨p1, p2⟩ := p
        dsimp only at ha0 ha1 hz HE
        go_wp2
        go_roundw
        case rel => exact ⟨k + 1, e + (p2 - p1), rfl, by go_num, by omega, HE.out, HB.out.alloc HB.out.size _⟩
        case measure => simp [intOf]; omega
      · have HB := Lib.hid hbel
        have HE : Hid (e = smV zs) := Lib.hid (by rw [hE.out, List.take_of_length_le (by rw [← hn.out]; omega), HR.out])
        clear hbel hE
        go_wp2
        go_ret
        exact ⟨ret_i HE.out, HB.out⟩
end Go.Proofs.Ytejmfhmglbggnaa.Wn
