/- Contracts of package window's small functions: within, finite, Check, Good and Sum, each proved by walking its text. Conditions: rows hold fewer than a million windows. -/
import Derived.Test.YtffddkbphdjehaaWinBase
namespace Go.Proofs.Ytffddkbphdjehaa.Wn
open Go.ChangeShapes Go.WideShapes Go.ChangeAt Go.RowKit
set_option linter.unusedVariables false
set_option linter.unusedSimpArgs false

theorem checkV_tick (x : Int) : Tk.checkV x = if tick x = true then 0 else 9 := by simp [Tk.checkV, tick]
theorem finite_any (x : Int) (w : World) : Calls Try.prog 37 #[.int .i64 x] w fun e w' => e = .returned (.bool (tick x)) ∧ w = w' := by
  by_cases h : tick x = true
  · have h' := (tick_iff x).1 h
    go_enter Try.func37, Try.ntmps37
    go_wp2_with (go_at_call 13; refine (Tk.check_ok x w h'.1 h'.2).mono ?_; rintro e w1 ⟨rfl, rfl⟩)
    go_ret
    exact ⟨ret_b (by simp [h]), rfl⟩
  · have h' : x < 0 ∨ 1099511627776 < x := by
      have h2 : ¬ (0 ≤ x ∧ x ≤ 1099511627776) := fun h' => h ((tick_iff x).2 h')
      omega
    go_enter Try.func37, Try.ntmps37
    go_wp2_with (go_at_call 13; refine (Tk.check_bad x w h').mono ?_; rintro e w1 ⟨rfl, rfl⟩)
    go_ret
    exact ⟨ret_b (by simp [h]), rfl⟩

/-- times as a value -/
def tv (t : Tm) : Value := .agg #[.int .i64 t.f, .int .i64 t.e, .int .i64 t.l]

set_option maxHeartbeats 1000000 in
theorem good_any (w : World) (A : Option Addr) (n c : Nat) (zs : List Win) (hn : Hid (n = zs.length)) (hN : n ≤ 1000000) (hx : Rd w (· < w.heap.size) A (kc zs)) :
    Calls Try.prog 14 #[.slice A n c] w fun e w' => e = .returned (.bool (good zs)) ∧ Below w.heap.size w w' := by
  have HX := Lib.hid hx
  clear hx
  go_enter Try.func14, Try.ntmps14
  go_wp2
  go_loopw [3, 8] (fun v3 v8 wr => ∃ (k : Nat) (e : Int), v3 = .int .i64 e ∧ v8 = .int .i64 k ∧ k ≤ n ∧ Hid (good zs = goodB e (zs.drop k)) ∧ Below w.heap.size w wr) (fun _ v _ => n - (intOf v).toNat)
  case atStart => exact ⟨0, -1, rfl, rfl, by omega, by show _ = _; rfl, Below.refl _ _⟩
  case round =>
    obtain ⟨k, e, rfl, rfl, hk, hG, hbel⟩ := hrel
    by_cases hlt : k < n
    · have hkl : k < zs.length := by rw [← hn.out]; exact hlt
      obtain ⟨ad, rfl, hS, hca⟩ := (HX.out.below2 hbel).key2 (k := k) hkl
      obtain ⟨ha0, ha1⟩ := hca k hkl
      obtain ⟨p, hp⟩ : ∃ p, p = zs.getD k (0, 0) := ⟨_, rfl⟩
      have hdr : zs.drop k = p :: zs.drop (k + 1) := by
        rw [List.drop_eq_getElem_cons hkl, hp]
        simp [List.getD_eq_getElem?_getD, List.getElem?_eq_getElem hkl]
      rw [← hp] at ha0 ha1
      have HG : Hid (good zs = if p.1 ≤ e ∨ p.2 ≤ p.1 ∨ 2199023255552 < p.2 then false else goodB p.2 (zs.drop (k + 1))) := Lib.hid (by
        have := hG.out; rw [hdr] at this; exact this)
      have HB := Lib.hid hbel
      clear hca hbel hp hdr hG
      have hi : (k : Int) < (n : Int) := by omega
      obtain ⟨p1, p2⟩ := p
      dsimp only at ha0 ha1 HG
      by_cases c1 : p1 ≤ e
      · have HR : Hid (false = good zs) := Lib.hid (by rw [HG.out, if_pos (.inl c1)])
        clear HG
        go_wp2
        go_ret
        exact ⟨ret_b HR.out.symm, HB.out.alloc HB.out.size _⟩
      · by_cases c2 : p2 ≤ p1
        · have HR : Hid (false = good zs) := Lib.hid (by rw [HG.out, if_pos (.inr (.inl c2))])
          clear HG
          go_wp2
          go_ret
          exact ⟨ret_b HR.out.symm, HB.out.alloc HB.out.size _⟩
        · by_cases c3 : 2199023255552 < p2
          · have HR : Hid (false = good zs) := Lib.hid (by rw [HG.out, if_pos (.inr (.inr c3))])
            clear HG
            go_wp2
            go_ret
            exact ⟨ret_b HR.out.symm, HB.out.alloc HB.out.size _⟩
          · have HR : Hid (good zs = goodB p2 (zs.drop (k + 1))) := Lib.hid (by rw [HG.out, if_neg (by omega)])
            clear HG
            go_wp2
            go_roundw
            case rel => exact ⟨k + 1, p2, rfl, by go_num, by omega, HR.out, HB.out.alloc HB.out.size _⟩
            case measure => simp [intOf]; omega
    · have HB := Lib.hid hbel
      have HR : Hid (good zs = true) := Lib.hid (by
        have := hG.out; rw [List.drop_eq_nil_of_le (by rw [← hn.out]; omega)] at this; exact this)
      clear hbel hG
      go_wp2
      go_ret
      exact ⟨ret_b HR.out, HB.out⟩

theorem sm_take_succ (zs : List Win) (k : Nat) (hk : k < zs.length) : sm (zs.take (k + 1)) = sm (zs.take k) + ((zs.getD k (0, 0)).2 - (zs.getD k (0, 0)).1) := by
  rw [List.take_add_one, List.getElem?_eq_getElem hk]
  simp only [Option.toList]
  rw [sm_snoc]
  simp [List.getD_eq_getElem?_getD, List.getElem?_eq_getElem hk]
theorem Gd.take {lo : Int} {l : List Win} (h : Gd lo l) (k : Nat) : Gd lo (l.take k) := by
  induction l generalizing lo k with
  | nil => simp [Gd]
  | cons w r ih =>
    cases k with
    | zero => trivial
    | succ k => exact ⟨h.1, h.2.1, h.2.2.1, ih h.2.2.2 k⟩
/-- what Sum tells -/
def smV (l : List Win) : Int := if good l = true then sm l else 0
end Go.Proofs.Ytffddkbphdjehaa.Wn
