/- Contracts of the kit's Light, LightNet and Pick. No conditions. -/
import Derived.Test.YtffddkbphdjehaaLkSm
namespace Go.Proofs.Ytffddkbphdjehaa.Lk
open Go.ChangeShapes Go.WideShapes Go.ChangeAt Go.RowKit
open Wn
set_option linter.unusedVariables false
set_option linter.unusedSimpArgs false
attribute [local go_sem] Oper.semAt_some

/-- true tells so much -/
def TB (Q : Prop) (w : World) (e : Ending) (w' : World) : Prop := ∃ b : Bool, e = .returned (.bool b) ∧ Hid (b = true → Q) ∧ Below w.heap.size w w'
theorem TB.no {Q : Prop} {w w' : World} (h : Below w.heap.size w w') : TB Q w (.returned (.bool false)) w' := ⟨false, rfl, Lib.hid fun h => (by cases h), h⟩
theorem TB.yes {Q : Prop} {w w' : World} (q : Q) (h : Below w.heap.size w w') : TB Q w (.returned (.bool true)) w' := ⟨true, rfl, Lib.hid fun _ => q, h⟩

set_option maxHeartbeats 2000000 in
theorem light_any (x : NtA) (w : World) (h : NtOk w (· < w.heap.size) x) : Calls Try.prog 12 #[.slice x.p x.rs.length x.c, .int .i64 60, .int .i64 60] w (TB (x.rs.length ≤ 60 ∧ ∀ r ∈ x.rs, r.z.length ≤ 60) w) := by
  obtain ⟨n, hn⟩ : ∃ n, n = x.rs.length := ⟨_, rfl⟩
  have HR : Hid (∀ k, k < n → ∃ r ad, x.rs[k]? = some r ∧ x.p = some ad ∧ w.cell? (ad.add k) = some (.slice r.p r.z.length r.c)) := Lib.hid fun k hk => by
    obtain ⟨r, hr⟩ : ∃ r, x.rs[k]? = some r := ⟨_, List.getElem?_eq_getElem (by rw [← hn]; exact hk)⟩
    obtain ⟨ad, had, hS, hc1, hok⟩ := h.row_ hr
    exact ⟨r, ad, hr, had, by simpa using hc1⟩
  have HE : Hid (∀ (P : RwA → Prop), (∀ (k : Nat) (r : RwA), k < n → x.rs[k]? = some r → P r) → ∀ r ∈ x.rs, P r) := Lib.hid fun P hP r hr => by
    obtain ⟨k, hk⟩ := List.getElem?_of_mem hr
    exact hP k r (by rw [hn]; exact (List.getElem?_eq_some_iff.1 hk).1) hk
  rw [← hn]
  clear hn h
  obtain ⟨A, hA⟩ : ∃ A, A = x.p := ⟨_, rfl⟩
  rw [← hA] at HR ⊢
  clear hA
  by_cases h0 : (60 : Int) < n
  · go_enter Try.func12, Try.ntmps12
    go_wp2
    go_ret
    exact TB.no (Below.refl _ _)
  · go_enter Try.func12, Try.ntmps12
    go_wp2
    go_loopw [7] (fun v7 wr => ∃ k : Nat, v7 = .int .i64 k ∧ k ≤ n ∧ Hid (∀ (i : Nat) (r : RwA), i < k → x.rs[i]? = some r → r.z.length ≤ 60) ∧ w = wr) (fun v7 _ => n - (intOf v7).toNat)
    case atStart => exact ⟨0, rfl, by omega, Lib.hid fun i r hi => by omega, rfl⟩
    case round =>
      obtain ⟨k, rfl, hk, HG, rfl⟩ := hrel
      by_cases hlt : k < n
      · have hi : (k : Int) < (n : Int) := by omega
        obtain ⟨r, ad, hr, rfl, hc⟩ := HR.out k hlt
        have HRK := Lib.hid hr
        clear hr
        obtain ⟨m, hm⟩ : ∃ m, m = r.z.length := ⟨_, rfl⟩
        rw [← hm] at hc
        have HM := Lib.hid hm
        clear hm
        by_cases h6 : (60 : Int) < m
        · go_wp2
          go_ret
          exact TB.no (Below.refl _ _)
        · go_wp2
          go_roundw
          case rel => exact ⟨k + 1, by go_num, by omega, Lib.hid fun i r' hi' hr' => (by
            rcases Nat.lt_or_ge i k with h | h
            · exact HG.out i r' h hr'
            · obtain rfl : i = k := by omega
              rw [HRK.out] at hr'; injection hr' with hr'; subst hr'; rw [← HM.out]; omega), (by first | rfl | trivial)⟩
          case measure => simp [intOf]; omega
      · have HZ : Hid (n ≤ 60 ∧ ∀ r ∈ x.rs, r.z.length ≤ 60) := Lib.hid ⟨by omega, HE.out _ fun i r hi hr => HG.out i r (by omega) hr⟩
        clear HG HE
        go_wp2
        go_ret
        exact TB.yes HZ.out (Below.refl _ _)
set_option maxHeartbeats 2000000 in
theorem lightNet_any (x : NtA) (w : World) (h : NtOk w (· < w.heap.size) x) : Calls Try.prog 5 #[ntV x, .int .i64 60, .int .i64 60, .int .i64 60] w (TB (Lt x) w) := by
  obtain ⟨n, hn⟩ : ∃ n, n = x.ls.length := ⟨_, rfl⟩
  have B0 := Lib.hid ((Below.refl w.heap.size w).alloc (Nat.le_refl _) (.cells #[.int .i64 x.hz, .slice x.p x.rs.length x.c, .slice x.q n x.d] 25))
  have N0 := Lib.hid (Blk.new w 25 [.int .i64 x.hz, .slice x.p x.rs.length x.c, .slice x.q n x.d])
  have CL := Lib.hid (light_any x _ (h.later B0.out))
  have HR : Hid (∀ W, Below w.heap.size w W → ∀ k, k < n → ∃ r ad, x.ls[k]? = some r ∧ x.q = some ad ∧ W.cell? ⟨(ad.add (k * 7)).block, (ad.add (k * 7)).off + 5, none⟩ = some (.slice r.p r.l.op.length r.c) ∧ W.cell? ⟨(ad.add (k * 7)).block, (ad.add (k * 7)).off + 6, none⟩ = some (.slice r.q r.l.cl.length r.d)) := Lib.hid fun W hW k hk => by
    obtain ⟨r, hr⟩ : ∃ r, x.ls[k]? = some r := ⟨_, List.getElem?_eq_getElem (by rw [← hn]; exact hk)⟩
    obtain ⟨ad, had, hS, ⟨_, _, _, _, _, h5, h6⟩, hok⟩ := (h.later hW).link hr
    exact ⟨r, ad, hr, had, h5, h6⟩
  have HE : Hid (∀ (P : LnA → Prop), (∀ (k : Nat) (r : LnA), k < n → x.ls[k]? = some r → P r) → ∀ r ∈ x.ls, P r) := Lib.hid fun P hP r hr => by
    obtain ⟨k, hk⟩ := List.getElem?_of_mem hr
    exact hP k r (by rw [hn]; exact (List.getElem?_eq_some_iff.1 hk).1) hk
  show Calls _ _ #[.agg #[.int .i64 x.hz, .slice x.p x.rs.length x.c, .slice x.q x.ls.length x.d], .int .i64 60, .int .i64 60, .int .i64 60] _ _
  rw [← hn]
  have Hn := Lib.hid hn
  clear hn h
  obtain ⟨A, hA⟩ : ∃ A, A = x.q := ⟨_, rfl⟩
  rw [← hA] at B0 N0 CL HR ⊢
  clear hA
  have n1 := bc1 N0.out
  have n2 := bc2 N0.out
  by_cases h0 : (60 : Int) < n
  · go_enter Try.func5, Try.ntmps5
    go_wp2_with (go_at_call 12; refine CL.out.mono ?_; rintro e w1 ⟨b, rfl, HB, hb1⟩; cases b; all_goals (have m2 := bc2 (N0.out.after hb1)))
    all_goals go_ret
    all_goals exact TB.no (B0.out.trans (hb1.mono B0.out.size))
  · go_enter Try.func5, Try.ntmps5
    go_wp2_with (go_at_call 12; refine CL.out.mono ?_; rintro e w1 ⟨b, rfl, HB, hb1⟩; cases b; all_goals (have m2 := bc2 (N0.out.after hb1)))
    · go_ret
      exact TB.no (B0.out.trans (hb1.mono B0.out.size))
    · have HB1 := Lib.hid (B0.out.trans (hb1.mono B0.out.size))
      have HBL := Lib.hid (HB.out (by first | rfl | trivial))
      clear hb1 HB CL
      go_loopw [9] (fun v9 wr => ∃ k : Nat, v9 = .int .i64 k ∧ k ≤ n ∧ Hid (∀ (i : Nat) (r : LnA), i < k → x.ls[i]? = some r → r.l.op.length ≤ 60 ∧ r.l.cl.length ≤ 60) ∧ w1 = wr) (fun v9 _ => n - (intOf v9).toNat)
      case atStart => exact ⟨0, rfl, by omega, Lib.hid fun i r hi => by omega, rfl⟩
      case round =>
        obtain ⟨k, rfl, hk, HG, rfl⟩ := hrel
        by_cases hlt : k < n
        · have hi : (k : Int) < (n : Int) := by omega
          obtain ⟨r, ad, hr, rfl, hc5, hc6⟩ := HR.out w1 HB1.out k hlt
          have HRK := Lib.hid hr
          clear hr
          obtain ⟨m, hm⟩ : ∃ m, m = r.l.op.length := ⟨_, rfl⟩
          obtain ⟨o, ho⟩ : ∃ o, o = r.l.cl.length := ⟨_, rfl⟩
          rw [← hm] at hc5
          rw [← ho] at hc6
          have HM := Lib.hid hm
          have HO := Lib.hid ho
          clear hm ho
          by_cases h6 : (60 : Int) < m
          · go_wp2
            go_ret
            exact TB.no HB1.out
          · by_cases h7 : (60 : Int) < o
            · go_wp2
              go_ret
              exact TB.no HB1.out
            · go_wp2
              go_roundw
              case rel => exact ⟨k + 1, by go_num, by omega, Lib.hid fun i r' hi' hr' => (by
                rcases Nat.lt_or_ge i k with h | h
                · exact HG.out i r' h hr'
                · obtain rfl : i = k := by omega
                  rw [HRK.out] at hr'; injection hr' with hr'; subst hr'; rw [← HM.out, ← HO.out]; omega), (by first | rfl | trivial)⟩
              case measure => simp [intOf]; omega
        · have HZ : Hid (Lt x) := Lib.hid ⟨by have := HBL.out.1; omega, by have := Hn.out; omega, fun r hr => by have := HBL.out.2 r hr; omega,
            HE.out _ fun i r hi hr => by have := HG.out i r (by omega) hr; omega, HE.out _ fun i r hi hr => by have := HG.out i r (by omega) hr; omega⟩
          clear HG HE HBL
          go_wp2
          go_ret
          exact TB.yes HZ.out HB1.out
/-- what Pick tells, of a number above 0 -/
def PickPost (m : Int) (w : World) (e : Ending) (w' : World) : Prop := ∃ r : Nat, e = .returned (.int .i64 r) ∧ Hid ((r : Int) < m) ∧ w = w'
theorem pick_mk {m r : Int} {w : World} (h0 : 0 ≤ r) (h1 : r < m) : PickPost m w (.returned (.int .i64 r)) w :=
  ⟨r.toNat, by rw [Int.toNat_of_nonneg h0], by show _ < _; omega, rfl⟩
theorem pick_any (k m : Int) (w : World) (h0 : -9223372036854775808 ≤ k) (h1 : k ≤ 9223372036854775807) (hm0 : 1 ≤ m) (hm : m ≤ 1000000) :
    Calls Try.prog 7 #[.int .i64 k, .int .i64 m] w (PickPost m w) := by
  by_cases hk : 0 ≤ k
  · have H1 := Int.emod_nonneg k (show m ≠ 0 by omega)
    have H2 := Int.emod_lt_of_pos k (show 0 < m by omega)
    go_enter Try.func7, Try.ntmps7
    go_wp2
    go_ret
    exact pick_mk (by omega) (by omega)
  · have H1 : -m < k.tmod m := Int.lt_tmod_of_pos k (by omega)
    have H2 : k.tmod m < m := Int.tmod_lt_of_pos k (by omega)
    go_enter Try.func7, Try.ntmps7
    go_wp2
    all_goals
      go_ret
      exact pick_mk (by omega) (by omega)
end Go.Proofs.Ytffddkbphdjehaa.Lk
