/- Contract of the kit's LightNet: at most 60 of each. No conditions. -/
import Derived.Test.YtffddkbphdjehaaLkKit
import Derived.Test.YtffddkbphdjehaaLkSet
namespace Go.Proofs.Ytffddkbphdjehaa.Lk
open Go.ChangeShapes Go.WideShapes Go.ChangeAt Go.RowKit
open Wn
set_option linter.unusedVariables false
set_option linter.unusedSimpArgs false
attribute [local go_sem] Oper.semAt_some
/-- at most 60 of each -/
structure Lt6 (x : NtA) : Prop where
  r : x.rs.length ≤ 60
  l : x.ls.length ≤ 60
  rz : ∀ r ∈ x.rs, r.z.length ≤ 60
  lo : ∀ r ∈ x.ls, r.l.op.length ≤ 60
  lc : ∀ r ∈ x.ls, r.l.cl.length ≤ 60
theorem Lt6.lt {x : NtA} (h : Lt6 x) : Lt x := ⟨by have := h.r; omega, by have := h.l; omega, fun r hr => by have := h.rz r hr; omega, fun r hr => by have := h.lo r hr; omega, fun r hr => by have := h.lc r hr; omega⟩
theorem Lt6.net {x y : NtA} (h : Lt6 x) (e : y.net = x.net) : Lt6 y := by
  have e1 : y.rs.map (·.z) = x.rs.map (·.z) := congrArg Nt.cl e
  have e2 : y.ls.map (·.l) = x.ls.map (·.l) := congrArg Nt.lk e
  have l1 := congrArg List.length e1
  have l2 := congrArg List.length e2
  simp only [List.length_map] at l1 l2
  refine ⟨by rw [l1]; exact h.r, by rw [l2]; exact h.l, fun r hr => ?_, fun r hr => ?_, fun r hr => ?_⟩
  · have : r.z ∈ x.rs.map (·.z) := by rw [← e1]; exact List.mem_map.2 ⟨r, hr, rfl⟩
    obtain ⟨q, hq, hz⟩ := List.mem_map.1 this
    rw [← hz]; exact h.rz q hq
  · have : r.l ∈ x.ls.map (·.l) := by rw [← e2]; exact List.mem_map.2 ⟨r, hr, rfl⟩
    obtain ⟨q, hq, hz⟩ := List.mem_map.1 this
    rw [← hz]; exact h.lo q hq
  · have : r.l ∈ x.ls.map (·.l) := by rw [← e2]; exact List.mem_map.2 ⟨r, hr, rfl⟩
    obtain ⟨q, hq, hz⟩ := List.mem_map.1 this
    rw [← hz]; exact h.lc q hq
theorem Lt6.setL {y : NtA} (h : Lt6 y) (k : Nat) {kz : LnA} (ho : kz.l.op.length ≤ 200) (hc : kz.l.cl.length ≤ 200) : Lt { y with ls := y.ls.set k kz } := by
  have g := h.lt
  refine ⟨g.r, by show (y.ls.set k kz).length ≤ 10000; rw [List.length_set]; exact g.l, g.rz, fun r hr => ?_, fun r hr => ?_⟩
  · rcases List.mem_or_eq_of_mem_set hr with hm | hm
    · exact g.lo r hm
    · rw [hm]; omega
  · rcases List.mem_or_eq_of_mem_set hr with hm | hm
    · exact g.lc r hm
    · rw [hm]; omega
theorem Lt6.setR {y : NtA} (h : Lt6 y) (k : Nat) {kz : RwA} (ho : kz.z.length ≤ 200) : Lt { y with rs := y.rs.set k kz } := by
  have g := h.lt
  refine ⟨by show (y.rs.set k kz).length ≤ 10000; rw [List.length_set]; exact g.r, g.l, fun r hr => ?_, g.lo, g.lc⟩
  rcases List.mem_or_eq_of_mem_set hr with hm | hm
  · exact g.rz r hm
  · rw [hm]; omega
set_option maxHeartbeats 2000000 in
theorem lightNet6_any (x : NtA) (w : World) (h : NtOk w (· < w.heap.size) x) : Calls Try.prog 5 #[ntV x, .int .i64 60, .int .i64 60, .int .i64 60] w (TB (Lt6 x) w) := by
  obtain ⟨n, hn⟩ : ∃ n, n = x.ls.length := ⟨_, rfl⟩
  have B0 := Lib.hid ((Below.refl w.heap.size w).alloc (Nat.le_refl _) (.cells #[.int .i64 x.hz, .slice x.p x.rs.length x.c, .slice x.q n x.d] 25))
  have N0 := Lib.hid (Blk.new w 25 [.int .i64 x.hz, .slice x.p x.rs.length x.c, .slice x.q n x.d])
  have CL := Lib.hid (light_any x _ (h.later B0.out))
  have HR : Hid (∀ W, Below w.heap.size w W → ∀ k, k < n → ∃ r ad, x.ls[k]? = some r ∧ x.q = some ad ∧ W.cell? ⟨(ad.add (k * 7)).block, (ad.add (k * 7)).off + 5, none⟩ = some (.slice r.p r.l.op.length r.c) ∧ W.cell? ⟨(ad.add (k * 7)).block, (ad.add (k * 7)).off + 6, none⟩ = some (.slice r.q r.l.cl.length r.d)) := Lib.hid fun W hW k hk => by
    obtain ⟨r, hr⟩ : ∃ r, x.ls[k]? = some r := ⟨_, List.getElem?_eq_getElem (by rw [← hn]; exact hk)⟩
    obtain ⟨ad, had, hS, ⟨_, _, _, _, _, h5, h6⟩, hok⟩ := (h.later hW).link hr
    exact ⟨r, ad, hr, had, h5, h6⟩
  have HE : Hid (∀ (P : LnA → Prop), (∀ (k : Nat) (r : LnA), k < n → x.ls[k]? = some r → P r) → ∀ r ∈ x.ls, P r) := Lib.hid fun P hP r hr => by
    obtain ⟨k, hk⟩ := List.getElem?_of_mem hr
    exact hP k r (by rw [hn]; exact (List.getElem?_eq_some_iff.1 hk).1) hk
  show Calls _ _ #[.agg #[.int .i64 x.hz, .slice x.p x.rs.length x.c, .slice x.q x.ls.length x.d], .int .i64 60, .int .i64 60, .int .i64 60] _ _
  rw [← hn]
  have Hn := Lib.hid hn
  clear hn h
  obtain ⟨A, hA⟩ : ∃ A, A = x.q := ⟨_, rfl⟩
  rw [← hA] at B0 N0 CL HR ⊢
  clear hA
  have n1 := bc1 N0.out
  have n2 := bc2 N0.out
  by_cases h0 : (60 : Int) < n
  · go_enter Try.func5, Try.ntmps5
    go_wp2_with (go_at_call 12; refine CL.out.mono ?_; rintro e w1 ⟨b, rfl, HB, hb1⟩; cases b; all_goals (have m2 := bc2 (N0.out.after hb1)))
    all_goals go_ret
    all_goals exact TB.no (B0.out.trans (hb1.mono B0.out.size))
  · go_enter Try.func5, Try.ntmps5
    go_wp2_with (go_at_call 12; refine CL.out.mono ?_; rintro e w1 ⟨b, rfl, HB, hb1⟩; cases b; all_goals (have m2 := bc2 (N0.out.after hb1)))
    · go_ret
      exact TB.no (B0.out.trans (hb1.mono B0.out.size))
    · have HB1 := Lib.hid (B0.out.trans (hb1.mono B0.out.size))
      have HBL := Lib.hid (HB.out (by first | rfl | trivial))
      clear hb1 HB CL
      go_loopw [9] (fun v9 wr => ∃ k : Nat, v9 = .int .i64 k ∧ k ≤ n ∧ Hid (∀ (i : Nat) (r : LnA), i < k → x.ls[i]? = some r → r.l.op.length ≤ 60 ∧ r.l.cl.length ≤ 60) ∧ w1 = wr) (fun v9 _ => n - (intOf v9).toNat)
      case atStart => exact ⟨0, rfl, by omega, Lib.hid fun i r hi => by omega, rfl⟩
      case round =>
        obtain ⟨k, rfl, hk, HG, rfl⟩ := hrel
        by_cases hlt : k < n
        · have hi : (k : Int) < (n : Int) := by omega
          obtain ⟨r, ad, hr, rfl, hc5, hc6⟩ := HR.out w1 HB1.out k hlt
          have HRK := Lib.hid hr
          clear hr
          obtain ⟨m, hm⟩ : ∃ m, m = r.l.op.length := ⟨_, rfl⟩
          obtain ⟨o, ho⟩ : ∃ o, o = r.l.cl.length := ⟨_, rfl⟩
          rw [← hm] at hc5
          rw [← ho] at hc6
          have HM := Lib.hid hm
          have HO := Lib.hid ho
          clear hm ho
          by_cases h6 : (60 : Int) < m
          · go_wp2
            go_ret
            exact TB.no HB1.out
          · by_cases h7 : (60 : Int) < o
            · go_wp2
              go_ret
              exact TB.no HB1.out
            · go_wp2
              go_roundw
              case rel => exact ⟨k + 1, by go_num, by omega, Lib.hid fun i r' hi' hr' => (by
                rcases Nat.lt_or_ge i k with h | h
                · exact HG.out i r' h hr'
                · obtain rfl : i = k := by omega
                  rw [HRK.out] at hr'; injection hr' with hr'; subst hr'; rw [← HM.out, ← HO.out]; omega), (by first | rfl | trivial)⟩
              case measure => simp [intOf]; omega
        · have HZ : Hid (Lt6 x) := Lib.hid ⟨by have := HBL.out.1; omega, by have := Hn.out; omega, fun r hr => by have := HBL.out.2 r hr; omega,
            HE.out _ fun i r hi hr => by have := HG.out i r (by omega) hr; omega, HE.out _ fun i r hi hr => by have := HG.out i r (by omega) hr; omega⟩
          clear HG HE HBL
          go_wp2
          go_ret
          exact TB.yes HZ.out HB1.out
end Go.Proofs.Ytffddkbphdjehaa.Lk
