/- The document's answers of Perm and Uniq at any row of numbers below a million. -/
import Derived.Test.YtcjpimocbgeheaaOrderRefNums
import Derived.Test.YtcjpimocbgeheaaOrderRefSorted
namespace Go.Proofs.Ytcjpimocbgeheaa.Od
open Go.ChangeShapes Go.WideShapes Go.ChangeAt Go.RowKit
set_option linter.unusedVariables false

theorem refPerm2_any (w : World) (A : Option Addr) (n c : Nat) (zs : List Int) (hn : Hid (n = zs.length)) (hN : n ≤ 1000000) (hx : Rd w (· < w.heap.size) A (ic zs)) :
    Calls Try.prog 24 #[.slice A n c] w (IntsNew w (pm zs)) :=
  refPerm_any (fun w A n c xs h1 h2 h3 h4 => refSorted_any w A n c xs h1 h2 h3 h4) w A n c zs hn hN hx

def UqRel (w : World) (n : Nat) (zs : List Int) (v4 v5 : Value) (wr : World) : Prop :=
  ∃ (k m : Nat) (V4 : Value), V4 = v4 ∧ v5 = .int .i64 k ∧ k ≤ n ∧ Hid (m = (cpF (sv zs) k).length) ∧ m ≤ k ∧ wr.ownsRow w.heap.size 2 1 V4 m (ic (cpF (sv zs) k)) ∧ Below w.heap.size w wr
theorem uq_same {w wr : World} {n k m : Nat} {zs : List Int} {V4 : Value} (hk : 0 < k) (hlt : k < n) (he : (sv zs).getD k 0 = (sv zs).getD (k - 1) 0) (hm : m = (cpF (sv zs) k).length) (hmk : m ≤ k) (ho : wr.ownsRow w.heap.size 2 1 V4 m (ic (cpF (sv zs) k))) (hb : Below w.heap.size w wr) (q : Nat) :
    UqRel w n zs V4 (.int .i64 ((k : Int) + 1)) (wr.drewN q) :=
  ⟨k + 1, m, V4, rfl, by simp, by omega, by show _ = _; rw [cpF_dup hk he]; exact hm, by omega, by rw [cpF_dup hk he]; exact ho, below_drewN hb q⟩
theorem uq_new {w wr w1 : World} {n k m : Nat} {zs : List Int} {V4 v4 : Value} {z : Int} {o : Obj} (hlt : k < n) (hz : z = (sv zs).getD k 0) (he : k = 0 ∨ ¬ (sv zs).getD k 0 = (sv zs).getD (k - 1) 0) (hm : m = (cpF (sv zs) k).length) (hmk : m ≤ k) (ho : wr.ownsRow w.heap.size 2 1 V4 m (ic (cpF (sv zs) k))) (hb : Below w.heap.size w wr)
    (h4 : w1.ownsRow w.heap.size 2 1 v4 (m + 1) (ic (cpF (sv zs) k ++ [z]))) (hg : (wr.alloc o).grownBy w1 V4.ownBlock) : UqRel w n zs v4 (.int .i64 ((k : Int) + 1)) w1 := by
  have e : cpF (sv zs) (k + 1) = cpF (sv zs) k ++ [z] := by
    rw [hz]
    conv => lhs; unfold cpF
    rw [if_neg (fun h => by rcases he with h1 | h1; exact h.1 h1; exact h1 h.2)]
  exact ⟨k + 1, m + 1, v4, rfl, by simp, by omega, by show _ = _; rw [e, List.length_append, ← hm]; rfl, by omega, by rw [e]; exact h4, (hb.alloc hb.size o).grown hg (by have := hb.size; simp; omega) (fun g hv => (ho.lt g hv).1)⟩

set_option maxHeartbeats 4000000 in
theorem refUniq_any (w : World) (A : Option Addr) (n c : Nat) (zs : List Int) (hn : Hid (n = zs.length)) (hN : n ≤ 1000000) (hx : Rd w (· < w.heap.size) A (ic zs)) :
    Calls Try.prog 28 #[.slice A n c] w (IntsNew w (uq zs)) := by
  have CP := Lib.hid (refPerm2_any w A n c zs hn hN hx)
  have HX0 := Lib.hid hx
  clear hx
  go_enter Try.func28, Try.ntmps28
  go_wp2_with fail
  refine CP.out.mono ?_
  rintro e w7 ⟨A3, n3, c3, rfl, hn3, hc3, hr3, q3⟩
  have h3 : n = n3 := by rw [hn3.out, pm_length, hn.out]
  subst h3
  have HX := Lib.hid (HX0.out.later q3)
  have HP := Lib.hid hr3.old
  have HB7 := Lib.hid q3
  have H0 := Lib.hid (show UqRel w7 n zs (.slice none 0 0) (.int .i64 ((0 : Nat) : Int)) w7 from ⟨0, 0, _, rfl, rfl, by omega, rfl, by omega, World.ownsRow_nil _ _ _ _, Below.refl _ _⟩)
  clear CP q3 hr3 HX0
  go_wp2_with fail
  go_loopw [4, 5] (fun v4 v5 wr => UqRel w7 n zs v4 v5 wr) (fun _ v _ => n - (intOf v).toNat)
  case atStart => exact H0.out
  case round =>
    obtain ⟨k, m, V4, rfl, rfl, hk, hm, hmk, ho, hbel⟩ := hrel
    clear H0
    have hsz := hbel.size
    by_cases hlt : k < n
    · have hkz : k < zs.length := by rw [← hn.out]; exact hlt
      obtain ⟨q, hq, hqz, hsv⟩ := sv_pm zs k hkz
      obtain ⟨pd, rfl, _, pcell⟩ := (HP.out.below2 hbel).at_ (k := k) (by rw [pm_length]; exact hkz)
      obtain ⟨ld, rfl, _, lcell⟩ := (HX.out.below2 hbel).at_ (k := q) hqz
      have hp0 := pcell k (by rw [pm_length]; exact hkz)
      have hl0 := lcell q hqz
      rw [hq] at hp0
      rw [← hsv] at hl0
      have hqn : q < n := by rw [hn.out]; exact hqz
      obtain ⟨z, hz⟩ : ∃ z, z = (sv zs).getD k 0 := ⟨_, rfl⟩
      rw [← hz] at hl0
      have HZ := Lib.hid hz
      have HB := Lib.hid hbel
      have HO := Lib.hid (show ∀ a, Hid ((wr.drewN a).ownsRow w7.heap.size 2 1 V4 m (ic (cpF (sv zs) k))) from fun a => ho)
      by_cases hk0 : k = 0
      · have HK0 := Lib.hid hk0
        have e1 : ((k : Int) == 0) = true := by simpa using hk0
        have e1' : (k == 0) = true := by simpa using hk0
        have HN := Lib.hid (fun a o w1 v4 h4 hg => uq_new (w := w7) (wr := wr.drewN a) (w1 := w1) (o := o) (v4 := v4) (z := z) hlt HZ.out (.inl HK0.out) hm.out hmk ho (below_drewN hbel a) h4 hg)
        have hkk : k < 1 := by omega
        clear hk0 hq hqz hsv pcell lcell hz ho hbel hkz
        go_wp2
        go_quiet (fail)
        go_wp2_with (at_builtin; refine wpList_append_num rfl (.tmp 34) (.tmp 42) 31 2 rfl Try.underlying31 info_i64 w7.heap.size V4 m (cpF (sv zs) k) z rfl rfl (HO.out _) (by omega) hsz ?_; intro v4' w2 ho4' hg4' hat4')
        go_roundw
        case rel => exact HN.out _ _ _ _ ho4'.out hg4'.out
        case measure => simp [intOf]; omega
      · have e1 : ((k : Int) == 0) = false := by simp; omega
        have e1' : (k == 0) = false := by simpa using hk0
        obtain ⟨q', hq', hqz', hsv'⟩ := sv_pm zs (k - 1) (by omega)
        have hp1 := pcell (k - 1) (by rw [pm_length]; omega)
        have hl1 := lcell q' hqz'
        rw [hq'] at hp1
        rw [← hsv'] at hl1
        have hqn' : q' < n := by rw [hn.out]; exact hqz'
        obtain ⟨y, hy⟩ : ∃ y, y = (sv zs).getD (k - 1) 0 := ⟨_, rfl⟩
        rw [← hy] at hl1
        have HY := Lib.hid hy
        have hk00 : 0 < k := by omega
        by_cases hzy : z = y
        · have HN := Lib.hid (fun a => uq_same (w := w7) (wr := wr) hk00 hlt (by rw [← HZ.out, ← HY.out]; exact hzy) hm.out hmk ho hbel a)
          have e2 : (z != y) = false := by simpa using hzy
          clear hzy hk0 hq hqz hsv pcell lcell hz ho hbel hq' hqz' hsv' hy hkz
          go_wp2
          have ew : IntKind.i64.wrap ((k : Int) - 1) = (k : Int) - 1 := IntWalk.i64_in _ (by omega)
          have et : ((k : Int) - 1).toNat = k - 1 := by omega
          have eb : (k : Int) - 1 < (n : Int) := by omega
          have ec : (1 : Int) ≤ (k : Int) := by omega
          have ed : (k : Int) < (n : Int) + 1 := by omega
          have ef : (0 : Int) ≤ (k : Int) - 1 := by omega
          have eg : (k : Int) < (n : Int) := by omega
          have eh : (q : Int) < (n : Int) := by omega
          have ei : (q' : Int) < (n : Int) := by omega
          go_quiet (fail)
          clear ew et eb ec ed ef eg eh ei
          go_wp2
          go_roundw
          case rel => exact HN.out _
          case measure => simp [intOf]; omega
        · have HN := Lib.hid (fun a o w1 v4 h4 hg => uq_new (w := w7) (wr := wr.drewN a) (w1 := w1) (o := o) (v4 := v4) (z := z) hlt HZ.out (.inr (by rw [← HZ.out, ← HY.out]; exact hzy)) hm.out hmk ho (below_drewN hbel a) h4 hg)
          have e2 : (z != y) = true := by simpa using hzy
          clear hzy hk0 hq hqz hsv pcell lcell hz ho hbel hq' hqz' hsv' hy hkz
          go_wp2
          have ew : IntKind.i64.wrap ((k : Int) - 1) = (k : Int) - 1 := IntWalk.i64_in _ (by omega)
          have et : ((k : Int) - 1).toNat = k - 1 := by omega
          have eb : (k : Int) - 1 < (n : Int) := by omega
          have ec : (1 : Int) ≤ (k : Int) := by omega
          have ed : (k : Int) < (n : Int) + 1 := by omega
          have ef : (0 : Int) ≤ (k : Int) - 1 := by omega
          have eg : (k : Int) < (n : Int) := by omega
          have eh : (q : Int) < (n : Int) := by omega
          have ei : (q' : Int) < (n : Int) := by omega
          go_quiet (fail)
          clear ew et eb ec ed ef eg eh ei
          go_wp2_with (at_builtin; refine wpList_append_num rfl (.tmp 34) (.tmp 42) 31 2 rfl Try.underlying31 info_i64 w7.heap.size V4 m (cpF (sv zs) k) z rfl rfl (HO.out _) (by omega) hsz ?_; intro v4' w2 ho4' hg4' hat4')
          go_roundw
          case rel => exact HN.out _ _ _ _ ho4'.out hg4'.out
          case measure => simp [intOf]; omega
    · have hkn : n = k := by omega
      subst hkn
      have e5 : cpF (sv zs) n = uq zs := by unfold uq; rw [hn.out]
      rw [e5] at ho hm
      obtain ⟨A6, c6, hv6, hc6, hr6⟩ := own_form ho
      subst hv6
      have HR := Lib.hid (hr6.more (S' := fun b => w.heap.size ≤ b ∧ b < wr.heap.size) (fun b hb => ⟨by have := HB7.out.size; omega, hb.2⟩))
      have HB := Lib.hid (keep_trans HB7.out hbel)
      clear e5 ho hbel hr6 hsz
      go_wp2
      go_ret
      exact ⟨A6, m, c6, rfl, hm, hc6, HR.out, HB.out⟩
end Go.Proofs.Ytcjpimocbgeheaa.Od
