/- The law OrderFinds walked: it answers true at any numbers, a number. No condition. -/
import Derived.Test.YtcjpimocbgeheaaOrderNums
import Derived.Test.YtcjpimocbgeheaaOrderMovedWalk
namespace Go.Proofs.Ytcjpimocbgeheaa.Od
open Go.ChangeShapes Go.WideShapes Go.ChangeAt Go.RowKit
set_option linter.unusedVariables false

def FdRel (w : World) (B n : Nat) (zs : List Int) (v6 v7 : Value) (wr : World) : Prop :=
  ∃ (k : Nat) (V6 : Value), V6 = v6 ∧ v7 = .int .i64 k ∧ k ≤ n ∧ wr.ownsRow B 2 1 V6 k (ic ((sv zs).take k)) ∧ Below B w wr

theorem fd_next {w wr w1 : World} {B n k q : Nat} {zs : List Int} {V6 v6 : Value} {o : Obj} (hn : n = zs.length) (hlt : k < n) (hB : B = w.heap.size) (hz : (sv zs).getD k 0 = zs.getD q 0) (ho : wr.ownsRow B 2 1 V6 k (ic ((sv zs).take k))) (hb : Below B w wr)
    (h6 : w1.ownsRow B 2 1 v6 (k + 1) (ic ((sv zs).take k ++ [zs.getD q 0]))) (hg : (wr.alloc o).grownBy w1 V6.ownBlock) : FdRel w B n zs v6 (.int .i64 ((k : Int) + 1)) w1 := by
  refine ⟨k + 1, v6, rfl, by simp, by omega, ?_, (hb.alloc (by have := hb.size; omega) o).grown hg (by have := hb.size; simp; omega) (fun g hv => (ho.lt g hv).1)⟩
  rw [take_snocD _ _ (by rw [sv_length]; omega), hz]
  exact h6

set_option maxRecDepth 100000 in
set_option maxHeartbeats 2000000 in
theorem finds_any (w : World) (A : Option Addr) (n c : Nat) (x : Int) (zs : List Int) (hn : Hid (n = zs.length)) (hc : n ≤ c) (hx : Rd w (· < w.heap.size) A (ic zs)) (hN : n ≤ 200) :
    Calls Try.prog 6 #[.slice A n c, .int .i64 x] w fun e w' => e = .returned (.bool true) ∧ Below w.heap.size w w' := by
  have hd : decide ((200 : Int) < (n : Int)) = false := by simp; omega
  go_enter Try.func6, Try.ntmps6
  go_wp2_with fail
  refine (lives_any w).mono ?_
  rintro e w0 ⟨rfl, b0⟩
  have HX := Lib.hid hx
  have HX0 := Lib.hid (hx.later b0)
  clear hx
  go_wp2_with fail
  refine (perm_any w0 A n c zs hn (by omega) hc HX0.out).mono ?_
  rintro e w1 ⟨A1, n1, c1, rfl, hn1, hc1, hr1, q1⟩
  have b1 := keep_trans b0 q1
  have h1k : n = n1 := by rw [hn1.out, pm_length, hn.out]
  subst h1k
  have HP := Lib.hid hr1.old
  have HB1 := Lib.hid b1
  have H0 := Lib.hid (show FdRel w1 w1.heap.size n zs (.slice none 0 0) (.int .i64 ((0 : Nat) : Int)) w1 from ⟨0, _, rfl, rfl, by omega, World.ownsRow_nil _ _ _ _, Below.refl _ _⟩)
  clear hr1 q1 b0 b1
  go_wp2_with fail
  go_loopw [6, 7] (fun v6 v7 wr => FdRel w1 w1.heap.size n zs v6 v7 wr) (fun _ v _ => n - (intOf v).toNat)
  case atStart => exact H0.out
  case round =>
    obtain ⟨k, V6, rfl, rfl, hk, ho, hbel⟩ := hrel
    clear H0
    have hszw := hbel.size
    by_cases hlt : k < n
    · have hkz : k < zs.length := by rw [← hn.out]; exact hlt
      obtain ⟨q, hq, hqz, hsv⟩ := sv_pm zs k hkz
      obtain ⟨ad, rfl, hS, hcell⟩ := ((HX.out.later HB1.out).later hbel).at_ (k := q) hqz
      obtain ⟨pd, rfl, hT, hpell⟩ := (HP.out.later hbel).at_ (k := k) (by rw [pm_length]; exact hkz)
      have hx0 := hcell q hqz
      have hp0 := hpell k (by rw [pm_length]; exact hkz)
      rw [hq] at hp0
      have hqn : q < n := by rw [hn.out]; exact hqz
      have HN := fun o w2 v6 h6 hg => fd_next (w := w1) (w1 := w2) (o := o) (v6 := v6) hn.out hlt rfl hsv ho hbel h6 hg
      have HO := Lib.hid ho
      have HN := Lib.hid HN
      clear hcell hpell hq hsv ho hbel hqz hkz
      obtain ⟨z, hz⟩ : ∃ z, z = zs.getD q 0 := ⟨_, rfl⟩
      rw [← hz] at hx0 HN
      clear hz
      have e1 : decide ((q : Int) < 0) = false := by simp
      have e2 : decide ((n : Int) ≤ (q : Int)) = false := by simp; omega
      go_wp2_with (at_builtin; refine wpList_append_num rfl (.tmp 46) (.tmp 54) 31 2 rfl Try.underlying31 info_i64 w1.heap.size V6 k ((sv zs).take k) z rfl rfl HO (by omega) hszw ?_; intro v6' w2 ho6' hg6' hat6')
      go_roundw
      case rel => exact HN.out _ _ _ ho6'.out hg6'.out
      case measure => simp [intOf]; omega
    · have hkn : n = k := by omega
      subst hkn
      have e5 : (sv zs).take n = sv zs := List.take_of_length_le (by rw [sv_length, ← hn.out]; exact Nat.le_refl _)
      rw [e5] at ho
      obtain ⟨A6, c6, hv6, hc6, hr6⟩ := own_form ho
      subst hv6
      have hns : Hid (n = (sv zs).length) := by show _ = _; rw [sv_length]; exact hn.out
      obtain ⟨wo, hwo⟩ : ∃ wo, wo = wr := ⟨_, rfl⟩
      have hr0 := (HX.out.later HB1.out).later hbel
      have HB := Lib.hid (keep_trans HB1.out hbel)
      have HR := Lib.hid hr6.old
      have HX2 := Lib.hid hr0
      rw [← hwo] at HB HR HX2 ⊢
      clear e5 ho hbel hr0 hr6 hwo hszw
      have hsf := sv_nf zs
      obtain ⟨a, hpa, hal, hai⟩ := place_low hsf x
      obtain ⟨b, hpb, hbl, hbi⟩ := place_up hsf x
      have hab := low_up_le hbl hai hbi hal
      have CL := Lib.hid (Lower_any wo A6 n c6 x (sv zs) hns (by omega) HR.out)
      rw [hpa] at CL
      have HAI := Lib.hid hai
      have HBI := Lib.hid hbi
      have hal' : a ≤ n := by rw [hns.out]; exact hal
      have hbl' : b ≤ n := by rw [hns.out]; exact hbl
      have HPB := Lib.hid hpb
      have HSF := Lib.hid hsf
      clear hpa hpb hai hbi hal hbl hsf
      go_wp2_with fail
      refine CL.out.mono ?_
      rintro e w2 ⟨rfl, q2⟩
      have CU := Lib.hid (Upper_any w2 A6 n c6 x (sv zs) hns (by omega) (HR.out.later q2))
      rw [HPB.out] at CU
      go_wp2_with fail
      refine CU.out.mono ?_
      rintro e w3 ⟨rfl, q3⟩
      have HB3 := Lib.hid (keep_trans HB.out (keep_trans q2 q3))
      have HR3 := Lib.hid (HR.out.later (keep_trans q2 q3))
      have HX3 := Lib.hid (HX2.out.later (keep_trans q2 q3))
      clear CL CU q2 q3 HB HR HX2 HPB
      have e1 : decide ((a : Int) < 0) = false := by simp
      have e2 : decide ((b : Int) < (a : Int)) = false := by simp; omega
      have e3 : decide ((n : Int) < (b : Int)) = false := by simp; omega
      go_wp2
      clear e1 e2 e3
      go_loopw [10] (fun v10 W => ∃ i : Nat, v10 = .int .i64 i ∧ i ≤ n ∧ w3 = W) (fun v _ => n - (intOf v).toNat)
      case atStart => exact ⟨0, rfl, by omega, rfl⟩
      case round =>
        obtain ⟨i, rfl, hi, rfl⟩ := hrel
        by_cases hin : i < n
        · have hiz : i < (sv zs).length := by rw [← hns.out]; exact hin
          obtain ⟨sd, rfl, _, hcell⟩ := HR3.out.at_ (k := i) hiz
          have hs0 := hcell i hiz
          have h1 := HAI.out i hiz
          have h2 := HBI.out i hiz
          obtain ⟨y, hy⟩ : ∃ y, y = (sv zs).getD i 0 := ⟨_, rfl⟩
          rw [← hy] at hs0 h1 h2
          clear hcell hy hiz
          by_cases hlt1 : y < x
          · have g1 : decide (y < x) = true := by simpa using hlt1
            have g2 : i < a := h1.1 hlt1
            have g3 : decide (x < y) = false := by simp; omega
            have g4 : ¬ b ≤ i := fun h => by have := h2.2 h; omega
            have g5 : decide (i < a) = true := by simpa using g2
            have g6 : decide (b ≤ i) = false := by simpa using g4
            clear h1 h2
            go_wp2
            go_roundw
            case rel => exact ⟨i + 1, by go_num, by omega, by trivial⟩
            case measure => simp [intOf]; omega
          · have g2 : ¬ i < a := fun h => hlt1 (h1.2 h)
            have g1 : decide (y < x) = false := by simpa using hlt1
            have g5 : decide (i < a) = false := by simpa using g2
            by_cases hlt2 : x < y
            · have g3 : decide (x < y) = true := by simpa using hlt2
              have g4 : b ≤ i := h2.1 hlt2
              have g6 : decide (b ≤ i) = true := by simpa using g4
              clear h1 h2
              go_wp2
              go_roundw
              case rel => exact ⟨i + 1, by go_num, by omega, by trivial⟩
              case measure => simp [intOf]; omega
            · have g3 : decide (x < y) = false := by simpa using hlt2
              have g4 : ¬ b ≤ i := fun h => hlt2 (h2.2 h)
              have g6 : decide (b ≤ i) = false := by simpa using g4
              clear h1 h2
              go_wp2
              go_roundw
              case rel => exact ⟨i + 1, by go_num, by omega, by trivial⟩
              case measure => simp [intOf]; omega
        · have CQ := Lib.hid (uniq_any w3 A n c zs hn (by omega) hc HX3.out)
          go_wp2_with fail
          refine CQ.out.mono ?_
          rintro e w4 ⟨A4, n4, c4, rfl, hn4, hc4, hr4, q4⟩
          have hu : (uq zs).Pairwise (· < ·) := by unfold uq; exact cpF_rise HSF.out (by rw [sv_length]; exact Nat.le_refl _)
          have hul : (uq zs).length ≤ zs.length := cpF_le _ _
          have hrs : rs (sv zs) = decide ((uq zs).length = zs.length) := by
            have := rs_cpF HSF.out; rw [sv_length] at this; exact this
          have C1 := Lib.hid (rising_any w4 A4 n4 c4 (uq zs) hn4 (by have := hn4.out; have := hn.out; omega) hr4.old)
          rw [rs_of hu] at C1
          have HU := Lib.hid hu
          have hn4n : n4 ≤ n := by rw [hn4.out, hn.out]; exact hul
          have hrs2 : rs (sv zs) = decide (n4 = n) := by rw [hrs, hn4.out, hn.out]
          obtain ⟨bq, hbq⟩ : ∃ bq, bq = decide (n4 = n) := ⟨_, rfl⟩
          rw [← hbq] at hrs2
          have hq1 : ((n4 : Int) == (n : Int)) = bq := by
            rw [hbq, Bool.eq_iff_iff]; simp; omega
          have hq2 : (n4 == n) = bq := by
            rw [hbq, Bool.eq_iff_iff]; simp
          have HRS := Lib.hid hrs2
          clear hu hul hrs hrs2 CQ hbq
          go_wp2_with fail
          refine C1.out.mono ?_
          rintro e w5 ⟨rfl, q5⟩
          have C2 := Lib.hid (rising_any w5 A6 n c6 (sv zs) hns (by omega) (HR3.out.later (keep_trans q4 q5)))
          rw [HRS.out] at C2
          go_wp2_with fail
          refine C2.out.mono ?_
          rintro e w6 ⟨rfl, q6⟩
          have HB6 := Lib.hid (keep_trans HB3.out (keep_trans (keep_trans q4 q5) q6))
          have HR6 := Lib.hid (HR3.out.later (keep_trans (keep_trans q4 q5) q6))
          have HU6 := Lib.hid (hr4.old.later (keep_trans q5 q6))
          clear C1 C2 q4 q5 q6 hr4 HR3 HX3
          go_wp2
          go_loopw [12] (fun v12 W => ∃ j : Nat, v12 = .int .i64 j ∧ j ≤ n ∧ Below w6.heap.size w6 W) (fun v _ => n - (intOf v).toNat)
          case atStart => exact ⟨0, rfl, by omega, Below.refl _ _⟩
          case round =>
            obtain ⟨j, rfl, hj, hbj⟩ := hrel
            have HBJ := Lib.hid hbj
            by_cases hjn : j < n
            · have hjs : j < (sv zs).length := by rw [← hns.out]; exact hjn
              have hmem : (sv zs).getD j 0 ∈ uq zs := by
                unfold uq
                exact cpF_mem (by rw [sv_length]; exact Nat.le_refl _) j (by rw [← hn.out]; exact hjn)
              obtain ⟨kq, hkq, hku, hkv⟩ := place_in HU.out hmem
              obtain ⟨y, hy⟩ : ∃ y, y = (sv zs).getD j 0 := ⟨_, rfl⟩
              rw [← hy] at hkq hkv
              obtain ⟨sd, rfl, _, hcell⟩ := (HR6.out.later hbj).at_ (k := j) hjs
              have hs0 := hcell j hjs
              rw [← hy] at hs0
              have HYS := Lib.hid hs0
              obtain ⟨ud, rfl, _, hucell⟩ := (HU6.out.later hbj).at_ (k := kq) hku
              have C3 := Lib.hid (Lower_any wr (some ud) n4 c4 y (uq zs) hn4 (by omega) (HU6.out.later hbj))
              rw [hkq] at C3
              have hkn4 : kq < n4 := by rw [hn4.out]; exact hku
              have HRJ := Lib.hid (HR6.out.later hbj)
              have HUJ := Lib.hid (HU6.out.later hbj)
              have HKV := Lib.hid hkv
              have HYY := Lib.hid hy
              have HKU := Lib.hid hku
              have HJS := Lib.hid hjs
              clear hcell hucell hkq hkv hy hmem hku hjs hbj
              go_wp2_with fail
              refine C3.out.mono ?_
              rintro e w7 ⟨rfl, q7⟩
              have hs1 : w7.cell? (sd.add j) = some (.int .i64 y) := by
                obtain ⟨sd', e, _, h⟩ := (HRJ.out.later q7).at_ (k := j) HJS.out
                injection e with e
                subst e
                rw [h j HJS.out, HYY.out]
              have hu1 : w7.cell? (ud.add kq) = some (.int .i64 y) := by
                obtain ⟨ud', e, _, h⟩ := (HUJ.out.later q7).at_ (k := kq) HKU.out
                injection e with e
                subst e
                rw [h kq HKU.out, HKV.out]
              have HB7 := Lib.hid (keep_trans HBJ.out q7)
              clear hs0 q7 C3
              have f1 : decide ((kq : Int) < 0) = false := by simp
              have f2 : decide ((n4 : Int) ≤ (kq : Int)) = false := by simp; omega
              have f3 : decide (n4 ≤ kq) = false := by simp; omega
              go_wp2
              have f4 : (kq : Int) < (n4 : Int) := by omega
              have f5 : (j : Int) < (n : Int) := by omega
              go_quiet (fail)
              clear f1 f2 f3 f4 f5
              go_wp2
              go_roundw
              case rel => exact ⟨j + 1, by go_num, by omega, below_drewN HB7.out _⟩
              case measure => simp [intOf]; omega
            · clear hbj
              have f1 : decide (n4 ≤ n) = true := by simpa using hn4n
              go_wp2
              go_ret
              exact ⟨ret_b (by first | rfl | simp | omega), keep_trans HB6.out HBJ.out⟩

theorem finds_all (w : World) (A : Option Addr) (n c : Nat) (x : Int) (zs : List Int) (hn : Hid (n = zs.length)) (hc : n ≤ c) (hx : Rd w (· < w.heap.size) A (ic zs)) :
    Calls Try.prog 6 #[.slice A n c, .int .i64 x] w fun e w' => e = .returned (.bool true) ∧ Below w.heap.size w w' := by
  by_cases h1 : 200 < n
  · have hd : decide ((200 : Int) < (n : Int)) = true := by simp; omega
    go_enter Try.func6, Try.ntmps6
    go_wp2_with (go_at_call 9; refine (lives_any _).mono ?_; rintro e w0 ⟨rfl, hb0⟩)
    go_ret
    exact ⟨rfl, hb0⟩
  · exact finds_any w A n c x zs hn hc hx (by omega)
end Go.Proofs.Ytcjpimocbgeheaa.Od
