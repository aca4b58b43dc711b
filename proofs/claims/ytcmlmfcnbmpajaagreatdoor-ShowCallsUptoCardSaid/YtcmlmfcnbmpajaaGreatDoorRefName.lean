/- The document's own answers on names and ticks, proved by walking their texts. No conditions. -/
import Derived.Test.YtcmlmfcnbmpajaaGreatDoorSheetItems
namespace Go.Proofs.YtcmlmfcnbmpajaaGreatDoor.Sh
open Go.ChangeShapes Go.WideShapes Go.ChangeAt Go.RowKit
open Lx
set_option linter.unusedVariables false
set_option linter.unusedSimpArgs false

theorem kind5 (c : UInt8) : (kindOf c == 5) = (decide (97 ≤ c.toNat) && decide (c.toNat ≤ 122)) := by
  rw [Bool.eq_iff_iff]
  simp only [beq_iff_eq, Bool.and_eq_true, decide_eq_true_eq]
  unfold kindOf
  split
  · omega
  · split
    · omega
    · split
      · omega
      · split
        · omega
        · split
          · omega
          · split <;> omega
theorem kind6 (c : UInt8) : (kindOf c == 6) = (decide (48 ≤ c.toNat) && decide (c.toNat ≤ 57)) := by
  rw [Bool.eq_iff_iff]
  simp only [beq_iff_eq, Bool.and_eq_true, decide_eq_true_eq]
  unfold kindOf
  split
  · omega
  · split
    · omega
    · split
      · omega
      · split
        · omega
        · split
          · omega
          · split <;> omega
theorem kind7 (c : UInt8) : (kindOf c == 7) = (decide (c.toNat = 45) || decide (c.toNat = 95)) := by
  rw [Bool.eq_iff_iff]
  simp only [beq_iff_eq, Bool.or_eq_true, decide_eq_true_eq]
  unfold kindOf
  split
  · omega
  · split
    · omega
    · split
      · omega
      · split
        · omega
        · split
          · omega
          · split <;> omega
set_option maxHeartbeats 1000000 in
theorem letter_any (c : UInt8) (w : World) : Calls Tryz.prog 87 #[.int .u8 (c.toNat : Int)] w fun e w' => e = .returned (.bool (kindOf c == 5)) ∧ w = w' := by
  rw [kind5]
  generalize c.toNat = n
  by_cases h1 : 97 ≤ n
  · have g1 : (97 : Int) ≤ (n : Int) := by omega
    by_cases h2 : n ≤ 122
    · have g2 : (n : Int) ≤ 122 := by omega
      go_enter Tryz.func87, Tryz.ntmps87
      go_wp2
      go_ret
      exact ⟨by simp [h1, h2], rfl⟩
    · have g2 : ¬ (n : Int) ≤ 122 := by omega
      go_enter Tryz.func87, Tryz.ntmps87
      go_wp2
      go_ret
      exact ⟨by simp [h2], rfl⟩
  · have g1 : ¬ (97 : Int) ≤ (n : Int) := by omega
    go_enter Tryz.func87, Tryz.ntmps87
    go_wp2
    go_ret
    exact ⟨by simp [h1], rfl⟩
set_option maxHeartbeats 1000000 in
theorem digitR_any (c : UInt8) (w : World) : Calls Tryz.prog 88 #[.int .u8 (c.toNat : Int)] w fun e w' => e = .returned (.bool (kindOf c == 6)) ∧ w = w' := by
  rw [kind6]
  generalize c.toNat = n
  by_cases h1 : 48 ≤ n
  · have g1 : (48 : Int) ≤ (n : Int) := by omega
    by_cases h2 : n ≤ 57
    · have g2 : (n : Int) ≤ 57 := by omega
      go_enter Tryz.func88, Tryz.ntmps88
      go_wp2
      go_ret
      exact ⟨by simp [h1, h2], rfl⟩
    · have g2 : ¬ (n : Int) ≤ 57 := by omega
      go_enter Tryz.func88, Tryz.ntmps88
      go_wp2
      go_ret
      exact ⟨by simp [h2], rfl⟩
  · have g1 : ¬ (48 : Int) ≤ (n : Int) := by omega
    go_enter Tryz.func88, Tryz.ntmps88
    go_wp2
    go_ret
    exact ⟨by simp [h1], rfl⟩
set_option maxHeartbeats 1000000 in
theorem more_any (c : UInt8) (w : World) : Calls Tryz.prog 115 #[.int .u8 (c.toNat : Int)] w fun e w' => e = .returned (.bool (isMore c)) ∧ w = w' := by
  have C1 := Lib.hid (fun w' => letter_any c w')
  have C2 := Lib.hid (fun w' => digitR_any c w')
  have hm : isMore c = (kindOf c == 5 || kindOf c == 6 || (decide (c.toNat = 45) || decide (c.toNat = 95))) := by rw [← kind7]; rfl
  rw [hm]
  clear hm
  generalize (kindOf c == 5) = b1 at *
  generalize (kindOf c == 6) = b2 at *
  generalize c.toNat = n at *
  have e1 : ((n : Int) == 45) = decide (n = 45) := by rw [Bool.eq_iff_iff]; simp; omega
  have e2 : ((n : Int) == 95) = decide (n = 95) := by rw [Bool.eq_iff_iff]; simp; omega
  generalize decide (n = 45) = b3 at *
  generalize decide (n = 95) = b4 at *
  cases b1 <;> cases b2 <;> cases b3 <;> cases b4
  all_goals go_enter Tryz.func115, Tryz.ntmps115
  all_goals go_wp2_with (first
    | (go_at_call 87; (with_reducible refine (C1.out _).mono ?_); rintro e w1 ⟨rfl, rfl⟩)
    | (go_at_call 88; (with_reducible refine (C2.out _).mono ?_); rintro e w1 ⟨rfl, rfl⟩)
    | fail)
  all_goals go_ret
  all_goals exact ⟨rfl, rfl⟩
theorem refcheck_tick (n : Int) (w : World) : Calls Tryz.prog 56 #[.int .i64 n] w fun e w' => e = .returned (.int .i64 (if tickB n then 0 else 9)) ∧ w = w' := by
  by_cases h0 : n < 0
  · have hq : tickB n = false := by unfold tickB; simp; omega
    rw [hq]
    go_enter Tryz.func56, Tryz.ntmps56
    go_wp2
    go_ret
    exact ⟨rfl, rfl⟩
  · by_cases h1 : 1099511627776 < n
    · have hq : tickB n = false := by unfold tickB; simp; omega
      rw [hq]
      go_enter Tryz.func56, Tryz.ntmps56
      go_wp2
      go_ret
      exact ⟨rfl, rfl⟩
    · have hq : tickB n = true := by unfold tickB; simp; omega
      rw [hq]
      go_enter Tryz.func56, Tryz.ntmps56
      go_wp2
      go_ret
      exact ⟨rfl, rfl⟩

theorem byte_at (s : ByteArray) (i : Nat) (h : i < s.size) : s.data.toList[i]? = some s[i] := by
  have h' : i < s.data.toList.length := by rw [← Lib.size_eq s]; exact h
  rw [List.getElem?_eq_getElem h']
  simp [ByteArray.getElem_eq_getElem_data]
/-- is it a word? -/
def wordB (l : List UInt8) : Bool := decide (l.length ≤ 24) && (nextK l == 5 && l.all isMore)
set_option maxRecDepth 100000 in
set_option maxHeartbeats 2000000 in
theorem word_any (s : ByteArray) (w : World) : Calls Tryz.prog 85 #[.string s] w fun e w' => e = .returned (.bool (wordB s.data.toList)) ∧ Below w.heap.size w w' := by
  have hz := Lib.size_eq s
  by_cases h0 : s.size = 0
  · have hq : wordB s.data.toList = false := by
      have : s.data.toList = [] := List.length_eq_zero_iff.1 (by omega)
      rw [this]; rfl
    rw [hq]
    have e0 : ((s.size : Int) == 0) = true := by rw [beq_iff_eq]; omega
    have e00 : (s.size == 0) = true := by rw [beq_iff_eq]; omega
    clear hz hq
    go_enter Tryz.func85, Tryz.ntmps85
    go_wp2
    go_ret
    exact ⟨rfl, Below.refl _ _⟩
  have e0 : ((s.size : Int) == 0) = false := by rw [beq_eq_false_iff_ne]; omega
  by_cases h24 : 24 < s.size
  · have hq : wordB s.data.toList = false := by
      unfold wordB
      rw [decide_eq_false (by omega)]; rfl
    rw [hq]
    have g24 : (24 : Int) < (s.size : Int) := by omega
    clear hz hq
    go_enter Tryz.func85, Tryz.ntmps85
    go_wp2
    go_ret
    exact ⟨rfl, Below.refl _ _⟩
  have g24 : ¬ (24 : Int) < (s.size : Int) := by omega
  have hp : 0 < s.size := by omega
  have gp : (0 : Int) < (s.size : Int) := by omega
  have b0 := byte_at s 0 hp
  have C1 := Lib.hid (fun w' => letter_any s[0] w')
  have hnk : nextK s.data.toList = kindOf s[0] := by
    cases hl : s.data.toList with
    | nil => rw [hl] at b0; simp at b0
    | cons c r => rw [hl] at b0; simp at b0; rw [b0]; rfl
  have hw : wordB s.data.toList = ((kindOf s[0] == 5) && s.data.toList.all isMore) := by
    unfold wordB
    rw [decide_eq_true (by omega), hnk, Bool.true_and]
  rw [hw]
  clear hw hnk b0
  cases hk : (kindOf s[0] == 5) with
  | false =>
    rw [hk] at C1
    clear hk hz
    go_enter Tryz.func85, Tryz.ntmps85
    go_wp2_with (first
      | (go_at_call 87; refine (C1.out _).mono ?_; rintro e w1 ⟨rfl, rfl⟩)
      | fail)
    go_ret
    exact ⟨rfl, Below.refl _ _⟩
  | true =>
    rw [hk] at C1
    rw [Bool.true_and]
    obtain ⟨B, hB⟩ : ∃ B, B = s.data.toList.all isMore := ⟨_, rfl⟩
    rw [← hB]
    have HBB := Lib.hid hB
    clear hB
    have HZ := Lib.hid hz
    clear hk hz
    go_enter Tryz.func85, Tryz.ntmps85
    go_wp2_with (first
      | (go_at_call 87; refine (C1.out _).mono ?_; rintro e w1 ⟨rfl, rfl⟩)
      | fail)
    go_loopw [3] (fun v wr => ∃ i : Nat, v = .int .i64 i ∧ i ≤ s.size ∧ Hid ((s.data.toList.take i).all isMore = true) ∧ Hid (Below w.heap.size w wr)) (fun v _ => s.size - (intOf v).toNat)
    case atStart => exact ⟨0, rfl, by omega, Lib.hid (by simp), Lib.hid (Below.refl _ _)⟩
    case round =>
      obtain ⟨i, rfl, hi, HT, HB⟩ := hrel
      by_cases hlt : i < s.size
      · have hi1 : (i : Int) < (s.size : Int) := by omega
        have hb := byte_at s i hlt
        have C2 := Lib.hid (fun w' => more_any s[i] w')
        cases hm : isMore s[i] with
        | true =>
          rw [hm] at C2
          have HT2 := Lib.hid (all_take hb HT.out hm)
          clear hm hb
          go_wp2_with (first
            | (go_at_call 115; refine (C2.out _).mono ?_; rintro e w1 ⟨rfl, rfl⟩)
            | fail)
          go_roundw
          case rel => exact ⟨i + 1, by go_num, by omega, HT2, HB⟩
          case measure => simp [intOf]; omega
        | false =>
          rw [hm] at C2
          have HNO := Lib.hid (HBB.out.trans (all_no hb hm))
          clear hm hb
          go_wp2_with (first
            | (go_at_call 115; refine (C2.out _).mono ?_; rintro e w1 ⟨rfl, rfl⟩)
            | fail)
          go_ret
          exact ⟨by rw [HNO.out]; rfl, HB.out⟩
      · have hi1 : ¬ (i : Int) < (s.size : Int) := by omega
        have HA := Lib.hid (HBB.out.trans (all_full HT.out (by rw [← HZ.out]; omega)))
        go_wp2
        go_ret
        exact ⟨by rw [HA.out]; rfl, HB.out⟩
def litsR : List (List UInt8) := reservedL
theorem reservedR_some (s : ByteArray) (i : Nat) (r : List UInt8) (hr : reservedL[i]? = some r) (h : (r == s.toList) = true) : isRes s.data.toList = true := by
  rw [ByteArray.toList_eq, beq_iff_eq] at h
  unfold isRes
  rw [List.contains_eq_mem, ← h]
  simp [List.mem_of_getElem? hr]
set_option maxRecDepth 100000 in
set_option maxHeartbeats 2000000 in
theorem reservedR_any (s : ByteArray) (w : World) : Calls Tryz.prog 86 #[.string s] w fun e w' => e = .returned (.bool (isRes s.data.toList)) ∧ Below w.heap.size w w' := by
  obtain ⟨B, hB⟩ : ∃ B, B = isRes s.data.toList := ⟨_, rfl⟩
  rw [← hB]
  have HBB := Lib.hid hB
  clear hB
  go_enter Tryz.func86, Tryz.ntmps86
  go_wp2
  have HR : Hid (Rd (w.alloc (.cells (cs strC reservedL).toArray 9)) (· < (w.alloc (.cells (cs strC reservedL).toArray 9)).heap.size) (some ⟨w.heap.size, 0, none⟩) (cs strC reservedL)) := Lib.hid (lit_at _ _ _ _ _ rfl rfl)
  go_loopw [4] (fun v wr => ∃ i : Nat, v = .int .i64 i ∧ i ≤ 15 ∧ Hid (∀ j r, j < i → reservedL[j]? = some r → (r == s.toList) = false) ∧ Hid (Rd wr (· < wr.heap.size) (some ⟨w.heap.size, 0, none⟩) (cs strC reservedL)) ∧ Hid (Below w.heap.size w wr)) (fun v _ => 15 - (intOf v).toNat)
  case atStart => exact ⟨0, rfl, by omega, Lib.hid (fun j r hj => absurd hj (by omega)), HR, Lib.hid (one_box _ _)⟩
  case round =>
    obtain ⟨i, rfl, hi, HN, HRR, HB⟩ := hrel
    by_cases hlt : i < 15
    · have hi1 : (i : Int) < 15 := by omega
      obtain ⟨r, hr⟩ : ∃ r, reservedL[i]? = some r := ⟨_, List.getElem?_eq_getElem (by exact hlt)⟩
      obtain ⟨ad, had, hS, x0, -⟩ := rd_at 1 (fun _ => rfl) (by omega) HRR.out hr
      cases had
      have x1 : wr.cell? ((⟨w.heap.size, 0, none⟩ : Addr).add (i * 1)) = some (.string ⟨r.toArray⟩) := x0
      have ea : (⟨w.heap.size, 0, none⟩ : Addr).add (i * 1) = ⟨w.heap.size, i, none⟩ := by
        rw [Nat.mul_one]
        unfold Addr.add
        split
        · subst_vars; rfl
        · simp
      rw [ea] at x1
      clear ea
      cases hq : (r == s.toList) with
      | true =>
        have HT := Lib.hid (HBB.out.trans (reservedR_some s i r hr hq))
        clear hr x0
        go_wp2
        go_ret
        exact ⟨by rw [HT.out]; rfl, HB.out⟩
      | false =>
        have HN2 : Hid (∀ j r, j < i + 1 → reservedL[j]? = some r → (r == s.toList) = false) := Lib.hid (fun j r' hj hr' => by
          rcases Nat.lt_or_ge j i with h | h
          · exact HN.out j r' h hr'
          · obtain rfl : j = i := by omega
            rw [hr] at hr'
            injection hr' with e
            rw [← e]; exact hq)
        clear hr x0
        go_wp2
        go_roundw
        case rel => exact ⟨i + 1, by go_num, by omega, HN2, HRR, HB⟩
        case measure => simp [intOf]; omega
    · have hi1 : ¬ (i : Int) < 15 := by omega
      have HF : Hid (B = false) := Lib.hid (HBB.out.trans (by
        cases hq : isRes s.data.toList with
        | false => rfl
        | true =>
          unfold isRes at hq
          rw [List.contains_eq_mem] at hq
          have hm : s.data.toList ∈ reservedL := by simpa using hq
          obtain ⟨j, hj, e⟩ := List.getElem_of_mem hm
          have hj2 : j < 15 := hj
          have := HN.out j _ (by omega) (List.getElem?_eq_getElem hj)
          rw [e, ByteArray.toList_eq, beq_eq_false_iff_ne] at this
          exact absurd rfl this))
      go_wp2
      go_ret
      exact ⟨by rw [HF.out]; rfl, HB.out⟩
set_option maxHeartbeats 1000000 in
theorem refname_any (s : ByteArray) (w : World) : Calls Tryz.prog 54 #[.string s] w (BPost w (nameB s.data.toList)) := by
  have C1 := Lib.hid (fun w' => word_any s w')
  have C2 := Lib.hid (fun w' => reservedR_any s w')
  have e : nameB s.data.toList = (wordB s.data.toList && !isRes s.data.toList) := by
    unfold nameB wordB
    cases decide (s.data.toList.length ≤ 24) <;> cases isRes s.data.toList <;> cases (nextK s.data.toList == 5) <;> cases s.data.toList.all isMore <;> rfl
  rw [e]
  clear e
  generalize wordB s.data.toList = b1 at *
  generalize isRes s.data.toList = b2 at *
  cases b1 <;> cases b2
  all_goals go_enter Tryz.func54, Tryz.ntmps54
  all_goals go_wp2_with (first
    | (go_at_call 85; refine (C1.out _).mono ?_; rintro e w1 ⟨rfl, hb⟩; have G := Lib.hid hb; clear hb)
    | (go_at_call 86; refine (C2.out _).mono ?_; rintro e w2 ⟨rfl, hb⟩; have G := Lib.hid (keep_trans G.out hb); clear hb)
    | fail)
  all_goals go_ret
  all_goals exact ⟨rfl, G.out⟩
end Go.Proofs.YtcmlmfcnbmpajaaGreatDoor.Sh

