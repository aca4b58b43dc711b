/- Package world's Find, and the first place of a name in a row; proved by walking their texts. Conditions: at most a million names of a kind. -/
import Derived.Test.YtgdanbfglefiiaaGreatWoMake
import Derived.ChangeSlices
import Derived.Deep.Strs
import Derived.Deep.SlicePairs
import Derived.ChangeArms
import Derived.Carry
import Derived.Deep.RegionHeld3
import Derived.Deep.RegionHeldLaw
import Derived.Deep.CutRange
import Derived.StillTailTactics
import Derived.WalkSpells
import Derived.Lib.QuietBelow
import Derived.Deep.QuietTactic
namespace Go.Proofs.YtgdanbfglefiiaaGreat.Wo
open Go.ChangeShapes Go.WideShapes Go.ChangeAt Go.RowKit Go.Maps
open Lx Sh
set_option linter.unusedVariables false
set_option linter.unusedSimpArgs false
theorem pl_at {l : List Nm} {a : Nm} {i : Nat} (hi : l[i]? = some a) (hn : a ∉ l.take i) : pl l a = (i : Int) := by
  have hm : a ∈ l := List.mem_of_getElem? hi
  rw [pl_mem hm]
  obtain ⟨hlt, hg⟩ := List.getElem?_eq_some_iff.1 hi
  have h2 : l = l.take i ++ a :: l.drop (i + 1) := by rw [← hg, List.getElem_cons_drop, List.take_append_drop]
  have h3 : l.idxOf a = i := by
    conv => lhs; rw [h2]
    rw [List.idxOf_append, if_neg hn, List.idxOf_cons_self, List.length_take]
    omega
  rw [h3]
theorem pl_none {l : List Nm} {a : Nm} (hn : a ∉ l) : pl l a = -1 := if_neg hn
theorem notin_more {l : List Nm} {a b : Nm} {i : Nat} (hi : l[i]? = some b) (hn : a ∉ l.take i) (hab : a ≠ b) : a ∉ l.take (i + 1) := by
  rw [List.take_add_one, hi]
  simp only [Option.toList, List.mem_append, List.mem_singleton, not_or]
  exact ⟨hn, hab⟩
set_option maxRecDepth 100000 in
set_option maxHeartbeats 1000000 in
theorem idx_str (w : World) (A : Option Addr) (n c : Nat) (l : List Nm) (a : Nm) (hn : Hid (n = l.length)) (hN : n ≤ 1000000) (hx : Rd w (· < w.heap.size) A (cs strC l)) :
    Calls Tryz.prog 37 #[.slice A n c, .string ⟨a.toArray⟩] w (fun e w' => e = .returned (.int .i64 (pl l a)) ∧ w = w') := by
  have HX := Lib.hid hx
  clear hx
  go_enter Tryz.func37, Tryz.ntmps37
  go_wp2
  go_loop [8] (fun v => ∃ j : Nat, v = .int .i64 (j : Int) ∧ j ≤ n ∧ Hid (a ∉ l.take j)) (fun v => n - (intOf v).toNat)
  case atStart => exact ⟨0, rfl, by omega, Lib.hid (by simp)⟩
  case round =>
    obtain ⟨j, rfl, hj, HA⟩ := hrel
    by_cases hlt : j < n
    · obtain ⟨b, hb⟩ := at_in l hn hlt
      have HB := Lib.hid hb
      obtain ⟨ad, rfl, hS, h0, -⟩ := rd_at 1 (fun _ => rfl) (by omega) HX.out hb
      rw [Nat.mul_one] at h0
      have b0 : w.cell? (ad.add j) = some (.string ⟨b.toArray⟩) := h0
      have hi : (j : Int) < (n : Int) := by omega
      clear hb h0 hS
      by_cases he : a = b
      · have HP : Hid (pl l a = (j : Int)) := Lib.hid (pl_at (by rw [HB.out, he]) HA.out)
        subst he
        go_wp2
        go_ret
        exact ⟨by rw [HP.out]; rfl, rfl⟩
      · have HM := Lib.hid (notin_more HB.out HA.out he)
        have hne : (a == b) = false := beq_eq_false_iff_ne.2 he
        clear he
        go_wp2
        go_round
        case rel => exact ⟨j + 1, by go_num, by omega, HM⟩
        case measure => simp [intOf]; omega
    · have HP : Hid (pl l a = -1) := Lib.hid (pl_none (by have := HA.out; rwa [List.take_of_length_le (by have := hn.out; omega)] at this))
      go_wp2
      go_ret
      exact ⟨by rw [HP.out]; rfl, rfl⟩
/-- no name of the first k kinds -/
def NoF (n : NamesM) (a : Nm) (k : Nat) : Prop := findW n a = find0 a k (n.kinds.drop k)
theorem noF_more {n : NamesM} {a : Nm} {k : Nat} {l : List Nm} (h : NoF n a k) (hl : n.kinds[k]? = some l) (ha : a ∉ l) : NoF n a (k + 1) := by
  unfold NoF at h ⊢
  obtain ⟨hlt, hg⟩ := List.getElem?_eq_some_iff.1 hl
  rw [h, List.drop_eq_getElem_cons hlt, hg, find0, if_neg ha]
theorem noF_at {n : NamesM} {a : Nm} {k : Nat} {l : List Nm} (h : NoF n a k) (hl : n.kinds[k]? = some l) (ha : a ∈ l) : findW n a = ((k : Int), pl l a) := by
  unfold NoF at h
  obtain ⟨hlt, hg⟩ := List.getElem?_eq_some_iff.1 hl
  rw [h, List.drop_eq_getElem_cons hlt, hg, find0, if_pos ha, pl_mem ha]
theorem noF_end {n : NamesM} {a : Nm} (h : NoF n a 7) : findW n a = (0, 0) := by
  unfold NoF at h
  rw [h]
  rfl
/-- names of little -/
def NLt (n : NamesM) : Prop := ∀ l ∈ n.kinds, l.length ≤ 1000000
set_option maxRecDepth 100000 in
set_option maxHeartbeats 2000000 in
theorem find_any (x : WorldM) (p : WoA) (a : Nm) (w : World) (h : Na w (· < w.heap.size) x.names p.n) (hl : NLt x.names) :
    Calls Tryz.prog 13 #[woF x p, .string ⟨a.toArray⟩] w (fun e w' => e = .returned (.tuple #[.int .i64 (findW x.names a).1, .int .i64 (findW x.names a).2]) ∧ Below w.heap.size w w') := by
  have HNA := Lib.hid h
  have HLL := Lib.hid hl
  have HBK := Lib.hid (fun w1 => byKind_any x.names p.n w1)
  dsimp only [naV] at HBK
  clear h hl
  have H0 : Hid (NoF x.names a 0) := Lib.hid rfl
  have hkz := kA_size x.names p.n
  have hrs := Lib.hid (rfl : findW x.names a = findW x.names a)
  generalize hv : findW x.names a = fv at *
  have HV := Lib.hid hv
  clear hv hrs
  obtain ⟨f1, f2⟩ := fv
  go_enter Tryz.func13, Tryz.ntmps13
  go_wp2_with (go_at_call 36; refine (HBK.out _).mono ?_; rintro e w1 ⟨rfl, hb⟩; have HB1 := Lib.hid (keep_trans (one_box _ _) hb); clear hb)
  clear HBK
  generalize hkA : kA x.names p.n = KA at *
  go_loopw [12] (fun v wr => ∃ k : Nat, v = .int .i64 (k : Int) ∧ k ≤ 7 ∧ Hid (NoF x.names a k) ∧ Hid (Below w.heap.size w wr)) (fun v _ => 7 - (intOf v).toNat)
  case atStart => exact ⟨0, rfl, by omega, H0, HB1⟩
  case round =>
    obtain ⟨k, rfl, hk, HN, HB⟩ := hrel
    by_cases hlt : k < 7
    · obtain ⟨l, hl⟩ : ∃ l, x.names.kinds[k]? = some l := ⟨_, List.getElem?_eq_getElem (by simpa [NamesM.kinds] using hlt)⟩
      have HL := Lib.hid hl
      obtain ⟨A, c, hka, hrd⟩ := kA_at (p := p.n) hl
      obtain ⟨nl, hnl⟩ : ∃ m, m = l.length := ⟨_, rfl⟩
      rw [← hnl] at hka
      have hix := idx_kA x.names p.n k _ hka
      rw [hkA] at hix
      have HNL := Lib.hid hnl
      have HIX := Lib.hid (idx_str wr A nl c l a HNL (by rw [hnl]; exact HLL.out l (List.mem_of_getElem? hl)) (hrd _ _ (HNA.out.later HB.out)))
      have hki : (k : Int) < 7 := by omega
      clear hl hrd hnl hka
      by_cases hin : a ∈ l
      · have HF := Lib.hid (noF_at HN.out HL.out hin)
        obtain ⟨pz, hpz⟩ : ∃ z, z = pl l a := ⟨_, rfl⟩
        rw [← hpz] at HIX HF
        have hp0 : ¬ pz < 0 := by rw [hpz]; exact fun hh => pl_neg.1 hh hin
        have hp1 : 0 ≤ pz := by omega
        have hq := HV.out.symm.trans HF.out
        injection hq with hq1 hq2
        subst hq1 hq2
        clear hpz hin
        go_wp2_with (go_at_call 37; refine HIX.out.mono ?_; rintro e w2 ⟨rfl, rfl⟩)
        go_ret2
        exact ⟨rfl, HB.out⟩
      · have HF := Lib.hid (noF_more HN.out HL.out hin)
        rw [pl_none hin] at HIX
        clear hin
        go_wp2_with (go_at_call 37; refine HIX.out.mono ?_; rintro e w2 ⟨rfl, rfl⟩)
        go_roundw
        case rel => exact ⟨k + 1, by go_num, by omega, HF, HB⟩
        case measure => simp [intOf]; omega
    · obtain rfl : k = 7 := by omega
      have hq := HV.out.symm.trans (noF_end HN.out)
      injection hq with hq1 hq2
      subst hq1 hq2
      go_wp2
      go_ret2
      exact ⟨rfl, HB.out⟩
end Go.Proofs.YtgdanbfglefiiaaGreat.Wo
