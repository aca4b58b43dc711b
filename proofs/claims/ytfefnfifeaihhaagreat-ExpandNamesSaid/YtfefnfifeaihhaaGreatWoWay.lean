/- Package world's way and times, proved by walking their texts. Conditions: the maker lies as Mk says; names are no longer than strings can be. -/
import Derived.Test.YtfefnfifeaihhaaGreatWoStops
set_option linter.unusedVariables false
set_option linter.unusedSimpArgs false
set_option maxHeartbeats 2000000
set_option maxRecDepth 100000
namespace Go.Proofs.YtfefnfifeaihhaaGreat.Wo
open Go.ChangeShapes Go.WideShapes Go.ChangeAt Go.RowKit Go.Maps
open Lx Sh It
def WyPost (w : World) (S : List Nm) (a b : Nm) (len : Int) (e : Ending) (w' : World) : Prop :=
  e = .returned (.tuple #[poV (wayO S a b len), .int .i64 (wayE (pl S a) (pl S b) len)]) ∧ Below w.heap.size w w'
theorem blk_dr {w : World} {n : Nat} {t : TypeId} {l : List Value} (h : Blk w n t l) : Blk w.drew n t l := h
theorem below_box3 {w w1 : World} {o p : Obj} (hb : Below ((w.alloc o).alloc p).heap.size ((w.alloc o).alloc p) w1) : Below w.heap.size w w1 := keep_trans (two_box w o p) hb
theorem way_any {w : World} {M T : Nat} {X : Nat → Prop} {x : SheetM} {p : ShA} {tA : Option Addr} {tn tc : Nat} (h : Mk w M T X x p tA tn tc) (a b : Nm) (len : Int) (ha : a.length ≤ maxLen) (hb : b.length ≤ maxLen) :
    Calls Tryz.prog 181 #[.pointer (some ⟨M, 0, none⟩), .string ⟨a.toArray⟩, .string ⟨b.toArray⟩, .int .i64 len] w (WyPost w x.stops a b len) := by
  have H := HH h
  have HLN : Hid (∀ s ∈ [a, b], s.length ≤ maxLen) := HH (by intro s hs; simp at hs; rcases hs with rfl | rfl <;> assumption)
  clear h ha hb
  have HS := HH (fun w1 (hb : Below w.heap.size w w1) A c (hx : Rd w1 (· < w1.heap.size) A (cs strC [a, b])) => stops_any (H.out.later hb) A 2 c [a, b] (HH rfl) (by omega) hx HLN.out)
  unfold WyPost wayO
  by_cases hin : ∀ s ∈ [a, b], s ∈ x.stops
  · have HIN := HH hin
    rw [way_in hin]
    have HST : Hid (∀ w1, Below w.heap.size w w1 → ∀ A c, Rd w1 (· < w1.heap.size) A (cs strC [a, b]) → Calls Tryz.prog 183 #[.pointer (some ⟨M, 0, none⟩), .slice A 2 c] w1 (StYes w1 x.stops [a, b])) := HH (fun w1 hb A c hx => (HS.out w1 hb A c hx).mono fun e w' he => by
      rcases he with he | he
      · exact he.2
      · obtain ⟨s, hs, hn⟩ := he.1
        exact absurd (HIN.out s hs) hn)
    clear HS hin
    generalize x.stops = S at *
    obtain ⟨n1, hn1⟩ : ∃ n, n = pl S a := ⟨_, rfl⟩
    obtain ⟨n2, hn2⟩ : ∃ n, n = pl S b := ⟨_, rfl⟩
    have HN1 := HH hn1
    have HN2 := HH hn2
    rw [← hn1, ← hn2]
    clear hn1 hn2
    have HRR : Hid (∀ w1 A c, Rd w1 (· < w1.heap.size) A (cs intC [n1, n2]) → Calls Tryz.prog 184 #[.slice A 2 c] w1 (fun e w' => e = .returned (.bool (decide (n2 = n1))) ∧ Below w1.heap.size w1 w')) := HH (fun w1 A c hx => by
      have := repeats_any w1 A 2 c [n1, n2] (HH rfl) (by omega) hx
      simpa [reps] using this)
    have HSH := HH (fun w1 => short_any len w1)
    by_cases h12 : n1 = n2
    · have hd : decide (n2 = n1) = true := decide_eq_true h12.symm
      rw [hd] at HRR
      rw [if_pos (Or.inl h12), if_neg (by omega)]
      clear h12 hd
      go_enter Tryz.func181, Tryz.ntmps181
      go_wp2_with (first
        | (go_at_call 183; refine (HST.out _ (two_box _ _ _) _ _ (lit_s _ _ _ _ (by simp) rfl)).mono ?_; rintro e w2 ⟨A, c, rfl, ho, hb⟩; have R2 : Hid (Below w.heap.size w w2) := HH (below_box3 hb); have K1 := HH (((Blk.new w 92 [.int .i64 0, .int .i64 0, .int .i64 0]).alloc _).after hb); have HO : Hid (Fr w2 0 A (cs intC [n1, n2])) := HH (by rw [HN1.out, HN2.out]; exact fr_own ho.out (Nat.zero_le _)); have q0 : w2.cell? ⟨w.heap.size, 0, none⟩ = some (.int .i64 0) := K1.out.cell 0; clear hb ho)
        | (go_at_call 184; refine (HRR.out _ _ _ HO.out.old).mono ?_; rintro e w3 ⟨rfl, hb⟩; have R3 : Hid (Below w.heap.size w w3) := HH (keep_trans R2.out hb); have K3 := HH (K1.out.after hb); have q0 : w3.cell? ⟨w.heap.size, 0, none⟩ = some (.int .i64 0) := K3.out.cell 0; have q1 : w3.cell? ⟨w.heap.size, 1, none⟩ = some (.int .i64 0) := K3.out.cell 1; have q2 : w3.cell? ⟨w.heap.size, 2, none⟩ = some (.int .i64 0) := K3.out.cell 2; have qf : ∀ i, w3.frozen? ⟨w.heap.size, i, none⟩ = false := fun i => K3.out.frozen i; clear hb))
      refine bodyPost_ret (wo_read rfl rfl (((K3.out.set_ 0 _).set_ 1 _).set_ 2 _)) rfl ?_
      exact ⟨rfl, below_set (below_set (below_set R3.out (Nat.le_refl _) _) (Nat.le_refl _) _) (Nat.le_refl _) _⟩
    · have hd : decide (n2 = n1) = false := decide_eq_false fun e => h12 e.symm
      rw [hd] at HRR
      by_cases hlen : len < 1
      · have hd2 : decide (len < 1) = true := decide_eq_true hlen
        rw [hd2] at HSH
        rw [if_pos (Or.inr hlen), if_neg (by omega)]
        try clear hcl
        clear h12 hd hlen hd2
        go_enter Tryz.func181, Tryz.ntmps181
        go_wp2_with (first
          | (go_at_call 183; refine (HST.out _ (two_box _ _ _) _ _ (lit_s _ _ _ _ (by simp) rfl)).mono ?_; rintro e w2 ⟨A, c, rfl, ho, hb⟩; have R2 : Hid (Below w.heap.size w w2) := HH (below_box3 hb); have K1 := HH (((Blk.new w 92 [.int .i64 0, .int .i64 0, .int .i64 0]).alloc _).after hb); have HO : Hid (Fr w2 0 A (cs intC [n1, n2])) := HH (by rw [HN1.out, HN2.out]; exact fr_own ho.out (Nat.zero_le _)); clear hb ho)
          | (go_at_call 184; refine (HRR.out _ _ _ HO.out.old).mono ?_; rintro e w3 ⟨rfl, hb⟩; have R3 : Hid (Below w.heap.size w w3) := HH (keep_trans R2.out hb); have K3 := HH (K1.out.after hb); have q0 : w3.cell? ⟨w.heap.size, 0, none⟩ = some (.int .i64 0) := K3.out.cell 0; have q1 : w3.cell? ⟨w.heap.size, 1, none⟩ = some (.int .i64 0) := K3.out.cell 1; have q2 : w3.cell? ⟨w.heap.size, 2, none⟩ = some (.int .i64 0) := K3.out.cell 2; have qf : ∀ i, w3.frozen? ⟨w.heap.size, i, none⟩ = false := fun i => K3.out.frozen i; clear hb)
          | (go_at_call 186; (with_reducible refine (HSH.out _).mono ?_); rintro e w4 ⟨rfl, rfl⟩))
        refine bodyPost_ret (wo_read rfl rfl (((K3.out.set_ 0 _).set_ 1 _).set_ 2 _)) rfl ?_
        exact ⟨rfl, below_set (below_set (below_set R3.out (Nat.le_refl _) _) (Nat.le_refl _) _) (Nat.le_refl _) _⟩
      · have hd2 : decide (len < 1) = false := decide_eq_false hlen
        rw [hd2] at HSH
        have hcl : ¬ (n1 = n2 ∨ len < 1) := by omega
        simp only [if_neg hcl, if_true]
        try clear hcl
        clear h12 hd hlen hd2
        go_enter Tryz.func181, Tryz.ntmps181
        go_wp2_with (first
          | (go_at_call 183; refine (HST.out _ (two_box _ _ _) _ _ (lit_s _ _ _ _ (by simp) rfl)).mono ?_; rintro e w2 ⟨A, c, rfl, ho, hb⟩; have R2 : Hid (Below w.heap.size w w2) := HH (below_box3 hb); have K1 := HH (((Blk.new w 92 [.int .i64 0, .int .i64 0, .int .i64 0]).alloc _).after hb); have HO : Hid (Fr w2 0 A (cs intC [n1, n2])) := HH (by rw [HN1.out, HN2.out]; exact fr_own ho.out (Nat.zero_le _)); clear hb ho)
          | (go_at_call 184; refine (HRR.out _ _ _ HO.out.old).mono ?_; rintro e w3 ⟨rfl, hb⟩; have R3 : Hid (Below w.heap.size w w3) := HH (keep_trans R2.out hb); have K3 := HH (K1.out.after hb); have HO3 := HH (HO.out.later hb); obtain ⟨ad, rfl, -, hc⟩ := HO3.out (by simp [cs, intC]); have c0 : w3.cell? ad = some (.int .i64 n1) := hc 0 _ rfl; have c1 : w3.cell? ⟨ad.block, ad.off + 1, none⟩ = some (.int .i64 n2) := hc 1 _ rfl; have q0 : w3.cell? ⟨w.heap.size, 0, none⟩ = some (.int .i64 0) := K3.out.cell 0; have q1 : w3.cell? ⟨w.heap.size, 1, none⟩ = some (.int .i64 0) := K3.out.cell 1; have q2 : w3.cell? ⟨w.heap.size, 2, none⟩ = some (.int .i64 0) := K3.out.cell 2; have qf : ∀ i, w3.frozen? ⟨w.heap.size, i, none⟩ = false := fun i => K3.out.frozen i; clear hb hc)
          | (go_at_call 186; (with_reducible refine (HSH.out _).mono ?_); rintro e w4 ⟨rfl, rfl⟩))
        go_region
        all_goals go_wp2
        all_goals
          refine bodyPost_ret (wo_read rfl rfl (((Blk.set_ (blk_dr K3.out) 0 _).set_ 1 _).set_ 2 _)) rfl ?_
          exact ⟨rfl, below_set (below_set (below_set (below_drew R3.out) (Nat.le_refl _) _) (Nat.le_refl _) _) (Nat.le_refl _) _⟩
  · have HNO : Hid (∃ s ∈ [a, b], s ∉ x.stops) := HH (by
      rcases Classical.em (∃ s ∈ [a, b], s ∉ x.stops) with h | h
      · exact h
      · exact absurd (fun s hs => Classical.byContradiction fun hn => h ⟨s, hs, hn⟩) hin)
    rw [way_out HNO.out, if_neg (by omega)]
    have HST : Hid (∀ w1, Below w.heap.size w w1 → ∀ A c, Rd w1 (· < w1.heap.size) A (cs strC [a, b]) → Calls Tryz.prog 183 #[.pointer (some ⟨M, 0, none⟩), .slice A 2 c] w1 (StNo w1)) := HH (fun w1 hb A c hx => (HS.out w1 hb A c hx).mono fun e w' he => by
      rcases he with he | he
      · obtain ⟨s, hs, hn⟩ := HNO.out
        exact absurd (he.1 s hs) hn
      · exact he.2)
    clear HS hin
    go_enter Tryz.func181, Tryz.ntmps181
    go_wp2_with (go_at_call 183; refine (HST.out _ (two_box _ _ _) _ _ (lit_s _ _ _ _ (by simp) rfl)).mono ?_; rintro e w2 ⟨rfl, hb⟩; have R2 : Hid (Below w.heap.size w w2) := HH (below_box3 hb); have K1 := HH (((Blk.new w 92 [.int .i64 0, .int .i64 0, .int .i64 0]).alloc _).after hb); have q0 : w2.cell? ⟨w.heap.size, 0, none⟩ = some (.int .i64 0) := K1.out.cell 0; have q1 : w2.cell? ⟨w.heap.size, 1, none⟩ = some (.int .i64 0) := K1.out.cell 1; have q2 : w2.cell? ⟨w.heap.size, 2, none⟩ = some (.int .i64 0) := K1.out.cell 2; have qf : ∀ i, w2.frozen? ⟨w.heap.size, i, none⟩ = false := fun i => K1.out.frozen i; clear hb)
    refine bodyPost_ret (wo_read rfl rfl (((K1.out.set_ 0 _).set_ 1 _).set_ 2 _)) rfl ?_
    exact ⟨rfl, below_set (below_set (below_set R2.out (Nat.le_refl _) _) (Nat.le_refl _) _) (Nat.le_refl _) _⟩
theorem times_any {w : World} {M T : Nat} {X : Nat → Prop} {x : SheetM} {p : ShA} {tA : Option Addr} {tn tc : Nat} (h : Mk w M T X x p tA tn tc) (t : TimesM) :
    Calls Tryz.prog 182 #[.pointer (some ⟨M, 0, none⟩), .agg #[.int .i64 t.frm, .int .i64 t.every, .int .i64 t.len]] w (fun e w' => e = .returned (.int .i64 (timeE x.horizon t)) ∧ Below w.heap.size w w') := by
  have H := HH h
  have c2 : w.cell? ⟨M, 2, none⟩ = some (.int .i64 x.horizon) := h.cell 2 (by omega)
  have hM : M < w.heap.size := by obtain ⟨V, hV⟩ := h.blk; exact hV.lt
  have hne : M ≠ w.heap.size := by omega
  have HW := HH (fun w1 => Wn.wins_any (tmOf t) x.horizon w1)
  unfold timeE
  generalize Wn.we (tmOf t) x.horizon = er at *
  generalize Wn.wn (tmOf t) x.horizon = wl at *
  obtain ⟨tf, te, tl⟩ := t
  dsimp only [tmOf, Wn.tv] at HW
  dsimp only
  generalize x.horizon = hz at *
  clear h
  go_enter Tryz.func182, Tryz.ntmps182
  go_wp2
  go_region_with (go_at_call 195; refine (HW.out _).mono ?_; rintro e w2 ⟨A, n, c, rfl, -, -, -, hb⟩; have HB := HH hb; clear hb)
  all_goals go_wp2
  all_goals
    go_ret
    exact ⟨rfl, keep_trans (by first | exact below_drew (one_box _ _) | exact below_drewN (one_box _ _) _ | exact one_box _ _) HB.out⟩
end Go.Proofs.YtfefnfifeaihhaaGreat.Wo
