/- Contract of package link's near: the first window that ends behind a tick, alone. Conditions: rows hold at most a million windows. -/
import Derived.Test.YtffddkbphdjehaaLkNear
import Derived.Test.YtffddkbphdjehaaLkSm
import Derived.BigQuiet
namespace Go.Proofs.Ytffddkbphdjehaa.Lk
open Go.ChangeShapes Go.WideShapes Go.ChangeAt Go.RowKit
open Wn
set_option linter.unusedVariables false
set_option linter.unusedSimpArgs false
attribute [local go_sem] Oper.semAt_some

theorem bh_drop {zs : List Win} {t : Int} {k : Nat} (h1 : ∀ i, i < k → i < zs.length → (zs.getD i (0, 0)).2 ≤ t) (h2 : ∀ i, k ≤ i → i < zs.length → t < (zs.getD i (0, 0)).2) : bh t zs = zs.drop k := by
  induction zs generalizing k with
  | nil => simp [bh]
  | cons w r ih =>
    rw [bh_cons]
    cases k with
    | zero =>
      rw [if_pos (by simpa using h2 0 (Nat.zero_le _) (by simp))]
      rw [List.drop_zero]
      congr 1
      simpa using ih (k := 0) (fun i hi => by omega) (fun i _ hl => by simpa using h2 (i + 1) (by omega) (by simpa using hl))
    | succ k =>
      have := h1 0 (by omega) (by simp)
      rw [if_neg (by simpa using this), List.drop_succ_cons]
      exact ih (fun i hi hl => by simpa using h1 (i + 1) (by omega) (by simpa using hl)) (fun i hi hl => by simpa using h2 (i + 1) (by omega) (by simpa using hl))
theorem Gd.ends {lo : Int} {zs : List Win} (h : Gd lo zs) {i j : Nat} (hij : i ≤ j) (hj : j < zs.length) : (zs.getD i (0, 0)).2 ≤ (zs.getD j (0, 0)).2 := by
  induction zs generalizing lo i j with
  | nil => simp at hj
  | cons w r ih =>
    obtain ⟨g1, g2, g3, g4⟩ := h
    cases j with
    | zero => have : i = 0 := by omega
              subst this; exact Int.le_refl _
    | succ j =>
      have hj' : j < r.length := by simpa using hj
      cases i with
      | zero =>
        have e : r.getD j (0, 0) ∈ r := by simp [List.getD_eq_getElem?_getD, List.getElem?_eq_getElem hj']
        have := g4.all _ e
        show w.2 ≤ (r.getD j (0, 0)).2; omega
      | succ i => exact ih g4 (i := i) (j := j) (by omega) hj'

set_option maxHeartbeats 1000000 in
theorem near1_any (W : World) (b0 b1 : Nat) (A : Option Addr) (n c : Nat) (zs : List Win) (t : Int) (hn : Hid (n = zs.length)) (h0 : Blk W b0 33 [.slice A n c]) (h1 : Blk W b1 2 [.int .i64 t]) (hx : Rd W (· < W.heap.size) A (kc zs)) (i : Nat) (hi : i < n) (hN : n ≤ 1000000) :
    Calls Try.prog 40 #[.int .i64 i, .pointer (some ⟨b0, 0, none⟩), .pointer (some ⟨b1, 0, none⟩)] W fun e w' => e = .returned (.bool (decide (t < (zs.getD i (0, 0)).2))) ∧ Below W.heap.size W w' := by
  have hl : i < zs.length := by rw [← hn.out]; exact hi
  obtain ⟨ad, rfl, hS, hca⟩ := hx.key2 (k := i) hl
  obtain ⟨ha0, ha1⟩ := hca i hl
  have c0 := bc0 h0
  have c1 := bc0 h1
  generalize zs.getD i (0, 0) = p at ha0 ha1 ⊢
  clear hca hx h0 h1
  have hz : (i : Int) < (n : Int) := by omega
  go_enter Try.func40, Try.ntmps40
  go_wp2
  go_quiet (fail)
  go_wp2
  go_ret
  exact ⟨rfl, below_drewN (Below.refl _ _) _⟩

/-- where the first window that ends behind a tick stands -/
def nk (zs : List Win) (t : Int) : Nat := zs.length - (bh t zs).length
theorem nk_eq {zs : List Win} {t : Int} {k : Nat} (h : bh t zs = zs.drop k) (hk : k ≤ zs.length) : nk zs t = k := by
  unfold nk; rw [h, List.length_drop]; omega
theorem nk_le (zs : List Win) (t : Int) : nk zs t ≤ zs.length := by unfold nk; omega
def nrA (A : Option Addr) (c : Nat) (zs : List Win) (t : Int) : Option Addr := if c = nk zs t then A else A.map (·.add (nk zs t * 2))
def nrN (zs : List Win) (t : Int) : Nat := if nk zs t < zs.length then 1 else 0
theorem first_k {zs : List Win} (hg : good zs = true) (t : Int) : ∃ k, k ≤ zs.length ∧ bh t zs = zs.drop k := by
  have main : ∀ (zs : List Win) (lo : Int), Gd lo zs → ∃ k, k ≤ zs.length ∧ bh t zs = zs.drop k := by
    intro zs
    induction zs with
    | nil => intro lo _; exact ⟨0, Nat.le_refl _, rfl⟩
    | cons w r ih =>
      intro lo h
      rw [bh_cons]
      by_cases hw : t < w.2
      · refine ⟨0, Nat.zero_le _, ?_⟩
        rw [if_pos hw, h.2.2.2.bh_self (by omega)]
        rfl
      · obtain ⟨k, h1, h2⟩ := ih _ h.2.2.2
        exact ⟨k + 1, by simpa using h1, by rw [if_neg hw, h2]; rfl⟩
  exact main zs _ (good_gd hg)
theorem near_drop {zs : List Win} (hg : good zs = true) (t : Int) : near zs t = (zs.drop (nk zs t)).take 1 := by
  obtain ⟨k, h1, h2⟩ := first_k hg t
  rw [nk_eq h2 h1]; unfold near; rw [h2]
theorem near_len {zs : List Win} (hg : good zs = true) (t : Int) : (near zs t).length = nrN zs t := by
  rw [near_drop hg]
  unfold nrN
  rw [List.length_take, List.length_drop]
  split <;> omega
theorem near_rd {W : World} {S : Nat → Prop} {A : Option Addr} {c : Nat} {zs : List Win} {t : Int} (hg : good zs = true) (hc : zs.length ≤ c) (hx : Rd W S A (kc zs)) : Rd W S (nrA A c zs t) (kc (near zs t)) := by
  have hn := near_drop hg t
  have hk := nk_le zs t
  unfold nrA
  by_cases h : c = nk zs t
  · have e : near zs t = [] := by rw [hn, List.drop_eq_nil_of_le (by omega)]; rfl
    rw [e]; exact Rd.none_
  · rw [if_neg h, hn]
    have h1 := hx.drop (k := nk zs t * 2) (c := False) (fun _ h => h)
    rw [if_neg not_false, ← kc_drop] at h1
    have e2 : kc ((zs.drop (nk zs t)).take 1) = (kc (zs.drop (nk zs t))).take 2 := by
      cases zs.drop (nk zs t) with
      | nil => rfl
      | cons a r => rfl
    rw [e2]
    exact h1.take 2

theorem sl_eq {A A' : Option Addr} {n n' c c' : Nat} (h1 : A = A') (h2 : n = n') (h3 : c = c') : Ending.returned (.slice A n c) = .returned (.slice A' n' c') := by rw [h1, h2, h3]
set_option maxHeartbeats 1000000 in
theorem near_any (w : World) (A : Option Addr) (n c : Nat) (zs : List Win) (t : Int) (hn : Hid (n = zs.length)) (hN : n ≤ 1000000) (hc : n ≤ c) (hx : Rd w (· < w.heap.size) A (kc zs)) (hg : Hid (good zs = true)) :
    Calls Try.prog 26 #[.slice A n c, .int .i64 t] w fun e w' => e = .returned (.slice (nrA A c zs t) (nrN zs t) (c - nk zs t)) ∧ Below w.heap.size w w' := by
  obtain ⟨W0, hW0⟩ : ∃ W0, W0 = (w.alloc (.cells #[.slice A n c] 33)).alloc (.cells #[.int .i64 t] 2) := ⟨_, rfl⟩
  have B0 := Lib.hid ((Below.refl w.heap.size w).alloc (Nat.le_refl _) (.cells #[.slice A n c] 33) |>.alloc (by simp) (.cells #[.int .i64 t] 2))
  have N0 := Lib.hid ((Blk.new w 33 [.slice A n c]).alloc (.cells #[.int .i64 t] 2))
  have e0 := Blk.new (w.alloc (.cells #[.slice A n c] 33)) 2 [.int .i64 t]
  rw [World.size_alloc] at e0
  have E0 := Lib.hid e0
  clear e0
  rw [← hW0] at B0 N0 E0
  have HX := Lib.hid hx
  have CS := Lib.hid (search_any W0 w.heap.size (w.heap.size + 1) n (fun i => decide (t < (zs.getD i (0, 0)).2)) hN
    (Lib.hid fun W hW i hi => near1_any W _ _ A n c zs t hn (N0.out.after hW) (E0.out.after hW) (((HX.out.keep fun b hb => B0.out.block b hb).more fun b hb => Nat.lt_of_lt_of_le hb B0.out.size).later hW) i hi hN)
    (Lib.hid fun a b hab hb h => by
      have := Gd.ends (good_gd hg.out) hab (by rw [← hn.out]; exact hb)
      have h' := of_decide_eq_true h
      exact decide_eq_true (by omega)))
  rw [hW0] at CS
  rw [hW0] at B0 N0 E0
  clear hW0 hx W0
  have n0 := bc0 N0.out
  have k0 := bc0 E0.out
  have HKK : Hid (∀ k, k ≤ n → Hid ((∀ i, i < k → decide (t < (zs.getD i (0, 0)).2) = false) ∧ ∀ i, k ≤ i → i < n → decide (t < (zs.getD i (0, 0)).2) = true) → k = nk zs t) := Lib.hid fun k hk HK => by
    refine (nk_eq (bh_drop (k := k) (fun i hi hl => ?_) (fun i hi hl => ?_)) (by rw [← hn.out]; exact hk)).symm
    · have := of_decide_eq_false (HK.out.1 i hi); omega
    · exact of_decide_eq_true (HK.out.2 i hi (by rw [hn.out]; exact hl))
  have HNA : Hid (nrA A c zs t = if c = nk zs t then A else A.map (·.add (nk zs t * 2))) := Lib.hid rfl
  have HNN : Hid (nrN zs t = if nk zs t < n then 1 else 0) := Lib.hid (by rw [hn.out]; rfl)
  clear HX
  generalize nrA A c zs t = NA at HNA ⊢
  generalize nrN zs t = NN at HNN ⊢
  generalize nk zs t = K at HKK HNA HNN ⊢
  go_enter Try.func26, Try.ntmps26
  go_wp2_with (go_at_call 39; refine CS.out.mono ?_; rintro e w1 ⟨k, rfl, hk, HK, hb⟩; have n1 := bc0 (N0.out.after hb); obtain rfl := HKK.out k hk HK; have HBW := Lib.hid (B0.out.trans (hb.mono B0.out.size)); clear HK)
  all_goals go_ret
  all_goals refine ⟨?_, HBW.out⟩
  all_goals (rw [HNA.out, HNN.out]; clear HNA HNN HKK)
  all_goals exact sl_eq (by first | exact (if_pos (by assumption)).symm | exact (if_neg (by assumption)).symm) (by split <;> omega) (by omega)
end Go.Proofs.Ytffddkbphdjehaa.Lk
