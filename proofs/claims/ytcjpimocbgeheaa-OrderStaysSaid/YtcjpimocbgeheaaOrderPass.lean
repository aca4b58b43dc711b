/- order.pass merges each two neighbours of so many keys of one row of the call's own into the other one; the plain list that it makes. Conditions: both rows are the call's own, unlike, as long as one another, below a million keys; the size is from 1 to their length. -/
import Derived.Test.YtcjpimocbgeheaaOrderMerge
import Derived.Deep.RegionWith
namespace Go.Proofs.Ytcjpimocbgeheaa.Od
open Go.ChangeShapes Go.WideShapes Go.ChangeAt Go.RowKit
set_option linter.unusedVariables false

/-- each two neighbours of s keys, merged -/
def psK (s : Nat) (m : List Key) : List Key :=
  if h : 0 < s ∧ m ≠ [] then mg (m.take s) ((m.drop s).take s) ++ psK s (m.drop (2 * s)) else []
termination_by m.length
decreasing_by
  have : 0 < m.length := List.length_pos_iff.2 h.2
  simp; omega
theorem psK_nil (s : Nat) : psK s [] = [] := by unfold psK; simp
theorem psK_step {s : Nat} {m : List Key} (hs : 0 < s) (hm : m ≠ []) : psK s m = mg (m.take s) ((m.drop s).take s) ++ psK s (m.drop (2 * s)) := by
  rw [psK, dif_pos ⟨hs, hm⟩]
theorem psK_length (s : Nat) (hs : 0 < s) (m : List Key) : (psK s m).length = m.length := by
  induction hl : m.length using Nat.strongRecOn generalizing m with
  | _ n ih =>
    by_cases hm : m = []
    · subst hm; rw [psK_nil]; simpa using hl
    · have hp : 0 < m.length := List.length_pos_iff.2 hm
      rw [psK_step hs hm, List.length_append, mg_length, ih (m.drop (2 * s)).length (by simp; omega) _ rfl]
      simp; omega

theorem lay_at (w : World) (g off n na nb cap ca cb : Nat) (A B : Option Addr) (pre mid post : List Value) (xs ys : List Key)
    (hna : Hid (na = xs.length)) (hnb : Hid (nb = ys.length)) (hn : n = na + nb) (hN : n ≤ 1000000) (hoff : Hid (pre.length = off)) (hmid : mid.length = n * 2) (hb : Blk w g 25 (pre ++ mid ++ post))
    (hx : Rd w (· ≠ g) A (kc xs)) (hy : Rd w (· ≠ g) B (kc ys)) (hca : na ≤ ca) (hcb : nb ≤ cb) :
    Calls Try.prog 30 #[.slice (some ⟨g, off, none⟩) n cap, .slice A na ca, .slice B nb cb] w
      fun e w' => e = .returned (.tuple #[]) ∧ Blk w' g 25 (pre ++ kc (mg xs ys) ++ post) ∧ w.grownBy w' (some g) := by
  have e1 := hna.out
  have e2 := hnb.out
  subst e1 e2
  exact lay_any w g off n cap ca cb A B pre mid post xs ys hn hN hoff.out hmid hb hx hy hca hcb

def PassRel (w : World) (g h n s : Nat) (m : List Key) (v6 : Value) (wr : World) : Prop :=
  ∃ (i : Nat) (done : List Key) (rest : List Value), v6 = .int .i64 i ∧ i ≤ n + 2 * s ∧ done.length = min i n ∧ rest.length = (n - min i n) * 2 ∧ done ++ psK s (m.drop i) = psK s m ∧
    Blk wr g 25 (kc done ++ rest) ∧ Blk wr h 25 (kc m) ∧ w.grownBy wr (some g)

theorem kc_drop (m : List Key) (i : Nat) : (kc m).drop (i * 2) = kc (m.drop i) := by
  induction m generalizing i with
  | nil => simp [kc_nil]
  | cons p m ih =>
    cases i with
    | zero => simp
    | succ i => rw [kc_cons]; have e : (i + 1) * 2 = i * 2 + 1 + 1 := by omega
                rw [e]; simpa using ih i
theorem kc_take (m : List Key) (i : Nat) : (kc m).take (i * 2) = kc (m.take i) := by
  induction m generalizing i with
  | nil => simp [kc_nil]
  | cons p m ih =>
    cases i with
    | zero => simp [kc_nil]
    | succ i => rw [kc_cons]; have e : (i + 1) * 2 = i * 2 + 1 + 1 := by omega
                rw [e]; simpa [kc_cons] using ih i

theorem rd_piece {wr : World} {h g : Nat} {m : List Key} (hb : Blk wr h 25 (kc m)) (hne : h ≠ g) (i k : Nat) : Rd wr (· ≠ g) (some ⟨h, i * 2, none⟩) (kc ((m.drop i).take k)) := by
  have h1 := (hb.rd (S := (· ≠ g)) hne (i * 2)).take (k * 2)
  rw [kc_drop, kc_take] at h1
  exact h1

theorem pass_next {w wr : World} {g h n s i : Nat} {m done : List Key} {rest : List Value} (hs : 0 < s) (hlt : i < n) (hm : m.length = n) (hne : h ≠ g) (hgt : g < w.heap.size)
    (hd : done.length = min i n) (hr : rest.length = (n - min i n) * 2) (hps : done ++ psK s (m.drop i) = psK s m) (hh : Blk wr h 25 (kc m)) (hg : w.grownBy wr (some g)) {K : Nat} (hK : K = min (i + 2 * s) n - i)
    {W w1 : World} (hW : ∃ k, W = wr.drewN k) (hb : Blk w1 g 25 (kc done ++ kc (mg ((m.drop i).take s) ((m.drop (i + s)).take s)) ++ rest.drop (K * 2))) (hg1 : W.grownBy w1 (some g)) :
    PassRel w g h n s m (.int .i64 ((i : Int) + 2 * (s : Int))) w1 := by
  obtain ⟨k, rfl⟩ := hW
  have hne0 : m.drop i ≠ [] := fun e => by have := congrArg List.length e; simp at this; omega
  refine ⟨i + 2 * s, done ++ mg ((m.drop i).take s) ((m.drop (i + s)).take s), rest.drop (K * 2), by simp, by omega, ?_, ?_, ?_, ?_, ?_, ?_⟩
  · rw [List.length_append, mg_length, hd]; simp; omega
  · rw [List.length_drop, hr, hK]; omega
  · rw [← hps, psK_step hs hne0]; simp [List.drop_drop]
  · rw [kc_append]; exact hb
  · exact Blk.grown (w := wr.drewN k) hh hg1 (fun e => by injection e with e; exact hne e)
  · exact only_trans (only_drewN hg k) hg1

theorem drewN_of_drew (w : World) : ∃ k, w.drew = w.drewN k := ⟨1, rfl⟩

set_option maxHeartbeats 4000000 in
theorem pass_any (w : World) (g q n s : Nat) (l : List Value) (m : List Key) (hs : 0 < s) (hsn : s ≤ n) (hN : n ≤ 1000000) (hne : q ≠ g)
    (hl : l.length = n * 2) (hm : m.length = n) (hg : Blk w g 25 l) (hh : Blk w q 25 (kc m)) :
    Calls Try.prog 36 #[.slice (some ⟨g, 0, none⟩) n n, .slice (some ⟨q, 0, none⟩) n n, .int .i64 s] w
      fun e w' => e = .returned (.tuple #[]) ∧ Blk w' g 25 (kc (psK s m)) ∧ Blk w' q 25 (kc m) ∧ w.grownBy w' (some g) := by
  have H0 := Lib.hid (show PassRel w g q n s m (.int .i64 ((0 : Nat) : Int)) w from ⟨0, [], l, rfl, by omega, by simp, by omega, by simp, by simpa [kc_nil] using hg, hh, only_refl _ _⟩)
  have hgt := hg.lt
  have HM := Lib.hid hm
  clear hg hh hl hm
  go_enter Try.func36, Try.ntmps36
  go_wp2
  go_loopw [6] (fun v6 wr => PassRel w g q n s m v6 wr) (fun v _ => n + 2 * s - (intOf v).toNat)
  case atStart => exact H0.out
  case round =>
    obtain ⟨i, done, rest, rfl, hi, hd, hr, hps, hbg, hbh, hgr⟩ := hrel
    clear H0
    by_cases hlt : i < n
    · have hd' : done.length = i := by omega
      have hpre : Hid ((kc done).length = i * 2) := by show _ = _; rw [kc_length, hd']
      have hb : ∀ K, Blk wr g 25 (kc done ++ rest.take (K * 2) ++ rest.drop (K * 2)) := fun K => by
        rw [List.append_assoc, List.take_append_drop]; exact hbg
      have HB := Lib.hid hb
      have HN := Lib.hid (fun K hK w1 => pass_next (w := w) (wr := wr) (K := K) (W := wr.drew) (w1 := w1) hs hlt HM.out hne hgt hd hr hps hbh hgr hK (drewN_of_drew wr))
      have HR := Lib.hid hr
      have HA := Lib.hid (rd_piece hbh hne i s)
      have HC := Lib.hid (rd_piece hbh hne (i + s) s)
      have HMT : ∀ K, i + K ≤ n → (rest.take (K * 2)).length = K * 2 := fun K hK => by rw [List.length_take, hr]; omega
      have HMT := Lib.hid HMT
      have et : ((i : Int) + (s : Int)).toNat = i + s := by omega
      have hm1 : Hid (∀ K, K = min s (n - i) → K = ((m.drop i).take s).length) := fun K hK => by have := HM.out; simp; omega
      have hm2 : Hid (∀ K, K = min s (n - (i + s)) → K = ((m.drop (i + s)).take s).length) := fun K hK => by have := HM.out; simp; omega
      clear hd hd' hr hps hbg hbh hgr hb hi
      by_cases h1 : i + 2 * s ≤ n
      · have hma := hm1.out s (by omega)
        have hmb := hm2.out (i + 2 * s - (i + s)) (by omega)
        have HMA := Lib.hid hma
        have HMB := Lib.hid hmb
        clear hma hmb
        have s1 : 2 * s = s + (i + 2 * s - (i + s)) := by omega
        have S1 := Lib.hid s1
        clear s1
        have hk := HN.out (2 * s) (by omega)
        have HK := Lib.hid hk
        clear hk
        have hmt := HMT.out (2 * s) (by omega)
        have HT := Lib.hid hmt
        clear hmt
        have HCALL := Lib.hid (lay_at wr.drew g (i * 2) (2 * s) s (i + 2 * s - (i + s)) (n - i) (n - i) (n - (i + s)) _ _ (kc done) (rest.take (2 * s * 2)) (rest.drop (2 * s * 2)) _ _ HMA HMB S1.out (by omega) hpre HT.out (HB.out (2 * s)) HA.out HC.out (by omega) (by omega))
        go_wp2
        go_region_with (go_at_call 30; refine HCALL.out.mono ?_; rintro e w1 ⟨rfl, hb1, hg1⟩; have HP := Lib.hid (HK.out w1 hb1 hg1); clear hb1 hg1)
        all_goals
          go_wp2
          exact ⟨HP.out, by simp [intOf]; omega⟩
      · by_cases h2 : i + s ≤ n
        · have HMA := Lib.hid (hm1.out s (by omega))
          have HMB := Lib.hid (hm2.out (n - (i + s)) (by omega))
          have S1 := Lib.hid (show n - i = s + (n - (i + s)) by omega)
          have HK := Lib.hid (HN.out (n - i) (by omega))
          have HT := Lib.hid (HMT.out (n - i) (by omega))
          by_cases h3 : n = i + s
          · have HE : Hid ((m.drop (i + s)).take s = []) := by
              show _ = _
              rw [List.drop_eq_nil_of_le (by have := HM.out; omega)]; simp
            have HZ := Lib.hid (show ∀ (W : World) A, Rd W (· ≠ g) A (kc ((m.drop (i + s)).take s)) from fun W A => by rw [HE.out]; exact Rd.none_)
            have e3 := Lib.hid h3
            clear h3
            have h4 : (if n = i + s then (some ⟨q, 0, none⟩ : Option Addr) else some ⟨q, (i + s) * 2, none⟩) = some ⟨q, 0, none⟩ := by rw [if_pos e3.out]
            have HCALL := Lib.hid (lay_at wr.drew g (i * 2) (n - i) s (n - (i + s)) (n - i) (n - i) (n - (i + s)) _ _ (kc done) (rest.take ((n - i) * 2)) (rest.drop ((n - i) * 2)) _ _ HMA HMB S1.out (by omega) hpre HT.out (HB.out (n - i)) HA.out (HZ.out _ (some ⟨q, 0, none⟩)) (by omega) (by omega))
            go_wp2
            go_region_with (go_at_call 30; refine HCALL.out.mono ?_; rintro e w1 ⟨rfl, hb1, hg1⟩; have HP := Lib.hid (HK.out w1 hb1 hg1); clear hb1 hg1)
            all_goals
              go_wp2
              exact ⟨HP.out, by simp [intOf]; omega⟩
          · have HCALL := Lib.hid (lay_at wr.drew g (i * 2) (n - i) s (n - (i + s)) (n - i) (n - i) (n - (i + s)) _ _ (kc done) (rest.take ((n - i) * 2)) (rest.drop ((n - i) * 2)) _ _ HMA HMB S1.out (by omega) hpre HT.out (HB.out (n - i)) HA.out HC.out (by omega) (by omega))
            go_wp2
            go_region_with (go_at_call 30; refine HCALL.out.mono ?_; rintro e w1 ⟨rfl, hb1, hg1⟩; have HP := Lib.hid (HK.out w1 hb1 hg1); clear hb1 hg1)
            all_goals
              go_wp2
              exact ⟨HP.out, by simp [intOf]; omega⟩
        · have HMA := Lib.hid (hm1.out (n - i) (by omega))
          have HMB := Lib.hid (hm2.out 0 (by omega))
          have HE : Hid ((m.drop (i + s)).take s = []) := by
            show _ = _
            rw [List.drop_eq_nil_of_le (by have := HM.out; omega)]; simp
          have HZ := Lib.hid (show ∀ (W : World) A, Rd W (· ≠ g) A (kc ((m.drop (i + s)).take s)) from fun W A => by rw [HE.out]; exact Rd.none_)
          have HK := Lib.hid (HN.out (n - i) (by omega))
          have HT := Lib.hid (HMT.out (n - i) (by omega))
          clear et
          have HCALL := Lib.hid (lay_at wr.drew g (i * 2) (n - i) (n - i) 0 (n - i) (n - i) 0 _ _ (kc done) (rest.take ((n - i) * 2)) (rest.drop ((n - i) * 2)) _ _ HMA HMB (by omega) (by omega) hpre HT.out (HB.out (n - i)) HA.out (HZ.out _ (some ⟨q, 0, none⟩)) (by omega) (by omega))
          go_wp2
          go_region_with (go_at_call 30; refine HCALL.out.mono ?_; rintro e w1 ⟨rfl, hb1, hg1⟩; have HP := Lib.hid (HK.out w1 hb1 hg1); clear hb1 hg1)
          all_goals
            go_wp2
            exact ⟨HP.out, by simp [intOf]; omega⟩
    · have hr0 : rest = [] := List.eq_nil_of_length_eq_zero (by omega)
      have HM' := HM.out
      have hdrop : m.drop i = [] := List.drop_eq_nil_of_le (by omega)
      have HB := Lib.hid (show Blk wr g 25 (kc (psK s m)) from by rw [← hps, hdrop, psK_nil, List.append_nil]; simpa [hr0] using hbg)
      have HH := Lib.hid hbh
      have HG := Lib.hid hgr
      clear hd hr hps hbg hbh hgr hr0 hdrop HM'
      go_wp2
      go_end0
      exact ⟨rfl, HB.out, HH.out, HG.out⟩
end Go.Proofs.Ytcjpimocbgeheaa.Od
