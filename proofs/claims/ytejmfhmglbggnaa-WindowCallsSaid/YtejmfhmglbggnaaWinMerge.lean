/- Package window's generic merge with row.ahead: it hands over all windows of both rows, each time from the one that is ahead. Conditions: the rows hold fewer than a million windows together. -/
import Derived.RangeFuncBox
import Derived.RangeFuncLeaves
import Derived.Shelf.Abstract
import Derived.OwnWalkIn
import Derived.TacticsInMore
import Derived.LoopNIn
import Derived.LoopIn
import Derived.BigRegionIn
import Derived.Maps.AppendAt
import Derived.Lib.SliceRun
import Derived.Test.YtejmfhmglbggnaaWinFirst
import Derived.IntWalk
namespace Go.Proofs.Ytejmfhmglbggnaa.Wn
open Go.ChangeShapes Go.WideShapes Go.ChangeAt Go.RowKit Go.Shelf
set_option linter.unusedVariables false
set_option linter.unusedSimpArgs false
attribute [local go_sem] Oper.semAt_some

/-- is what is next in a row ahead of what is next in another? -/
def hd : List Win → List Win → Bool
  | [], _ => false
  | _ :: _, [] => true
  | a :: _, b :: _ => decide (a.1 < b.1)
theorem ms_step (xs ys : List Win) (h : 0 < xs.length + ys.length) : (hd ys xs = true ∧ ∃ p r, ys = p :: r ∧ ms xs ys = p :: ms r xs) ∨ (hd ys xs = false ∧ ∃ p r, xs = p :: r ∧ ms xs ys = p :: ms r ys) := by
  cases xs with
  | nil =>
    cases ys with
    | nil => simp at h
    | cons b t => exact .inl ⟨rfl, b, t, rfl, by rw [ms_nil_l, ms_nil_r]⟩
  | cons a s =>
    cases ys with
    | nil => exact .inr ⟨rfl, a, s, rfl, by rw [ms_nil_r, ms_nil_r]⟩
    | cons b t =>
      by_cases hb : b.1 < a.1
      · exact .inl ⟨by simp [hd, hb], b, t, rfl, ms_lt hb⟩
      · exact .inr ⟨by simp [hd]; omega, a, s, rfl, ms_ge hb⟩

theorem ahead_any (w : World) (A B : Option Addr) (n m c d : Nat) (xs ys : List Win) (hn : Hid (n = xs.length)) (hm : Hid (m = ys.length)) (hN : n ≤ 1000000) (hM : m ≤ 1000000) (hx : Rd w (· < w.heap.size) A (kc xs)) (hy : Rd w (· < w.heap.size) B (kc ys)) :
    Calls Try.prog 38 #[.slice A n c, .slice B m d] w fun e w' => e = .returned (.bool (hd xs ys)) ∧ Below w.heap.size w w' := by
  have hn' := hn.out
  have hm' := hm.out
  cases xs with
  | nil =>
    obtain rfl : n = 0 := hn'
    go_enter Try.func38, Try.ntmps38
    go_wp2
    go_ret
    exact ⟨rfl, Below.refl _ _⟩
  | cons a s =>
    have h0 : ¬ n = 0 := by simp at hn'; omega
    have h0' : (0 : Int) < (n : Int) := by omega
    cases ys with
    | nil =>
      obtain rfl : m = 0 := hm'
      have e1 : ((n : Int) == 0) = false := by simp; omega
      clear hn'
      go_enter Try.func38, Try.ntmps38
      go_wp2
      go_ret
      exact ⟨ret_b (by simp [hd]; omega), Below.refl _ _⟩
    | cons b t =>
      have h1 : ¬ m = 0 := by simp at hm'; omega
      have h1' : (0 : Int) < (m : Int) := by omega
      obtain ⟨ad, rfl, _, hca⟩ := hx.key2 (k := 0) (by simp)
      obtain ⟨bd, rfl, _, hcb⟩ := hy.key2 (k := 0) (by simp)
      have ha := (hca 0 (by simp)).1
      have hb := (hcb 0 (by simp)).1
      have e0 : ∀ a : Addr, a.add 0 = a := fun a => by simp [Addr.add]
      have e1 : ((n : Int) == 0) = false := by simp; omega
      have e2 : ((m : Int) == 0) = false := by simp; omega
      simp only [Nat.zero_mul, List.getD_cons_zero, e0] at ha hb
      clear e0
      obtain ⟨a1, a2⟩ := a
      obtain ⟨b1, b2⟩ := b
      dsimp only at ha hb
      have HR : Hid (hd ((a1, a2) :: s) ((b1, b2) :: t) = decide (a1 < b1)) := Lib.hid rfl
      clear hca hcb hn' hm' hx hy
      go_enter Try.func38, Try.ntmps38
      go_wp2
      go_quiet (fail)
      go_wp2
      go_ret
      exact ⟨ret_b HR.out, below_drewN (Below.refl _ _) _⟩

theorem below_drew {B : Nat} {a w : World} (h : Below B a w) : Below B a w.drew := ⟨h.os, h.tape, h.output, h.size, h.block⟩
def lenV : Value → Nat | .slice _ n _ => n | _ => 0
/-- where the merge stands: what is left of both -/
def MsRel (w0 : World) (B : Nat) (all : List Win) (J : List Win → World → Prop) (v5 v6 : Value) (wr : World) : Prop :=
  ∃ (A1 A2 : Option Addr) (n m c d : Nat) (xs ys pre : List Win), v5 = .slice A1 n c ∧ v6 = .slice A2 m d ∧ Hid (n = xs.length) ∧ Hid (m = ys.length) ∧ n ≤ c ∧ m ≤ d ∧ n + m ≤ 1000000 ∧
    Hid (Rd w0 (· < w0.heap.size) A1 (kc xs)) ∧ Hid (Rd w0 (· < w0.heap.size) A2 (kc ys)) ∧ Hid (pre ++ ms xs ys = all) ∧ Hid (J pre wr) ∧ Hid (Below w0.heap.size w0 wr) ∧ Hid (Blk wr (B + 2) 57 [.func (.func 38) #[] #[]])

set_option maxRecDepth 100000 in
set_option maxHeartbeats 2000000 in
theorem merge1_in (l B : Nat) (w0 : World) (A1 A2 : Option Addr) (n m c d : Nat) (xs ys : List Win) (hn : Hid (n = xs.length)) (hm : Hid (m = ys.length)) (hN : n + m ≤ 1000000) (hnc : n ≤ c) (hmd : m ≤ d)
    (hx : Rd w0 (· < w0.heap.size) A1 (kc xs)) (hy2 : Rd w0 (· < w0.heap.size) A2 (kc ys)) (hB0 : w0.heap.size ≤ B)
    (J Jx : List Win → World → Prop) (W : World) (hJ : AbidesFrom W.heap.size J)
    (hY : ∀ pre x W1, J pre W1 → pre.length < (ms xs ys).length → YieldAt Fence.wide 4 Try.prog l (encw x) W1 fun e W' =>
      (e = .returned (.bool true) ∧ J (pre ++ [x]) W' ∧ KpB w0.heap.size B 3 W1 W') ∨ (e = .returned (.bool false) ∧ Jx (pre ++ [x]) W'))
    (hb : Below w0.heap.size w0 W) (hR1 : Blk W B 54 [.slice A1 n c]) (hR2 : Blk W (B + 1) 54 [.slice A2 m d]) (hF : Blk W (B + 2) 57 [.func (.func 38) #[] #[]]) (h0 : J [] W) :
    CallsIn Fence.wide 5 Try.prog 47 #[.func (.yield l) #[] #[], .pointer (some ⟨B, 0, none⟩), .pointer (some ⟨B + 1, 0, none⟩), .pointer (some ⟨B + 2, 0, none⟩)] W fun e W' => (∃ v, e = .returned v) ∧
      (J (ms xs ys) W' ∨ (∃ pre : List Win, Jx pre W')) := by
  have HX := Lib.hid hx
  have HY := Lib.hid hy2
  have r1 := hR1.cell 0
  have r2 := hR2.cell 0
  simp only [List.getElem?_cons_zero] at r1 r2
  clear hx hy2
  refine callsIn_of_wp Try.func47 rfl trivial ?_ rfl
  simp only [Try.ntmps47, List.size_toArray, List.length_cons, List.length_nil, Nat.reduceAdd, Nat.reduceSub, Array.replicate_succ, Array.replicate_zero, List.push_toArray, List.append_toArray, List.nil_append, List.cons_append]
  gi_wp2
  gi_region
  gi_wp2
  have HBd := Lib.hid (hb.trans ((below_drew (Below.refl _ W)).mono hb.size))
  have HJd := Lib.hid (J_below hJ h0 (below_drew (Below.refl _ W)))
  have HFd : Hid (Blk W.drew (B + 2) 57 [.func (.func 38) #[] #[]]) := Lib.hid hF
  clear r1 r2 hb h0 hF hR1 hR2
  gi_loopw [5, 6] (fun v5 v6 wr => MsRel w0 B (ms xs ys) J v5 v6 wr) (fun v5 v6 _ => lenV v5 + lenV v6)
  case atStart => exact ⟨A1, A2, n, m, c, d, xs, ys, [], rfl, rfl, hn, hm, hnc, hmd, hN, HX, HY, Lib.hid rfl, HJd, HBd, HFd⟩
  case round =>
    clear HBd HJd HFd HX HY hn hm hN hnc hmd
    obtain ⟨A1, A2, n, m, c, d, ps, qs, pre, rfl, rfl, hn, hm, hnc, hmd, hN, HX, HY, HA, hJs, hbw, hF⟩ := hrel
    by_cases hlt : 0 < n + m
    · have hi : (0 : Int) < (n : Int) + (m : Int) := by omega
      have hf0 := hF.out.cell 0
      simp only [List.getElem?_cons_zero] at hf0
      have CA : Hid (CallsIn Fence.wide 4 Try.prog 38 #[.slice A2 m d, .slice A1 n c] wr fun e w1 => e = .returned (.bool (hd qs ps)) ∧ Below wr.heap.size wr w1) := Lib.hid (callsIn_wide.2 (ahead_any wr A2 A1 m n d c qs ps hm hn (by omega) (by omega) ((HY.out.below2 hbw.out).more fun b hb => Nat.lt_of_lt_of_le hb hbw.out.size) ((HX.out.below2 hbw.out).more fun b hb => Nat.lt_of_lt_of_le hb hbw.out.size)))
      have hst := ms_step ps qs (by have := hn.out; have := hm.out; omega)
      rcases hst with ⟨h1, p, r, rfl, h2⟩ | ⟨h1, p, r, rfl, h2⟩
      · rw [h1] at CA
        have HA2 := HA.out
        rw [h2] at HA2
        have hlp : pre.length < (ms xs ys).length := by rw [← HA2]; simp
        have HA3 := Lib.hid HA2
        obtain ⟨ad, rfl, _, hcc⟩ := HY.out.key2 (k := 0) (by simp)
        have HC : Hid (∀ w1, Below wr.heap.size wr w1 → w1.cell? ad = some (.int .i64 p.1) ∧ w1.cell? ⟨ad.block, ad.off + 1, none⟩ = some (.int .i64 p.2)) := Lib.hid fun w1 h1 => by
          obtain ⟨bd, e, _, hcb⟩ := (HY.out.below2 (below_then hbw.out h1 hbw.out.size)).key2 (k := 0) (by simp)
          injection e with e
          subst e
          simpa [Addr.add] using hcb 0 (by simp)
        have HD : Hid (Rd w0 (· < w0.heap.size) (if d = 1 then some ad else some (ad.add 2)) (kc r)) := Lib.hid (by
          have h := HY.out.drop (k := 2) (c := d = 1) (fun h => by have := hm.out; simp [kc_length, kc_cons] at h this; omega)
          exact h)
        have hn2 : m = r.length + 1 := hm.out
        have hn3 : ¬ m = 0 := by omega
        have hn1 : (0 : Int) < (m : Int) := by omega
        have hn4 : (1 : Int) ≤ (m : Int) := by omega
        have hn5 : (m : Int) ≤ (d : Int) := by omega
        have HL : Hid (m - 1 = r.length) := Lib.hid (by omega)
        obtain ⟨p1, p2⟩ := p
        dsimp only at HC
        clear hcc h1 h2 hn2 HA2
        gi_wp2_with (refine ⟨trivial, ?_⟩; gi_at_call 38; refine CA.out.mono ?_; rintro e w1 ⟨rfl, hb1⟩; have HB1 := Lib.hid hb1; clear hb1; obtain ⟨c0, c1⟩ := HC.out w1 HB1.out; obtain ⟨fn, tmps, assign, body, hy, hR⟩ := hY pre (p1, p2) w1 (J_below hJ hJs.out HB1.out) hlp; dsimp only [encw] at hy)
        refine hR.mono ?_
        clear hR hy c0 c1
        rintro e W3 (⟨rfl, hJ3, hk3⟩ | ⟨rfl, hJx3⟩)
        · have HJ3 := Lib.hid hJ3
          have HK3 := Lib.hid hk3
          clear hJ3 hk3
          gi_wp2
          go_roundw
          case rel => exact ⟨_, A1, m - 1, n, d - 1, c, r, ps, pre ++ [(p1, p2)], rfl, rfl, HL, hn, by omega, by omega, by omega, HD, HX, Lib.hid (by rw [List.append_assoc]; exact HA3.out), HJ3, Lib.hid (below_then hbw.out HB1.out hbw.out.size |>.trans HK3.out.1), Lib.hid (HK3.out.blk (by omega) (by omega) (hF.out.after HB1.out))⟩
          case measure => simp [lenV]; omega
        · have HJ3 := Lib.hid hJx3
          clear hJx3
          gi_wp2
          refine bodyPost_ret (results_none rfl _ _ _) rfl ?_
          exact ⟨⟨_, rfl⟩, .inr ⟨_, HJ3.out⟩⟩
      · rw [h1] at CA
        have HA2 := HA.out
        rw [h2] at HA2
        have hlp : pre.length < (ms xs ys).length := by rw [← HA2]; simp
        have HA3 := Lib.hid HA2
        obtain ⟨ad, rfl, _, hcc⟩ := HX.out.key2 (k := 0) (by simp)
        have HC : Hid (∀ w1, Below wr.heap.size wr w1 → w1.cell? ad = some (.int .i64 p.1) ∧ w1.cell? ⟨ad.block, ad.off + 1, none⟩ = some (.int .i64 p.2)) := Lib.hid fun w1 h1 => by
          obtain ⟨bd, e, _, hcb⟩ := (HX.out.below2 (below_then hbw.out h1 hbw.out.size)).key2 (k := 0) (by simp)
          injection e with e
          subst e
          simpa [Addr.add] using hcb 0 (by simp)
        have HD : Hid (Rd w0 (· < w0.heap.size) (if c = 1 then some ad else some (ad.add 2)) (kc r)) := Lib.hid (by
          have h := HX.out.drop (k := 2) (c := c = 1) (fun h => by have := hn.out; simp [kc_length, kc_cons] at h this; omega)
          exact h)
        have hn2 : n = r.length + 1 := hn.out
        have hn3 : ¬ n = 0 := by omega
        have hn1 : (0 : Int) < (n : Int) := by omega
        have hn4 : (1 : Int) ≤ (n : Int) := by omega
        have hn5 : (n : Int) ≤ (c : Int) := by omega
        have HL : Hid (n - 1 = r.length) := Lib.hid (by omega)
        obtain ⟨p1, p2⟩ := p
        dsimp only at HC
        clear hcc h1 h2 hn2 HA2
        gi_wp2_with (refine ⟨trivial, ?_⟩; gi_at_call 38; refine CA.out.mono ?_; rintro e w1 ⟨rfl, hb1⟩; have HB1 := Lib.hid hb1; clear hb1; obtain ⟨c0, c1⟩ := HC.out w1 HB1.out; obtain ⟨fn, tmps, assign, body, hy, hR⟩ := hY pre (p1, p2) w1 (J_below hJ hJs.out HB1.out) hlp; dsimp only [encw] at hy)
        refine hR.mono ?_
        clear hR hy c0 c1
        rintro e W3 (⟨rfl, hJ3, hk3⟩ | ⟨rfl, hJx3⟩)
        · have HJ3 := Lib.hid hJ3
          have HK3 := Lib.hid hk3
          clear hJ3 hk3
          gi_wp2
          go_roundw
          case rel => exact ⟨_, A2, n - 1, m, c - 1, d, r, qs, pre ++ [(p1, p2)], rfl, rfl, HL, hm, by omega, by omega, by omega, HD, HY, Lib.hid (by rw [List.append_assoc]; exact HA3.out), HJ3, Lib.hid (below_then hbw.out HB1.out hbw.out.size |>.trans HK3.out.1), Lib.hid (HK3.out.blk (by omega) (by omega) (hF.out.after HB1.out))⟩
          case measure => simp [lenV]; omega
        · have HJ3 := Lib.hid hJx3
          clear hJx3
          gi_wp2
          refine bodyPost_ret (results_none rfl _ _ _) rfl ?_
          exact ⟨⟨_, rfl⟩, .inr ⟨_, HJ3.out⟩⟩
    · obtain rfl : n = 0 := by omega
      obtain rfl : m = 0 := by omega
      have HE : Hid (pre = ms xs ys) := Lib.hid (by
        have h1 : ps = [] := List.eq_nil_of_length_eq_zero hn.out.symm
        have h2 : qs = [] := List.eq_nil_of_length_eq_zero hm.out.symm
        subst h1; subst h2
        have := HA.out
        rw [ms_nil_l, List.append_nil] at this
        exact this)
      gi_wp2
      go_end0
      exact ⟨⟨_, rfl⟩, .inl (by rw [← HE.out]; exact hJs.out)⟩

/-- the iterator's contract -/
theorem merge_stops (B : Nat) (w0 : World) (A1 A2 : Option Addr) (n m c d : Nat) (xs ys : List Win) (hn : Hid (n = xs.length)) (hm : Hid (m = ys.length)) (hN : n + m ≤ 1000000) (hnc : n ≤ c) (hmd : m ≤ d)
    (hx : Rd w0 (· < w0.heap.size) A1 (kc xs)) (hy2 : Rd w0 (· < w0.heap.size) A2 (kc ys)) (hB0 : w0.heap.size ≤ B)
    (w : World) (hb : Below w0.heap.size w0 w) (hR1 : Blk w B 54 [.slice A1 n c]) (hR2 : Blk w (B + 1) 54 [.slice A2 m d]) (hF : Blk w (B + 2) 57 [.func (.func 38) #[] #[]]) :
    SeqStopsK Fence.wide 5 Try.prog 47 #[.pointer (some ⟨B, 0, none⟩), .pointer (some ⟨B + 1, 0, none⟩), .pointer (some ⟨B + 2, 0, none⟩)] encw (KpB w0.heap.size B 3) (fun ys' => ys' = ms xs ys) (fun _ => True) (ms xs ys).length w := fun l J Jx W hW hJ _ hY h0 =>
  (merge1_in l B w0 A1 A2 n m c d xs ys hn hm hN hnc hmd hx hy2 hB0 J Jx W hJ hY (hb.trans (hW.mono hb.size)) (hR1.below hW hR1.lt) (hR2.below hW hR2.lt) (hF.below hW hF.lt) h0).mono fun e W' ⟨he, hj⟩ => ⟨he, hj.elim (fun h => .inl ⟨_, rfl, h⟩) (fun ⟨pre, h⟩ => .inr ⟨pre, trivial, h⟩)⟩

/-- making the iterator lays its three boxes -/
theorem merge_any (A1 A2 : Option Addr) (n m c d : Nat) (w : World) :
    Calls Try.prog 37 #[.slice A1 n c, .slice A2 m d, .func (.func 38) #[] #[]] w fun e w' => e = .returned (.func (.func 47) #[] #[.pointer (some ⟨w.heap.size, 0, none⟩), .pointer (some ⟨w.heap.size + 1, 0, none⟩), .pointer (some ⟨w.heap.size + 2, 0, none⟩)]) ∧ w' = ((w.alloc (.cells #[.slice A1 n c] 54)).alloc (.cells #[.slice A2 m d] 54)).alloc (.cells #[.func (.func 38) #[] #[]] 57) := by
  go_enter Try.func37, Try.ntmps37
  go_wp2
  go_ret
  exact ⟨rfl, rfl⟩
end Go.Proofs.Ytejmfhmglbggnaa.Wn
