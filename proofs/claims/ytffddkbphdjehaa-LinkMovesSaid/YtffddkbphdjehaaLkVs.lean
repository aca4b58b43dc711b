/- The law LinkMoves at every world: with all windows so much later, and the horizon, a link is begun so much later. No conditions. -/
import Derived.Test.YtffddkbphdjehaaLkLives
import Derived.Test.YtffddkbphdjehaaLkKs
import Derived.Test.YtffddkbphdjehaaLkMv
import Derived.BigQuiet
namespace Go.Proofs.Ytffddkbphdjehaa.Lk
open Go.ChangeShapes Go.WideShapes Go.ChangeAt Go.RowKit Go.Sort
open Wn
set_option linter.unusedVariables false
set_option linter.unusedSimpArgs false
attribute [local go_sem] Oper.semAt_some

theorem len_y {x y : NtA} {n : Nat} (h : y.net = x.net) (hn : n = x.ls.length) : y.ls.length = n := by
  have e : y.net.lk.length = x.net.lk.length := by rw [h]
  rw [net_lkl, net_lkl] at e
  exact e.trans hn.symm
theorem len_r {x y : NtA} {n : Nat} (h : y.net = x.net) (hn : n = x.rs.length) : y.rs.length = n := by
  have e : y.net.cl.length = x.net.cl.length := by rw [h]
  rw [net_cll, net_cll] at e
  exact e.trans hn.symm
theorem below_al (W : World) (o : Obj) : Below W.heap.size W (W.alloc o) := (Below.refl _ _).alloc (Nat.le_refl _) o
/-- rows of a good net, told of a copy -/
theorem good_r {x y : NtA} (hok : ok x.net = true) (e : y.net = x.net) : ∀ q ∈ y.rs, good q.z = true := fun q hq =>
  (ok_parts hok).2.2.2.1 q.z (by rw [← e]; exact List.mem_map.2 ⟨q, hq, rfl⟩)
theorem good_k {x y : NtA} (hok : ok x.net = true) (e : y.net = x.net) : ∀ k ∈ y.ls, good k.l.op = true ∧ good k.l.cl = true := fun k hk => by
  have h := (ok_parts hok).2.2.2.2 k.l (by rw [← e]; exact List.mem_map.2 ⟨k, hk, rfl⟩)
  have g := (lgood_parts h).2.2.2.2
  exact ⟨g.1, g.2.1⟩
theorem ob_some {z : List Win} {p : Option Addr} {c g : Nat} (h : ob ⟨z, p, c⟩ = some g) {W : World} {B : Nat} (k : OwnR W B ⟨z, p, c⟩) : B ≤ g := (k.lt g h).1
/-- what a step keeps -/
theorem blk_step {W W' : World} {g : Nat} {t : TypeId} {l : List Value} {B : Nat} {q : RwA} (h : Blk W g t l) (k : OwnR W B q) (ht : 41 ≠ t) (hg : W.grownBy W' (ob q)) : Blk W' g t l :=
  h.grown hg (by
    rcases own_blk_ne k h ht with e | e
    · show some g ≠ (rwV q).ownBlock; rw [e]; simp
    · exact fun e2 => e e2.symm)
theorem below_step {w W W' : World} {b B : Nat} {q : RwA} (h : Below b w W) (k : OwnR W B q) (hb : b ≤ B) (hs : b ≤ W.heap.size) (hg : W.grownBy W' (ob q)) : Below b w W' :=
  h.grown hg hs (fun g e => Nat.le_trans hb (k.lt g e).1)
/-- the copy, all moved -/
def zN (d hz : Int) (rs : List RwA) (ls : List LnA) (p : Option Addr) (c : Nat) (q : Option Addr) (e : Nat) : NtA := ⟨hz + d, rs.map (lr d), ls.map (lk d), p, c, q, e⟩
theorem zN_lt {d hz : Int} {rs : List RwA} {ls : List LnA} {p : Option Addr} {c : Nat} {q : Option Addr} {e : Nat} (h : Lt6 ⟨hz, rs, ls, p, c, q, e⟩) : Lt (zN d hz rs ls p c q e) := by
  have g := h.lt
  refine ⟨by simpa [zN] using g.r, by simpa [zN] using g.l, fun r hr => ?_, fun r hr => ?_, fun r hr => ?_⟩
  · obtain ⟨a, ha, rfl⟩ := List.mem_map.1 hr
    have := g.rz a ha
    simpa [lr, laterL_length] using this
  · obtain ⟨a, ha, rfl⟩ := List.mem_map.1 hr
    have := g.lo a ha
    simpa [lk, lc, lo, laterL_length] using this
  · obtain ⟨a, ha, rfl⟩ := List.mem_map.1 hr
    have := g.lc a ha
    simpa [lk, lc, lo, laterL_length] using this
theorem zN_net {d hz : Int} {rs : List RwA} {ls : List LnA} {p : Option Addr} {c : Nat} {q : Option Addr} {e : Nat} {x : NtA} (h : NtA.net ⟨hz, rs, ls, p, c, q, e⟩ = x.net) : (zN d hz rs ls p c q e).net = laterN d x.net := by
  rw [← h]; exact net_moved ⟨hz, rs, ls, p, c, q, e⟩ d
theorem at_later (d : Int) (l : Ln) (c : Int) : at_ (laterK d l) c = at_ l c := rfl
/-- what the two answer, when neither is Inf -/
theorem at_far {n : Nt} {l : Ln} {d a : Int} (hn : ok n = true) (hl : lgood n l = true) (hd : 0 ≤ d ∧ d ≤ 1000) (hhz : n.hz ≤ 1099511626776) (ha : a ≠ inf) (hm : a = inf ∨ Lk.may n l a) (hc : a + d ≠ inf) :
    at_ l (a + d) = at_ l a + d ∧ IntKind.i64.wrap (a + d) = a + d ∧ IntKind.i64.wrap (at_ l a + d) = at_ l a + d := by
  rcases hm with e | e
  · exact absurd e ha
  · have i := may_inf hn hl e
    have hl0 := (lgood_parts hl).2.2.2.1
    have h0 := e.1
    have e1 : at_ l a = a + l.len := by unfold at_; rw [if_neg ha]
    have e2 : at_ l (a + d) = a + d + l.len := by unfold at_; rw [if_neg hc]
    refine ⟨by rw [e1, e2]; omega, IntWalk.i64_in _ (by omega), IntWalk.i64_in _ (by rw [e1]; omega)⟩
set_option maxRecDepth 100000 in
set_option maxHeartbeats 40000000 in
theorem moves_all (w : World) (x : NtA) (l t d : Int) (hX : NtOk w (· < w.heap.size) x) (hl : -9223372036854775808 ≤ l ∧ l ≤ 9223372036854775807) :
    Calls Try.prog 3 #[ntV x, .int .i64 l, .int .i64 t, .int .i64 d] w fun e w' => e = .returned (.bool true) ∧ Below w.heap.size w w' := by
  obtain ⟨n, hn⟩ : ∃ n, n = x.ls.length := ⟨_, rfl⟩
  obtain ⟨m, hm⟩ : ∃ m, m = x.rs.length := ⟨_, rfl⟩
  obtain ⟨C, hC⟩ : ∃ C, C = x.q := ⟨_, rfl⟩
  have Hn := Lib.hid hn
  have Hm := Lib.hid hm
  have HC := Lib.hid hC
  have B0 := Lib.hid ((Below.refl w.heap.size w).alloc (Nat.le_refl _) (.cells #[.int .i64 x.hz, .slice x.p m x.c, .slice C n x.d] 25))
  have N0 := Lib.hid (Blk.new w 25 [.int .i64 x.hz, .slice x.p m x.c, .slice C n x.d])
  have HX : Hid (∀ W, Below w.heap.size w W → NtOk W (· < W.heap.size) x) := Lib.hid fun W hW => hX.later hW
  have CV := Lib.hid (lives_any (w.alloc (.cells #[.int .i64 x.hz, .slice x.p m x.c, .slice C n x.d] 25)))
  have CL : Hid (∀ W, Below w.heap.size w W → Calls Try.prog 5 #[.agg #[.int .i64 x.hz, .slice x.p m x.c, .slice C n x.d], .int .i64 60, .int .i64 60, .int .i64 60] W (TB (Lt6 x) W)) := Lib.hid fun W hW => by rw [hn, hm, hC]; exact lightNet6_any x W (hX.later hW)
  have CC : Hid (∀ W, Lt x → Below w.heap.size w W → Calls Try.prog 6 #[.agg #[.int .i64 x.hz, .slice x.p m x.c, .slice C n x.d]] W fun e w' => e = .returned (.int .i64 (ck x.net)) ∧ Below W.heap.size W w') := Lib.hid fun W hlt hW => by rw [hn, hm, hC]; exact check_any x W (hX.later hW) hlt
  have CF : Hid (∀ W k y t, Lt x → ok x.net = true → x.ls[k]? = some y → tick t = true → Below w.heap.size w W → Calls Try.prog 10 #[.agg #[.int .i64 x.hz, .slice x.p m x.c, .slice C n x.d], .int .i64 (k : Nat), .int .i64 t] W fun e w' => ∃ f g : Int, e = .returned (.tuple #[.int .i64 f, .int .i64 g]) ∧ Hid (Fst x.net y.l t f ∧ g = at_ y.l f) ∧ Below W.heap.size W w') := Lib.hid fun W k y t hlt hok hy ht hW => by
    rw [hn, hm, hC]
    exact (First_ok x k y t W (hX.later hW) hlt hok hy ht).mono fun e w' hh => by
      obtain ⟨f, rfl, hf, hb⟩ := hh
      exact ⟨f, _, rfl, Lib.hid ⟨hf.out, rfl⟩, hb⟩
  have CON : Hid (∀ W, Lt x → Below w.heap.size w W → Calls Try.prog 8 #[.agg #[.int .i64 x.hz, .slice x.p m x.c, .slice C n x.d]] W (OwnNP2 x W)) := Lib.hid fun W hlt hW => by rw [hn, hm, hC]; exact ownNet2_any x W (hX.later hW) hlt
  show Calls _ _ #[.agg #[.int .i64 x.hz, .slice x.p x.rs.length x.c, .slice x.q x.ls.length x.d], .int .i64 l, .int .i64 t, .int .i64 d] _ _
  rw [← hn, ← hm, ← hC]
  clear hX hn hm hC
  go_enter Try.func3, Try.ntmps3
  go_wp2_with (first | (go_at_call 4; refine CV.out.mono ?_; rintro e w1 ⟨rfl, hb1⟩; have S := Lib.hid (B0.out.trans (hb1.mono B0.out.size)); have NB := Lib.hid (N0.out.after hb1); have n0 := bc0 NB.out; have n1 := bc1 NB.out; have n2 := bc2 NB.out) | (go_at_call 5; refine (CL.out _ S.out).mono ?_; rintro e w2 ⟨b, rfl, HB, hb2⟩; have S := Lib.hid (S.out.trans (hb2.mono S.out.size)); have NB := Lib.hid (NB.out.after hb2); have n0 := bc0 NB.out; have n1 := bc1 NB.out; have n2 := bc2 NB.out; cases b) | fail)
  · go_ret
    exact ⟨rfl, S.out⟩
  have HL6 := Lib.hid (HB.out (by first | rfl | trivial))
  have HLT := Lib.hid HL6.out.lt
  clear HB CV CL N0 B0
  have HCK : Hid (ck x.net = if ok x.net = true then 0 else 2) := Lib.hid rfl
  have CK := Lib.hid (CC.out _ HLT.out S.out)
  clear CC
  cases hok : ok x.net with
  | false =>
    have hk : ck x.net = 2 := by rw [HCK.out, hok]; rfl
    rw [hk] at CK
    clear hk HCK hok CF CON HLT HL6
    go_wp2_with (first | (go_at_call 6; refine CK.out.mono ?_; rintro e w3 ⟨rfl, hb3⟩) | fail)
    go_ret
    exact ⟨rfl, S.out.trans (hb3.mono S.out.size)⟩
  | true =>
    have hk : ck x.net = 0 := by rw [HCK.out, hok]; rfl
    rw [hk] at CK
    have HOK := Lib.hid hok
    clear hk HCK hok
    by_cases hc1 : n = 0
    · subst hc1
      go_wp2_with (first | (go_at_call 6; refine CK.out.mono ?_; rintro e w3 ⟨rfl, hb3⟩; have NB := Lib.hid (NB.out.after hb3); have S := Lib.hid (S.out.trans (hb3.mono S.out.size)); have n0 := bc0 NB.out; have n1 := bc1 NB.out; have n2 := bc2 NB.out) | fail)
      go_ret
      exact ⟨rfl, S.out⟩
    by_cases hc2 : d < 0
    · have hne : ((n : Int) == 0) = false := by simp; omega
      go_wp2_with (first | (go_at_call 6; refine CK.out.mono ?_; rintro e w3 ⟨rfl, hb3⟩; have NB := Lib.hid (NB.out.after hb3); have S := Lib.hid (S.out.trans (hb3.mono S.out.size)); have n0 := bc0 NB.out; have n1 := bc1 NB.out; have n2 := bc2 NB.out) | fail)
      go_ret
      exact ⟨rfl, S.out⟩
    by_cases hc3 : 1000 < d
    · have hne : ((n : Int) == 0) = false := by simp; omega
      go_wp2_with (first | (go_at_call 6; refine CK.out.mono ?_; rintro e w3 ⟨rfl, hb3⟩; have NB := Lib.hid (NB.out.after hb3); have S := Lib.hid (S.out.trans (hb3.mono S.out.size)); have n0 := bc0 NB.out; have n1 := bc1 NB.out; have n2 := bc2 NB.out) | fail)
      go_ret
      exact ⟨rfl, S.out⟩
    by_cases hc4 : t < 0
    · have hne : ((n : Int) == 0) = false := by simp; omega
      go_wp2_with (first | (go_at_call 6; refine CK.out.mono ?_; rintro e w3 ⟨rfl, hb3⟩; have NB := Lib.hid (NB.out.after hb3); have S := Lib.hid (S.out.trans (hb3.mono S.out.size)); have n0 := bc0 NB.out; have n1 := bc1 NB.out; have n2 := bc2 NB.out) | fail)
      go_ret
      exact ⟨rfl, S.out⟩
    by_cases hc5 : 1099511626776 < t
    · have hne : ((n : Int) == 0) = false := by simp; omega
      go_wp2_with (first | (go_at_call 6; refine CK.out.mono ?_; rintro e w3 ⟨rfl, hb3⟩; have NB := Lib.hid (NB.out.after hb3); have S := Lib.hid (S.out.trans (hb3.mono S.out.size)); have n0 := bc0 NB.out; have n1 := bc1 NB.out; have n2 := bc2 NB.out) | fail)
      go_ret
      exact ⟨rfl, S.out⟩
    by_cases hc6 : 1099511626776 < x.hz
    · have hne : ((n : Int) == 0) = false := by simp; omega
      go_wp2_with (first | (go_at_call 6; refine CK.out.mono ?_; rintro e w3 ⟨rfl, hb3⟩; have NB := Lib.hid (NB.out.after hb3); have S := Lib.hid (S.out.trans (hb3.mono S.out.size)); have n0 := bc0 NB.out; have n1 := bc1 NB.out; have n2 := bc2 NB.out) | fail)
      go_ret
      exact ⟨rfl, S.out⟩
    have hne : ((n : Int) == 0) = false := by simp; omega
    have hd : 0 ≤ d ∧ d ≤ 1000 := by omega
    have CP : Hid (∀ W, Calls Try.prog 7 #[.int .i64 l, .int .i64 n] W (PickPost n W)) := Lib.hid fun W => pick_any l n W hl.1 hl.2 (by omega) (by have := HLT.out.l; rw [← Hn.out] at this; omega)
    go_upto_region 6 with (first | (go_at_call 6; refine CK.out.mono ?_; rintro e w3 ⟨rfl, hb3⟩; have NB := Lib.hid (NB.out.after hb3); have S := Lib.hid (S.out.trans (hb3.mono S.out.size)); have n0 := bc0 NB.out; have n1 := bc1 NB.out; have n2 := bc2 NB.out) | (go_at_call 7; refine (CP.out _).mono ?_; rintro e w5 ⟨k, rfl, hk, rfl⟩; have hkl : (k : Int) < (n : Int) := hk.out) | fail)
    go_wp2_with (first | (go_at_call 8; have hsB := S.out.size; refine (CON.out _ HLT.out S.out).mono ?_; rintro e w6 ⟨⟨yz, yrs, yls, yp, yc, yq, yd⟩, rfl, HYN, HYO, HPW, hb6⟩; have HM0 : Hid (∃ B, w.heap.size ≤ B ∧ Mw w6 B ⟨yz, yrs, yls, yp, yc, yq, yd⟩) := HH ⟨_, hsB, HYO.out, HPW.out⟩; have S := Lib.hid (S.out.trans (hb6.mono S.out.size)); have NB := Lib.hid (NB.out.after hb6); have n0 := bc0 NB.out; have n1 := bc1 NB.out; have n2 := bc2 NB.out; have hyr : yrs.length = m := len_r HYN.out Hm.out; have hyl : yls.length = n := len_y HYN.out Hn.out; have hyz : yz = x.hz := congrArg Nt.hz HYN.out; have hzt := (tick_iff _).1 (ok_parts HOK.out).1; have hwz : IntKind.i64.wrap (yz + d) = yz + d := IntWalk.i64_in _ (by rw [hyz]; have : x.net.hz = x.hz := rfl; omega); have HYZ := HH hyz; have HHT := HH hzt; clear hyz hzt hsB hne) | fail)
    obtain ⟨B, hB, hmw⟩ := HM0.out
    have HSM := HH S.out.size
    have hb67 := below_al w6 (.cells #[.int .i64 (yz + d), .slice yp m yc, .slice yq n yd] 25)
    have HM := HH (hmw.after hb67)
    have NB := HH (NB.out.alloc (.cells #[.int .i64 (yz + d), .slice yp m yc, .slice yq n yd] 25))
    have MB := HH (Blk.new w6 25 [.int .i64 (yz + d), .slice yp m yc, .slice yq n yd])
    have S := HH (S.out.alloc S.out.size (.cells #[.int .i64 (yz + d), .slice yp m yc, .slice yq n yd] 25))
    have HYR := HH hyr
    have HYL := HH hyl
    have HGR : Hid (∀ q ∈ yrs, good q.z = true) := HH (good_r HOK.out HYN.out)
    have HGK : Hid (∀ k ∈ yls, good k.l.op = true ∧ good k.l.cl = true) := HH (good_k HOK.out HYN.out)
    have HLY : Hid (Lt6 ⟨yz, yrs, yls, yp, yc, yq, yd⟩) := HH (HL6.out.net HYN.out)
    have hm6 : m ≤ 60 := by rw [Hm.out]; exact HL6.out.r
    have hn6 : n ≤ 60 := by rw [Hn.out]; exact HL6.out.l
    clear hb67 hmw HM0 HYO HPW hb6 n0 n1 n2 hyr hyl hwz CON CK CP
    generalize w6.alloc (.cells #[.int .i64 (yz + d), .slice yp m yc, .slice yq n yd] 25) = w7 at *
    obtain ⟨M, hM⟩ : ∃ M, M = w6.heap.size := ⟨_, rfl⟩
    rw [← hM] at MB HSM ⊢
    clear hM
    go_loopw [10] (fun v10 wr => ∃ i : Nat, v10 = .int .i64 i ∧ i ≤ m ∧ Hid (Mw wr B ⟨yz, lts (lr d) i yrs, yls, yp, yc, yq, yd⟩) ∧ Hid (Blk wr M 25 [.int .i64 (yz + d), .slice yp m yc, .slice yq n yd]) ∧ Hid (Blk wr w.heap.size 25 [.int .i64 x.hz, .slice x.p m x.c, .slice C n x.d]) ∧ Hid (Below w.heap.size w wr)) (fun v10 _ => m - (intOf v10).toNat)
    case atStart => exact ⟨0, rfl, by omega, HH (by rw [lts_zero]; exact HM.out), MB, NB, S⟩
    case round =>
      obtain ⟨i, rfl, hi, HM, MB, NB, S⟩ := hrel
      by_cases hlt : i < m
      · have hiz : (i : Int) < (m : Int) := by omega
        obtain ⟨q, hq⟩ : ∃ q, yrs[i]? = some q := ⟨_, List.getElem?_eq_getElem (by rw [HYR.out]; exact hlt)⟩
        obtain ⟨g, hg, hc, hown⟩ := HM.out.rowAt (lts_at (lr d) i yrs q hq)
        dsimp only at hg
        subst hg
        have hadd := add0 g i
        have n1 := bc1 MB.out
        have CLA := HH (later_any q d B wr hown hd (win_lim (HGR.out q (List.mem_of_getElem? hq))) (by have := HLY.out.rz q (List.mem_of_getElem? hq); omega))
        have HQ := HH hq
        have HOW := HH hown
        clear hq hown
        go_wp2_with (first | (go_at_call 9; refine CLA.out.mono ?_; rintro e w8 ⟨rfl, HO8, HG8⟩) | fail)
        have HM2 := HM.out.stepR (lts_at (lr d) i yrs q HQ.out) HO8.out HG8.out
        dsimp only at HM2
        rw [lts_set (lr d) i yrs q HQ.out] at HM2
        have HM := HH HM2
        have MB := HH (blk_step MB.out HOW.out (by decide) HG8.out)
        have NB := HH (blk_step NB.out HOW.out (by decide) HG8.out)
        have S := HH (below_step S.out HOW.out hB S.out.size HG8.out)
        clear HM2 n1 hadd hc
        go_roundw
        case rel => exact ⟨i + 1, by go_num, by omega, HM, MB, NB, S⟩
        case measure => simp [intOf]; omega
      · have hin : m = i := by omega
        subst hin
        have n1 := bc1 MB.out
        have HMA := HH (show Mw wr B ⟨yz, yrs.map (lr d), yls, yp, yc, yq, yd⟩ by have h := HM.out; rw [← HYR.out, lts_all] at h; exact h)
        clear HM hlt
        go_wp2
        clear n1
        go_loopw [11] (fun v11 wr => ∃ i : Nat, v11 = .int .i64 i ∧ i ≤ n ∧ Hid (Mw wr B ⟨yz, yrs.map (lr d), lts (lk d) i yls, yp, yc, yq, yd⟩) ∧ Hid (Blk wr M 25 [.int .i64 (yz + d), .slice yp m yc, .slice yq n yd]) ∧ Hid (Blk wr w.heap.size 25 [.int .i64 x.hz, .slice x.p m x.c, .slice C n x.d]) ∧ Hid (Below w.heap.size w wr)) (fun v11 _ => n - (intOf v11).toNat)
        case atStart => exact ⟨0, rfl, by omega, HH (by rw [lts_zero]; exact HMA.out), MB, NB, S⟩
        clear HMA MB NB S
        case round =>
          obtain ⟨i, rfl, hi, HM, MB, NB, S⟩ := hrel
          by_cases hlt : i < n
          · have hiz : (i : Int) < (n : Int) := by omega
            obtain ⟨k0, hk0⟩ : ∃ k0, yls[i]? = some k0 := ⟨_, List.getElem?_eq_getElem (by rw [HYL.out]; exact hlt)⟩
            obtain ⟨g, hg, hc5, -, hown⟩ := HM.out.linkAt (lts_at (lk d) i yls k0 hk0)
            dsimp only at hg
            subst hg
            have hadd := add0 g (i * 7)
            have n2 := bc2 MB.out
            have hgk := HGK.out k0 (List.mem_of_getElem? hk0)
            have CLA := HH (later_any ⟨k0.l.op, k0.p, k0.c⟩ d B wr hown.o hd (win_lim hgk.1) (by have := HLY.out.lo k0 (List.mem_of_getElem? hk0); dsimp only; omega))
            have HK0 := HH hk0
            have HOW := HH hown
            have HGL := HH hgk
            clear hk0 hown hgk
            go_upto_region 16 with (first | (go_at_call 9; refine CLA.out.mono ?_; rintro e w8 ⟨rfl, HO8, HG8⟩) | fail)
            have HM2 := HM.out.stepO (d := d) (lts_at (lk d) i yls k0 HK0.out) HO8.out HG8.out
            dsimp only at HM2
            have MB := HH (blk_step MB.out HOW.out.o (by decide) HG8.out)
            have NB := HH (blk_step NB.out HOW.out.o (by decide) HG8.out)
            have S := HH (below_step S.out HOW.out.o hB S.out.size HG8.out)
            have hat2 : ((lts (lk d) i yls).set i (lo d k0))[i]? = some (lo d k0) := List.getElem?_set_self (by rw [lts_length, HYL.out]; exact hlt)
            obtain ⟨g', hg', -, hc6, hown⟩ := HM2.linkAt hat2
            dsimp only at hg'
            obtain rfl : g = g' := by injection hg' with h; injection h
            clear hg'
            have n2 := bc2 MB.out
            have CLB := HH (later_any ⟨k0.l.cl, k0.q, k0.d⟩ d B w8 hown.c hd (win_lim HGL.out.2) (by have := HLY.out.lc k0 (List.mem_of_getElem? HK0.out); dsimp only; omega))
            have HOW := HH hown
            have HM := HH HM2
            have hc6 : w8.cell? ⟨g, i * 7 + 6, none⟩ = some (.slice k0.q k0.l.cl.length k0.d) := hc6
            clear HO8 HG8 HM2 hc5 CLA hown
            go_wp2_with (first | (go_at_call 9; refine CLB.out.mono ?_; rintro e w9 ⟨rfl, HO9, HG9⟩) | fail)
            have HM2 := HM.out.stepC (d := d) hat2 HO9.out HG9.out
            dsimp only at HM2
            rw [List.set_set, show lc d (lo d k0) = lk d k0 from rfl, lts_set (lk d) i yls k0 HK0.out] at HM2
            have HM := HH HM2
            have MB := HH (blk_step MB.out HOW.out.c (by decide) HG9.out)
            have NB := HH (blk_step NB.out HOW.out.c (by decide) HG9.out)
            have S := HH (below_step S.out HOW.out.c hB S.out.size HG9.out)
            clear HM2 n2 hadd hc6 hat2
            go_roundw
            case rel => exact ⟨i + 1, by go_num, by omega, HM, MB, NB, S⟩
            case measure => simp [intOf]; omega
          · have hin : n = i := by omega
            subst hin
            have n2 := bc2 MB.out
            have HMA := HH (show Mw wr B ⟨yz, yrs.map (lr d), yls.map (lk d), yp, yc, yq, yd⟩ by have h := HM.out; rw [← HYL.out, lts_all] at h; exact h)
            clear HM hlt
            go_upto_region 17 with fail
            have HV : Hid (ntV (zN d yz yrs yls yp yc yq yd) = .agg #[.int .i64 (yz + d), .slice yp m yc, .slice yq n yd]) := HH (by
              show Value.agg #[.int .i64 (yz + d), .slice yp (yrs.map (lr d)).length yc, .slice yq (yls.map (lk d)).length yd] = _
              rw [List.length_map, List.length_map, HYR.out, HYL.out])
            have HNT : Hid (∀ W, Below wr.heap.size wr W → NtOk W (· < W.heap.size) (zN d yz yrs yls yp yc yq yd)) := HH fun W hW => ((HMA.out.after hW).hz (yz + d)).1.nt
            have HLZ : Hid (Lt (zN d yz yrs yls yp yc yq yd)) := HH (zN_lt HLY.out)
            have HNZ : Hid ((zN d yz yrs yls yp yc yq yd).net = laterN d x.net) := HH (zN_net HYN)
            have CK2 := check_any (zN d yz yrs yls yp yc yq yd) wr (HNT.out wr (Below.refl _ _)) HLZ.out
            rw [HV.out] at CK2
            have CK2 := HH CK2
            have n0 := bc0 MB.out
            have n1 := bc1 MB.out
            obtain ⟨kx, hkx⟩ : ∃ kx, x.ls[k]? = some kx := ⟨_, List.getElem?_eq_getElem (by have := Hn.out; omega)⟩
            have hkz : (zN d yz yrs yls yp yc yq yd).ls[k]? = some (lk d (yls[k]'(by rw [HYL.out]; omega))) := by
              show (yls.map (lk d))[k]? = _
              rw [List.getElem?_map, List.getElem?_eq_getElem (by rw [HYL.out]; omega)]; rfl
            generalize hkv : lk d (yls[k]'(by rw [HYL.out]; omega)) = kz at hkz
            have hkl : kz.l = laterK d kx.l := by
              have e1 := net_lk (zN d yz yrs yls yp yc yq yd) k
              rw [hkz, HNZ.out] at e1
              have e2 := net_lk x k
              rw [hkx] at e2
              have e3 : (laterN d x.net).lk[k]? = (x.net.lk[k]?).map (laterK d) := by simp [laterN]
              rw [e3, e2] at e1
              simpa using e1.symm
            have HKX := HH hkx
            have HKZ := HH hkz
            have HKL := HH hkl
            have hlgx : lgood x.net kx.l = true := (ok_parts HOK.out).2.2.2.2 kx.l (List.mem_map.2 ⟨kx, List.mem_of_getElem? hkx, rfl⟩)
            have HLGX := HH hlgx
            clear hkx hkz hkl hkv hlgx HMA
            have HCK : Hid (ck (zN d yz yrs yls yp yc yq yd).net = if ok (zN d yz yrs yls yp yc yq yd).net = true then 0 else 2) := Lib.hid rfl
            cases hok : ok (zN d yz yrs yls yp yc yq yd).net with
            | false =>
              have hk2 : ck (zN d yz yrs yls yp yc yq yd).net = 2 := by rw [HCK.out, hok]; rfl
              rw [hk2] at CK2
              clear hk2 HCK hok
              go_wp2_with (first | (go_at_call 6; refine CK2.out.mono ?_; rintro e w3 ⟨rfl, hb3⟩) | fail)
              go_ret
              exact ⟨rfl, S.out.trans (hb3.mono S.out.size)⟩
            | true =>
              have hk2 : ck (zN d yz yrs yls yp yc yq yd).net = 0 := by rw [HCK.out, hok]; rfl
              rw [hk2] at CK2
              have HOZ := HH hok
              clear hk2 HCK hok
              have htt : tick t = true := (tick_iff t).2 (by omega)
              have htd : tick (t + d) = true := (tick_iff _).2 (by omega)
              have hwt : IntKind.i64.wrap (t + d) = t + d := IntWalk.i64_in _ (by omega)
              have CZ : Hid (∀ W, Below wr.heap.size wr W → Calls Try.prog 10 #[.agg #[.int .i64 (yz + d), .slice yp m yc, .slice yq n yd], .int .i64 (k : Nat), .int .i64 (t + d)] W fun e w' => ∃ f g : Int, e = .returned (.tuple #[.int .i64 f, .int .i64 g]) ∧ Hid (Fst (laterN d x.net) (laterK d kx.l) (t + d) f ∧ g = at_ kx.l f) ∧ Below W.heap.size W w') := HH fun W hW => by
                have h := First_ok (zN d yz yrs yls yp yc yq yd) k kz (t + d) W (HNT.out W hW) HLZ.out HOZ.out HKZ.out htd
                rw [HV.out] at h
                refine h.mono fun e w' hh => ?_
                obtain ⟨f, rfl, hf, hb⟩ := hh
                have hf := hf.out
                rw [HNZ.out, HKL.out] at hf
                exact ⟨f, _, rfl, HH ⟨hf, by rw [HKL.out]; rfl⟩, hb⟩
              have hc4' : 0 ≤ t := by omega
              have hc6' : x.net.hz ≤ 1099511626776 := by show x.hz ≤ _; omega
              go_upto_region 21 with (first | (go_at_call 6; refine CK2.out.mono ?_; rintro e w3 ⟨rfl, hb3⟩; have S := HH (S.out.trans (hb3.mono S.out.size)); have NB := HH (NB.out.after hb3); have MB := HH (MB.out.after hb3); have HB3 := HH hb3; have n0 := bc0 MB.out; have n1 := bc1 MB.out; have n2 := bc2 MB.out; have x0 := bc0 NB.out; have x1 := bc1 NB.out; have x2 := bc2 NB.out; clear hb3) | (go_at_call 10; with_reducible refine (CF.out _ k kx t HLT.out HOK.out HKX.out htt S.out).mono ?_; rintro e w4 ⟨a, b, rfl, HA, hb4⟩; have S := HH (S.out.trans (hb4.mono S.out.size)); have MB := HH (MB.out.after hb4); have HB4 := HH (HB3.out.trans (hb4.mono HB3.out.size)); have n0 := bc0 MB.out; have n1 := bc1 MB.out; have n2 := bc2 MB.out; clear hb4 x0 x1 x2) | (go_at_call 10; with_reducible refine (CZ.out _ HB4.out).mono ?_; rintro e w5 ⟨c, g2, rfl, HC2, hb5⟩; have S := HH (S.out.trans (hb5.mono S.out.size)); clear hb5) | fail)
              have hF := first_later hc4' hd.1 hd.2 HOK.out HLGX.out HA.out.1 HC2.out.1
              have hne := HA.out.1.may
              rcases hF with ⟨ha, hc⟩ | ⟨ha, hc, hac⟩
              · have hb : b = 4611686018427387904 := by rw [HA.out.2]; unfold at_; rw [if_pos ha]
                have hg2 : g2 = 4611686018427387904 := by rw [HC2.out.2]; unfold at_; rw [if_pos hc]
                have ha : a = 4611686018427387904 := ha
                have hc : c = 4611686018427387904 := hc
                clear HA HC2 hne
                subst ha
                subst hc
                subst hb
                subst hg2
                go_wp2_with fail
                go_ret
                exact ⟨rfl, S.out⟩
              · obtain ⟨e1, e2, e3⟩ := at_far HOK.out HLGX.out hd hc6' ha hne (by rw [hac]; exact hc)
                have hgb : g2 = b + d := by rw [HC2.out.2, ← hac, e1, ← HA.out.2]
                rw [← HA.out.2] at e3
                have ea : (a == 4611686018427387904) = false := by simpa using ha
                have ec : (a + d == 4611686018427387904) = false := by rw [hac]; simpa using hc
                subst hac
                subst hgb
                clear HA HC2 hne ha hc e1
                go_wp2_with fail
                go_ret
                exact ⟨rfl, S.out⟩
end Go.Proofs.Ytffddkbphdjehaa.Lk
