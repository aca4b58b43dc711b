/- The law LinkWaits at every world: to be earlier is never worse; the first tick is one at which it may be taken, and none ahead of it is. No conditions. -/
import Derived.Test.YtmfocopokadloaaLkLives
import Derived.Test.YtmfocopokadloaaLkKit
import Derived.Test.YtmfocopokadloaaWinAsk
import Derived.BigQuiet
namespace Go.Proofs.Ytmfocopokadloaa.Lk
open Go.ChangeShapes Go.WideShapes Go.ChangeAt Go.RowKit Go.Sort
open Wn
set_option linter.unusedVariables false
set_option linter.unusedSimpArgs false
attribute [local go_sem] Oper.semAt_some

theorem bh' {zs : List Win} (hg : good zs = true) {z : Int} (hz : tick z = true) : clear zs z 1 ↔ hs zs z = false := by
  rw [clear_one, ← hs_mem hg hz]; simp
/-- closed at none of the ticks, window by window -/
def clrB (zs : List Win) (z len : Int) : Bool := zs.all fun v => decide (v.2 ≤ z ∨ z + len ≤ v.1)
theorem clrB_iff (zs : List Win) (z len : Int) : clrB zs z len = true ↔ clear zs z len := by
  unfold clrB clear
  simp only [List.all_eq_true, decide_eq_true_eq]
  constructor
  · rintro h v hv ⟨h1, h2⟩; have := h v hv; omega
  · intro h v hv; have := h v hv; omega
theorem clrB_nil (z len : Int) : clrB [] z len = true := rfl
theorem clrB_take {zs : List Win} {i : Nat} (hi : i < zs.length) (z len : Int) : clrB (zs.take (i + 1)) z len = (clrB (zs.take i) z len && decide ((zs.getD i (0, 0)).2 ≤ z ∨ z + len ≤ (zs.getD i (0, 0)).1)) := by
  have e : zs.take (i + 1) = zs.take i ++ [zs[i]] := by rw [List.take_add_one, List.getElem?_eq_getElem hi]; rfl
  have g : zs.getD i (0, 0) = zs[i] := by simp [List.getD_eq_getElem?_getD, List.getElem?_eq_getElem hi]
  unfold clrB
  rw [e, g, List.all_append]
  simp only [List.all_cons, List.all_nil, Bool.and_true]
/-- it may not, it may -/
def Nm (x : Nt) (l : Ln) (z : Int) : Prop := ¬ Lk.may x l z
def Ym (x : Nt) (l : Ln) (z : Int) : Prop := Lk.may x l z
theorem nm_of {x : Nt} {l : Ln} {z : Int} (h : false = true ↔ Lk.may x l z) : Nm x l z := fun hm => by have := h.2 hm; cases this
theorem ym_of {x : Nt} {l : Ln} {z : Int} (h : true = true ↔ Lk.may x l z) : Ym x l z := h.1 rfl
theorem nm_b {x : Nt} {l : Ln} {z : Int} {b : Bool} (h : Nm x l z) (hb : b = true ↔ Lk.may x l z) : false = b := by
  cases b with
  | false => rfl
  | true => exact absurd (hb.1 rfl) h
theorem ym_b {x : Nt} {l : Ln} {z : Int} {b : Bool} (h : Ym x l z) (hb : b = true ↔ Lk.may x l z) : true = b := (hb.2 h).symm
theorem free_no {x : Nt} {l : Ln} {z : Int} (h : ¬ z ≤ x.hz - l.len) : false = true ↔ Lk.may x l z := ⟨fun h => (by cases h), fun hm => absurd hm.2.1 h⟩
theorem free_iff {x : Nt} {l : Ln} {z : Int} (hok : ok x = true) (hlg : lgood x l = true) (hz : tick z = true) (h : z ≤ x.hz - l.len) (f : Bool) (hf : f = (!hs (row x l.a) z && (if l.door = true then hs l.op z else clrB l.cl z l.len))) : f = true ↔ Lk.may x l z := by
  have hp := lgood_parts hlg
  have hr := (ok_parts hok).2.2.2.1 _ (row_mem hp.1.1 hp.1.2)
  have h0 := (tick_iff z).1 hz
  rw [hf]
  unfold Lk.may
  rw [bh' hr hz]
  cases hd : l.door with
  | true =>
    simp only [if_true, Bool.and_eq_true, Bool.not_eq_true', hs_mem hp.2.2.2.2.1 hz]
    exact ⟨fun ⟨a, b⟩ => ⟨h0.1, h, a, b⟩, fun ⟨_, _, a, b⟩ => ⟨a, b⟩⟩
  | false =>
    simp only [Bool.false_eq_true, if_false, Bool.and_eq_true, Bool.not_eq_true', clrB_iff]
    exact ⟨fun ⟨a, b⟩ => ⟨h0.1, h, a, b⟩, fun ⟨_, _, a, b⟩ => ⟨a, b⟩⟩
theorem waits_rel {x : Nt} {l : Ln} {s t a b c d : Int} (hok : ok x = true) (hlg : lgood x l = true) (h : Fst x l s a ∧ b = at_ l a) (k : Fst x l t c ∧ d = at_ l c) (hst : s ≤ t) : a ≤ c ∧ b ≤ d ∧ s ≤ a ∧ t ≤ c ∧ ((a = 4611686018427387904 ∧ b = 4611686018427387904) ∨ (a ≠ 4611686018427387904 ∧ b ≠ 4611686018427387904 ∧ b = a + l.len ∧ a + l.len ≤ x.hz ∧ Lk.may x l a)) := by
  obtain ⟨h1, rfl⟩ := h
  obtain ⟨k1, rfl⟩ := k
  have hac := h1.mono k1 hst
  refine ⟨hac, at_mono hok hlg h1.may k1.top hac, h1.le, k1.le, ?_⟩
  by_cases ha : a = 4611686018427387904
  · left; exact ⟨ha, (at_inf hok hlg h1.may).2 ha⟩
  · have hm := h1.may.resolve_left ha
    have hi := may_inf hok hlg hm
    right
    exact ⟨ha, fun e => ha ((at_inf hok hlg h1.may).1 e), by unfold at_; rw [if_neg ha], hi.2.1, hm⟩
set_option maxRecDepth 100000 in
set_option maxHeartbeats 40000000 in
theorem waits_all (w : World) (x : NtA) (l s t z : Int) (hX : NtOk w (· < w.heap.size) x) (hl : -9223372036854775808 ≤ l ∧ l ≤ 9223372036854775807) :
    Calls Try.prog 3 #[ntV x, .int .i64 l, .int .i64 s, .int .i64 t, .int .i64 z] w fun e w' => e = .returned (.bool true) ∧ Below w.heap.size w w' := by
  obtain ⟨n, hn⟩ : ∃ n, n = x.ls.length := ⟨_, rfl⟩
  obtain ⟨m, hm⟩ : ∃ m, m = x.rs.length := ⟨_, rfl⟩
  obtain ⟨C, hC⟩ : ∃ C, C = x.q := ⟨_, rfl⟩
  obtain ⟨P, hP⟩ : ∃ P, P = x.p := ⟨_, rfl⟩
  have Hn := Lib.hid hn
  have Hm := Lib.hid hm
  have HC := Lib.hid hC
  have HP := Lib.hid hP
  have B0 := Lib.hid ((Below.refl w.heap.size w).alloc (Nat.le_refl _) (.cells #[.int .i64 x.hz, .slice P m x.c, .slice C n x.d] 25))
  have N0 := Lib.hid (Blk.new w 25 [.int .i64 x.hz, .slice P m x.c, .slice C n x.d])
  have HX : Hid (∀ W, Below w.heap.size w W → NtOk W (· < W.heap.size) x) := Lib.hid fun W hW => hX.later hW
  have CV := Lib.hid (lives_any (w.alloc (.cells #[.int .i64 x.hz, .slice P m x.c, .slice C n x.d] 25)))
  have CL : Hid (∀ W, Below w.heap.size w W → Calls Try.prog 7 #[.agg #[.int .i64 x.hz, .slice P m x.c, .slice C n x.d], .int .i64 60, .int .i64 60, .int .i64 60] W (TB (Lt x) W)) := Lib.hid fun W hW => by rw [hn, hm, hC, hP]; exact lightNet_any x W (hX.later hW)
  have CC : Hid (∀ W, Lt x → Below w.heap.size w W → Calls Try.prog 8 #[.agg #[.int .i64 x.hz, .slice P m x.c, .slice C n x.d]] W fun e w' => e = .returned (.int .i64 (ck x.net)) ∧ Below W.heap.size W w') := Lib.hid fun W hlt hW => by rw [hn, hm, hC, hP]; exact check_any x W (hX.later hW) hlt
  have CF : Hid (∀ W k y t, Lt x → ok x.net = true → x.ls[k]? = some y → tick t = true → Below w.heap.size w W → Calls Try.prog 10 #[.agg #[.int .i64 x.hz, .slice P m x.c, .slice C n x.d], .int .i64 (k : Nat), .int .i64 t] W fun e w' => ∃ f g : Int, e = .returned (.tuple #[.int .i64 f, .int .i64 g]) ∧ Hid (Fst x.net y.l t f ∧ g = at_ y.l f) ∧ Below W.heap.size W w') := Lib.hid fun W k y t hlt hok hy ht hW => by
    rw [hn, hm, hC, hP]
    exact (First_ok x k y t W (hX.later hW) hlt hok hy ht).mono fun e w' hh => by
      obtain ⟨f, rfl, hf, hb⟩ := hh
      exact ⟨f, _, rfl, Lib.hid ⟨hf.out, rfl⟩, hb⟩
  have CM : Hid (∀ W k y t, Lt x → ok x.net = true → x.ls[k]? = some y → Below w.heap.size w W → Calls Try.prog 11 #[.agg #[.int .i64 x.hz, .slice P m x.c, .slice C n x.d], .int .i64 (k : Nat), .int .i64 t] W fun e w' => ∃ b : Bool, e = .returned (.bool b) ∧ Hid (b = true ↔ Lk.may x.net y.l t) ∧ Below W.heap.size W w') := Lib.hid fun W k y t hlt hok hy hW => by rw [hn, hm, hC, hP]; exact May_ok x k y t W (hX.later hW) hlt hok hy
  show Calls _ _ #[.agg #[.int .i64 x.hz, .slice x.p x.rs.length x.c, .slice x.q x.ls.length x.d], .int .i64 l, .int .i64 s, .int .i64 t, .int .i64 z] _ _
  rw [← hn, ← hm, ← hC, ← hP]
  clear hX hn hm hC hP
  go_enter Try.func3, Try.ntmps3
  go_wp2_with (first | (go_at_call 6; refine CV.out.mono ?_; rintro e w1 ⟨rfl, hb1⟩; have S := Lib.hid (B0.out.trans (hb1.mono B0.out.size)); have NB := Lib.hid (N0.out.after hb1); have n0 := bc0 NB.out; have n1 := bc1 NB.out; have n2 := bc2 NB.out) | (go_at_call 7; refine (CL.out _ S.out).mono ?_; rintro e w2 ⟨b, rfl, HB, hb2⟩; have S := Lib.hid (S.out.trans (hb2.mono S.out.size)); have NB := Lib.hid (NB.out.after hb2); have n0 := bc0 NB.out; have n1 := bc1 NB.out; have n2 := bc2 NB.out; cases b) | fail)
  · go_ret
    exact ⟨rfl, S.out⟩
  have HLT := Lib.hid (HB.out (by first | rfl | trivial))
  clear HB CV CL N0 B0
  have HCK : Hid (ck x.net = if ok x.net = true then 0 else 2) := Lib.hid rfl
  have CK := Lib.hid (CC.out _ HLT.out S.out)
  clear CC
  cases hok : ok x.net with
  | false =>
    have hk : ck x.net = 2 := by rw [HCK.out, hok]; rfl
    rw [hk] at CK
    clear hk HCK hok CF CM HLT
    go_wp2_with (first | (go_at_call 8; refine CK.out.mono ?_; rintro e w3 ⟨rfl, hb3⟩) | fail)
    go_ret
    exact ⟨rfl, S.out.trans (hb3.mono S.out.size)⟩
  | true =>
    have hk : ck x.net = 0 := by rw [HCK.out, hok]; rfl
    rw [hk] at CK
    have HOK := Lib.hid hok
    clear hk HCK hok
    by_cases hc1 : n = 0
    · subst hc1
      go_wp2_with (first | (go_at_call 8; refine CK.out.mono ?_; rintro e w3 ⟨rfl, hb3⟩; have NB := Lib.hid (NB.out.after hb3); have S := Lib.hid (S.out.trans (hb3.mono S.out.size)); have n0 := bc0 NB.out; have n1 := bc1 NB.out; have n2 := bc2 NB.out) | fail)
      go_ret
      exact ⟨rfl, S.out⟩
    by_cases hc2 : s < 0
    · have hne : ((n : Int) == 0) = false := by simp; omega
      go_wp2_with (first | (go_at_call 8; refine CK.out.mono ?_; rintro e w3 ⟨rfl, hb3⟩; have NB := Lib.hid (NB.out.after hb3); have S := Lib.hid (S.out.trans (hb3.mono S.out.size)); have n0 := bc0 NB.out; have n1 := bc1 NB.out; have n2 := bc2 NB.out) | fail)
      go_ret
      exact ⟨rfl, S.out⟩
    by_cases hc3 : t < s
    · have hne : ((n : Int) == 0) = false := by simp; omega
      go_wp2_with (first | (go_at_call 8; refine CK.out.mono ?_; rintro e w3 ⟨rfl, hb3⟩; have NB := Lib.hid (NB.out.after hb3); have S := Lib.hid (S.out.trans (hb3.mono S.out.size)); have n0 := bc0 NB.out; have n1 := bc1 NB.out; have n2 := bc2 NB.out) | fail)
      go_ret
      exact ⟨rfl, S.out⟩
    by_cases hc4 : 1099511627776 < t
    · have hne : ((n : Int) == 0) = false := by simp; omega
      go_wp2_with (first | (go_at_call 8; refine CK.out.mono ?_; rintro e w3 ⟨rfl, hb3⟩; have NB := Lib.hid (NB.out.after hb3); have S := Lib.hid (S.out.trans (hb3.mono S.out.size)); have n0 := bc0 NB.out; have n1 := bc1 NB.out; have n2 := bc2 NB.out) | fail)
      go_ret
      exact ⟨rfl, S.out⟩
    by_cases hc5 : z < s
    · have hne : ((n : Int) == 0) = false := by simp; omega
      go_wp2_with (first | (go_at_call 8; refine CK.out.mono ?_; rintro e w3 ⟨rfl, hb3⟩; have NB := Lib.hid (NB.out.after hb3); have S := Lib.hid (S.out.trans (hb3.mono S.out.size)); have n0 := bc0 NB.out; have n1 := bc1 NB.out; have n2 := bc2 NB.out) | fail)
      go_ret
      exact ⟨rfl, S.out⟩
    by_cases hc6 : 1099511627776 < z
    · have hne : ((n : Int) == 0) = false := by simp; omega
      go_wp2_with (first | (go_at_call 8; refine CK.out.mono ?_; rintro e w3 ⟨rfl, hb3⟩; have NB := Lib.hid (NB.out.after hb3); have S := Lib.hid (S.out.trans (hb3.mono S.out.size)); have n0 := bc0 NB.out; have n1 := bc1 NB.out; have n2 := bc2 NB.out) | fail)
      go_ret
      exact ⟨rfl, S.out⟩
    have hne : ((n : Int) == 0) = false := by simp; omega
    have CP : Hid (∀ W, Calls Try.prog 9 #[.int .i64 l, .int .i64 n] W (PickPost n W)) := Lib.hid fun W => pick_any l n W hl.1 hl.2 (by omega) (by have := HLT.out.l; rw [← Hn.out] at this; omega)
    go_wp2_with (first | (go_at_call 8; refine CK.out.mono ?_; rintro e w3 ⟨rfl, hb3⟩; have NB := Lib.hid (NB.out.after hb3); have S := Lib.hid (S.out.trans (hb3.mono S.out.size)); have n0 := bc0 NB.out; have n1 := bc1 NB.out; have n2 := bc2 NB.out) | (go_at_call 9; refine (CP.out _).mono ?_; rintro e w4 ⟨k, rfl, hk, rfl⟩; obtain ⟨y, hy⟩ : ∃ y, x.ls[k]? = some y := ⟨_, List.getElem?_eq_getElem (by rw [← Hn.out]; have := hk.out; omega)⟩; obtain ⟨ad, had, hS, ⟨h0, h1, h2, h3, h4, h5, h6⟩, hlk⟩ := (HX.out _ S.out).link hy; obtain rfl : C = some ad := HC.out.trans had; have hkl : (k : Int) < (n : Int) := hk.out; have HY := Lib.hid hy; have NA := Lib.hid (NB.out.alloc (.cells #[.int .i64 y.l.a, .int .i64 y.l.b, .int .i64 y.l.len, .bool y.l.door, .int .i64 y.l.of, .slice y.p y.l.op.length y.c, .slice y.q y.l.cl.length y.d] 33)); have a0 := bc0 NA.out; have a1 := bc1 NA.out; have a2 := bc2 NA.out; clear hy had hlk) | fail)
    have SA := Lib.hid (S.out.alloc S.out.size (.cells #[.int .i64 y.l.a, .int .i64 y.l.b, .int .i64 y.l.len, .bool y.l.door, .int .i64 y.l.of, .slice y.p y.l.op.length y.c, .slice y.q y.l.cl.length y.d] 33))
    have KB := Lib.hid (Blk.new w3 33 [.int .i64 y.l.a, .int .i64 y.l.b, .int .i64 y.l.len, .bool y.l.door, .int .i64 y.l.of, .slice y.p y.l.op.length y.c, .slice y.q y.l.cl.length y.d])
    have HLG : Hid (lgood x.net y.l = true) := Lib.hid ((ok_parts HOK.out).2.2.2.2 y.l (List.mem_map.2 ⟨y, List.mem_of_getElem? HY.out, rfl⟩))
    have HHZ : Hid (0 ≤ x.hz ∧ x.hz ≤ 1099511627776) := Lib.hid ((tick_iff _).1 (ok_parts HOK.out).1)
    have hts : tick s = true := (tick_iff s).2 (by omega)
    have htt : tick t = true := (tick_iff t).2 (by omega)
    have htz : tick z = true := (tick_iff z).2 (by omega)
    clear h0 h1 h2 h3 h4 h5 h6 n0 n1 n2 a0 a1 a2
    have NB := NA
    clear NA
    have n0 := bc0 NB.out
    have n1 := bc1 NB.out
    have n2 := bc2 NB.out
    go_wp2_with (first | (go_at_call 10; with_reducible refine (CF.out _ k y s HLT.out HOK.out HY.out hts SA.out).mono ?_; rintro e w5 ⟨a, b, rfl, HA, hb5⟩; have NB := Lib.hid (NB.out.after hb5); have KB := Lib.hid (KB.out.after hb5); have SA := Lib.hid (SA.out.trans (hb5.mono SA.out.size)); have n0 := bc0 NB.out; have n1 := bc1 NB.out; have n2 := bc2 NB.out) | fail)
    have hp := lgood_parts HLG.out
    obtain ⟨ka, hka⟩ : ∃ ka : Nat, y.l.a = ka := ⟨y.l.a.toNat, by have := hp.1.1; omega⟩
    have hkm : ka < x.rs.length := by have := hp.1.2; rw [net_cll] at this; omega
    obtain ⟨r, hr⟩ : ∃ r, x.rs[ka]? = some r := ⟨_, List.getElem?_eq_getElem hkm⟩
    obtain ⟨adp, hadp, -, -, -⟩ := (HX.out _ SA.out).row_ hr
    obtain rfl : P = some adp := HP.out.trans hadp
    have HRW : Hid (∀ W, Below w.heap.size w W → W.cell? (adp.add ka) = some (.slice r.p r.z.length r.c)) := Lib.hid fun W hW => by
      obtain ⟨adq, hadq, -, hc, -⟩ := (HX.out W hW).row_ hr
      obtain rfl : adp = adq := Option.some.inj (hadp.symm.trans hadq)
      simpa using hc
    have HROW : Hid (row x.net y.l.a = r.z) := Lib.hid (by
      unfold row
      rw [hka, List.getD_eq_getElem?_getD, show ((ka : Int)).toNat = ka by omega, net_cl, hr]; rfl)
    have hzl : r.z.length ≤ 10000 := HLT.out.rz r (List.mem_of_getElem? hr)
    have hyl : y.l.op.length ≤ 10000 ∧ y.l.cl.length ≤ 10000 := ⟨HLT.out.lo y (List.mem_of_getElem? HY.out), HLT.out.lc y (List.mem_of_getElem? HY.out)⟩
    have HLKW : Hid (∀ W, Below w.heap.size w W → LnOk W (· < W.heap.size) y) := Lib.hid fun W hW => (HX.out W hW).hl y (List.mem_of_getElem? HY.out)
    have CHC : Hid (∀ W, Below w.heap.size w W → Calls Try.prog 12 #[.slice r.p r.z.length r.c, .int .i64 z] W fun e w' => e = .returned (.bool (hs r.z z)) ∧ Below W.heap.size W w') := Lib.hid fun W hW => refhas_any W _ _ _ _ z (Lib.hid rfl) (by omega) ((HX.out W hW).hr r (List.mem_of_getElem? hr)).rd
    have CHO : Hid (∀ W, Below w.heap.size w W → Calls Try.prog 12 #[.slice y.p y.l.op.length y.c, .int .i64 z] W fun e w' => e = .returned (.bool (hs y.l.op z)) ∧ Below W.heap.size W w') := Lib.hid fun W hW => refhas_any W _ _ _ _ z (Lib.hid rfl) (by omega) (HLKW.out W hW).ro
    have hmk : (ka : Int) < (m : Int) := by rw [Hm.out]; omega
    have HWZ : Hid (IntKind.i64.wrap (z + y.l.len) = z + y.l.len) := Lib.hid (IntWalk.i64_in _ (by have := hp.2.2.2.1; omega))
    have hl1 : 0 < y.l.len := hp.2.2.2.1.1
    have hl2 : y.l.len ≤ 1099511627776 := hp.2.2.2.1.2
    obtain ⟨hz1, hz2⟩ := HHZ.out
    go_at_call 10
    with_reducible refine (CF.out _ k y t HLT.out HOK.out HY.out htt SA.out).mono ?_
    rintro e w6 ⟨c, d, rfl, HC6, hb6⟩
    obtain ⟨r1, r2, r3, r4, hor⟩ := waits_rel HOK.out HLG.out HA.out HC6.out (by omega)
    have HAZ : Hid (∀ f : Bool, (f = true ↔ Lk.may x.net y.l z) → f = true → a ≤ z) := Lib.hid fun f hf h => by
      rcases Int.lt_or_le z a with h' | h'
      · exact absurd (hf.1 h) (HA.out.1.none_ z (by omega) h')
      · exact h'
    have NB := Lib.hid (NB.out.after hb6); have KB := Lib.hid (KB.out.after hb6); have SA := Lib.hid (SA.out.trans (hb6.mono SA.out.size)); have n0 := bc0 NB.out; have n1 := bc1 NB.out; have n2 := bc2 NB.out; have k0 := bc0 KB.out; have k2 := bc2 KB.out; have k3 := bc3 KB.out; have k5 := bc5 KB.out; have k6 := bc6 KB.out; have hcr := HRW.out _ SA.out
    have HFI : Hid (∀ f : Bool, z ≤ x.hz - y.l.len → f = (!hs r.z z && (if y.l.door = true then hs y.l.op z else clrB y.l.cl z y.l.len)) → (f = true ↔ Lk.may x.net y.l z)) := Lib.hid fun f h1 h2 => free_iff HOK.out HLG.out htz h1 f (by rw [HROW.out]; exact h2)
    have HFN : Hid (¬ z ≤ x.hz - y.l.len → (false = true ↔ Lk.may x.net y.l z)) := Lib.hid fun h => free_no h
    have HHD : Hid (y.l.door = y.l.door) := Lib.hid rfl
    clear hp hr hadp HA HC6 HROW HHZ hb5 hb6 hb3 hb2
    obtain ⟨dr, hdr⟩ : ∃ dr, dr = y.l.door := ⟨_, rfl⟩
    rw [← hdr] at HFI k3 KB
    obtain ⟨Q, hQ⟩ : ∃ Q, Q = y.q := ⟨_, rfl⟩
    obtain ⟨m2, hm2⟩ : ∃ m2, m2 = y.l.cl.length := ⟨_, rfl⟩
    have HQ := Lib.hid hQ
    have HM2 := Lib.hid hm2
    rw [← hQ, ← hm2] at KB k6
    have HRQ : Hid (∀ W, Below w.heap.size w W → ∀ i, i < m2 → ∃ ad, Q = some ad ∧ W.cell? (ad.add (i * 2)) = some (.int .i64 (y.l.cl.getD i (0, 0)).1) ∧ W.cell? ⟨(ad.add (i * 2)).block, (ad.add (i * 2)).off + 1, none⟩ = some (.int .i64 (y.l.cl.getD i (0, 0)).2)) := Lib.hid fun W hW i hi => by
      have hil : i < y.l.cl.length := by rw [← hm2]; exact hi
      obtain ⟨ad, had, -, hca⟩ := (HLKW.out W hW).rc.key2 (k := i) hil
      exact ⟨ad, hQ.trans had, (hca i hil).1, (hca i hil).2⟩
    have hm2b : m2 ≤ 10000 := by rw [hm2]; exact hyl.2
    clear hdr hQ hm2 HHD hyl hkm
    rcases hor with ⟨ha, hb⟩ | ⟨ha, hb, hbe, hle, hm⟩
    · subst ha
      subst hb
      by_cases hzc : z ≤ x.hz - y.l.len
      · obtain ⟨hv, hhv⟩ : ∃ hv, hv = hs r.z z := ⟨_, rfl⟩
        obtain ⟨ho, hho⟩ : ∃ ho, ho = hs y.l.op z := ⟨_, rfl⟩
        rw [← hhv] at CHC HFI
        rw [← hho] at CHO HFI
        clear hhv hho
        cases dr
        · cases hv
          · as_aux_lemma =>
              go_wp2_with (first | (go_at_call 12; with_reducible refine (CHC.out _ SA.out).mono ?_; rintro e w8 ⟨rfl, hb8⟩; have NB := Lib.hid (NB.out.after hb8); have KB := Lib.hid (KB.out.after hb8); have SA := Lib.hid (SA.out.trans (hb8.mono SA.out.size)); have n0 := bc0 NB.out; have n1 := bc1 NB.out; have n2 := bc2 NB.out; have k0 := bc0 KB.out; have k2 := bc2 KB.out; have k3 := bc3 KB.out; have k5 := bc5 KB.out; have k6 := bc6 KB.out; have hcr := HRW.out _ SA.out) | fail)
              clear n0 n1 n2 k0 k2 k3 k5 k6 hcr
              have HMQ : Hid (∀ f, f = clrB y.l.cl z y.l.len → (f = true ↔ Lk.may x.net y.l z)) := Lib.hid fun f hf => HFI.out f hzc (by rw [hf]; simp)
              clear HFI
              go_loopw [16, 17] (fun v16 v17 wr => ∃ (i : Nat) (fb : Bool), v16 = .bool fb ∧ v17 = .int .i64 i ∧ i ≤ m2 ∧ Hid (fb = clrB (y.l.cl.take i) z y.l.len) ∧ Hid (Below w.heap.size w wr) ∧ Hid (Blk wr w.heap.size 25 [.int .i64 x.hz, .slice (some adp) m x.c, .slice (some ad) n x.d]) ∧ Hid (Blk wr w3.heap.size 33 [.int .i64 y.l.a, .int .i64 y.l.b, .int .i64 y.l.len, .bool false, .int .i64 y.l.of, .slice y.p y.l.op.length y.c, .slice Q m2 y.d])) (fun _ v17 _ => m2 - (intOf v17).toNat)
              case atStart => exact ⟨0, true, rfl, rfl, by omega, Lib.hid rfl, SA, NB, KB⟩
              case round =>
                obtain ⟨i, fb, rfl, rfl, hi, HFB, SA, NB, KB⟩ := hrel
                have n0 := bc0 NB.out
                have n1 := bc1 NB.out
                have n2 := bc2 NB.out
                have k2 := bc2 KB.out
                have k6 := bc6 KB.out
                have hwz : IntKind.i64.wrap (z + y.l.len) = z + y.l.len := HWZ.out
                by_cases hlt : i < m2
                · have hiz : (i : Int) < (m2 : Int) := by omega
                  have HT : Hid (clrB (y.l.cl.take (i + 1)) z y.l.len = (fb && decide ((y.l.cl.getD i (0, 0)).2 ≤ z ∨ z + y.l.len ≤ (y.l.cl.getD i (0, 0)).1))) := Lib.hid (by rw [HFB.out]; exact clrB_take (by rw [← HM2.out]; exact hlt) z y.l.len)
                  obtain ⟨adq, rfl, p1, p2⟩ := HRQ.out _ SA.out i hlt
                  generalize y.l.cl.getD i (0, 0) = pp at p1 p2 HT
                  obtain ⟨q1, q2⟩ := pp
                  dsimp only at p1 p2 HT
                  clear HFB
                  cases fb with
                  | false =>
                    have HT2 : Hid (false = clrB (y.l.cl.take (i + 1)) z y.l.len) := Lib.hid (by rw [HT.out]; rfl)
                    clear HT
                    go_wp2
                    go_quiet (fail)
                    go_wp2
                    go_roundw
                    case rel => exact ⟨i + 1, false, (by first | rfl | (simp [c1]; done) | (simp [c1, c2]; done) | (rw [hwz]; simp [c1, c2])), by go_num, by omega, HT2, Lib.hid (below_drewN SA.out _), Lib.hid NB.out, Lib.hid KB.out⟩
                    case measure => simp [intOf]; omega
                  | true =>
                    by_cases c1 : q2 ≤ z
                    · have HT2 : Hid (true = clrB (y.l.cl.take (i + 1)) z y.l.len) := Lib.hid (by rw [HT.out]; simp [c1])
                      clear HT
                      go_wp2
                      go_quiet (fail)
                      go_wp2
                      go_roundw
                      case rel => exact ⟨i + 1, true, (by first | rfl | (simp [c1]; done) | (simp [c1, c2]; done) | (rw [hwz]; simp [c1, c2])), by go_num, by omega, HT2, Lib.hid (below_drewN SA.out _), Lib.hid NB.out, Lib.hid KB.out⟩
                      case measure => simp [intOf]; omega
                    · by_cases c2 : z + y.l.len ≤ q1
                      · have HT2 : Hid (true = clrB (y.l.cl.take (i + 1)) z y.l.len) := Lib.hid (by rw [HT.out]; simp [c2])
                        clear HT
                        go_wp2
                        go_quiet (fail)
                        go_wp2
                        go_roundw
                        case rel => exact ⟨i + 1, true, (by first | rfl | (simp [c1]; done) | (simp [c1, c2]; done) | (rw [hwz]; simp [c1, c2])), by go_num, by omega, HT2, Lib.hid (below_drewN SA.out _), Lib.hid NB.out, Lib.hid KB.out⟩
                        case measure => simp [intOf]; omega
                      · have HT2 : Hid (false = clrB (y.l.cl.take (i + 1)) z y.l.len) := Lib.hid (by rw [HT.out]; simp [c1, c2])
                        clear HT
                        go_wp2
                        go_quiet (fail)
                        go_wp2
                        go_roundw
                        case rel => exact ⟨i + 1, false, (by first | rfl | (simp [c1]; done) | (simp [c1, c2]; done) | (rw [hwz]; simp [c1, c2])), by go_num, by omega, HT2, Lib.hid (below_drewN SA.out _), Lib.hid NB.out, Lib.hid KB.out⟩
                        case measure => simp [intOf]; omega
                · have HMF : Hid (fb = true ↔ Lk.may x.net y.l z) := Lib.hid (HMQ.out fb (by rw [HFB.out, List.take_of_length_le (by rw [← HM2.out]; omega)]))
                  have HZ2 := HAZ.out fb HMF.out
                  clear HMQ HFB
                  cases fb with
                  | false =>
                    have HMF := Lib.hid (nm_of HMF.out)
                    clear HZ2
                    go_wp2_with (first | (go_at_call 11; with_reducible refine (CM.out _ k y z HLT.out HOK.out HY.out SA.out).mono ?_; rintro e w9 ⟨b9, rfl, HB9, hb9⟩; obtain rfl : false = b9 := nm_b HMF.out HB9.out; have SZ := Lib.hid (SA.out.trans (hb9.mono SA.out.size))) | fail)
                    go_ret
                    exact ⟨rfl, SZ.out⟩
                  | true =>
                    have haz : 4611686018427387904 ≤ z := HZ2 rfl
                    exact absurd haz (by omega)
          · as_aux_lemma =>
              have HMF : Hid (Nm x.net y.l z) := Lib.hid (nm_of (HFI.out _ hzc rfl))
              clear HFI HFN HAZ
              go_wp2_with (first | (go_at_call 12; with_reducible refine (CHC.out _ SA.out).mono ?_; rintro e w8 ⟨rfl, hb8⟩; have NB := Lib.hid (NB.out.after hb8); have KB := Lib.hid (KB.out.after hb8); have SA := Lib.hid (SA.out.trans (hb8.mono SA.out.size)); have n0 := bc0 NB.out; have n1 := bc1 NB.out; have n2 := bc2 NB.out; have k0 := bc0 KB.out; have k2 := bc2 KB.out; have k3 := bc3 KB.out; have k5 := bc5 KB.out; have k6 := bc6 KB.out; have hcr := HRW.out _ SA.out) | fail)
              clear n0 n1 n2 k0 k2 k3 k5 k6 hcr
              go_loopw [16, 17] (fun v16 v17 wr => ∃ i : Nat, v16 = .bool false ∧ v17 = .int .i64 i ∧ i ≤ m2 ∧ Hid (Below w.heap.size w wr) ∧ Hid (Blk wr w.heap.size 25 [.int .i64 x.hz, .slice (some adp) m x.c, .slice (some ad) n x.d]) ∧ Hid (Blk wr w3.heap.size 33 [.int .i64 y.l.a, .int .i64 y.l.b, .int .i64 y.l.len, .bool false, .int .i64 y.l.of, .slice y.p y.l.op.length y.c, .slice Q m2 y.d])) (fun _ v17 _ => m2 - (intOf v17).toNat)
              case atStart => exact ⟨0, rfl, rfl, by omega, SA, NB, KB⟩
              case round =>
                obtain ⟨i, rfl, rfl, hi, SA, NB, KB⟩ := hrel
                have n0 := bc0 NB.out
                have n1 := bc1 NB.out
                have n2 := bc2 NB.out
                have k2 := bc2 KB.out
                have k6 := bc6 KB.out
                by_cases hlt : i < m2
                · have hiz : (i : Int) < (m2 : Int) := by omega
                  go_wp2
                  go_quiet (fail)
                  go_wp2
                  go_roundw
                  case rel => exact ⟨i + 1, rfl, by go_num, by omega, Lib.hid (below_drewN SA.out _), Lib.hid NB.out, Lib.hid KB.out⟩
                  case measure => simp [intOf]; omega
                · go_wp2_with (first | (go_at_call 11; with_reducible refine (CM.out _ k y z HLT.out HOK.out HY.out SA.out).mono ?_; rintro e w9 ⟨b9, rfl, HB9, hb9⟩; obtain rfl : false = b9 := nm_b HMF.out HB9.out; have SZ := Lib.hid (SA.out.trans (hb9.mono SA.out.size))) | fail)
                  go_ret
                  exact ⟨rfl, SZ.out⟩
        · cases hv
          · cases ho
            · as_aux_lemma =>
                have HMF : Hid (Nm x.net y.l z) := Lib.hid (nm_of (HFI.out _ hzc rfl))
                clear HFI HFN HAZ
                go_wp2_with (first | (go_at_call 12; with_reducible refine (CHC.out _ SA.out).mono ?_; rintro e w8 ⟨rfl, hb8⟩; have NB := Lib.hid (NB.out.after hb8); have KB := Lib.hid (KB.out.after hb8); have SA := Lib.hid (SA.out.trans (hb8.mono SA.out.size)); have n0 := bc0 NB.out; have n1 := bc1 NB.out; have n2 := bc2 NB.out; have k0 := bc0 KB.out; have k2 := bc2 KB.out; have k3 := bc3 KB.out; have k5 := bc5 KB.out; have k6 := bc6 KB.out; have hcr := HRW.out _ SA.out) | (go_at_call 12; with_reducible refine (CHO.out _ SA.out).mono ?_; rintro e wo ⟨rfl, hbo⟩; have NB := Lib.hid (NB.out.after hbo); have KB := Lib.hid (KB.out.after hbo); have SA := Lib.hid (SA.out.trans (hbo.mono SA.out.size)); have n0 := bc0 NB.out; have n1 := bc1 NB.out; have n2 := bc2 NB.out; have k0 := bc0 KB.out; have k2 := bc2 KB.out; have k3 := bc3 KB.out; have k5 := bc5 KB.out; have k6 := bc6 KB.out; have hcr := HRW.out _ SA.out) | (go_at_call 11; with_reducible refine (CM.out _ k y z HLT.out HOK.out HY.out SA.out).mono ?_; rintro e w9 ⟨b9, rfl, HB9, hb9⟩; obtain rfl : false = b9 := nm_b HMF.out HB9.out; have SZ := Lib.hid (SA.out.trans (hb9.mono SA.out.size))) | fail)
                go_ret
                exact ⟨rfl, SZ.out⟩
            · as_aux_lemma =>
                have HMF : Hid (Ym x.net y.l z) := Lib.hid (ym_of (HFI.out _ hzc rfl))
                have haz : 4611686018427387904 ≤ z := HAZ.out true ⟨fun _ => HMF.out, fun _ => rfl⟩ rfl
                clear HFI HFN HAZ
                exact absurd haz (by omega)
          · as_aux_lemma =>
              have HMF : Hid (Nm x.net y.l z) := Lib.hid (nm_of (HFI.out _ hzc rfl))
              clear HFI HFN HAZ
              go_wp2_with (first | (go_at_call 12; with_reducible refine (CHC.out _ SA.out).mono ?_; rintro e w8 ⟨rfl, hb8⟩; have NB := Lib.hid (NB.out.after hb8); have KB := Lib.hid (KB.out.after hb8); have SA := Lib.hid (SA.out.trans (hb8.mono SA.out.size)); have n0 := bc0 NB.out; have n1 := bc1 NB.out; have n2 := bc2 NB.out; have k0 := bc0 KB.out; have k2 := bc2 KB.out; have k3 := bc3 KB.out; have k5 := bc5 KB.out; have k6 := bc6 KB.out; have hcr := HRW.out _ SA.out) | (go_at_call 11; with_reducible refine (CM.out _ k y z HLT.out HOK.out HY.out SA.out).mono ?_; rintro e w9 ⟨b9, rfl, HB9, hb9⟩; obtain rfl : false = b9 := nm_b HMF.out HB9.out; have SZ := Lib.hid (SA.out.trans (hb9.mono SA.out.size))) | fail)
              go_ret
              exact ⟨rfl, SZ.out⟩
      · cases dr
        · as_aux_lemma =>
            have HMF : Hid (Nm x.net y.l z) := Lib.hid (nm_of (HFN.out hzc))
            clear HFI HFN HAZ
            go_wp2
            clear n0 n1 n2 k0 k2 k3 k5 k6 hcr
            go_loopw [16, 17] (fun v16 v17 wr => ∃ i : Nat, v16 = .bool false ∧ v17 = .int .i64 i ∧ i ≤ m2 ∧ Hid (Below w.heap.size w wr) ∧ Hid (Blk wr w.heap.size 25 [.int .i64 x.hz, .slice (some adp) m x.c, .slice (some ad) n x.d]) ∧ Hid (Blk wr w3.heap.size 33 [.int .i64 y.l.a, .int .i64 y.l.b, .int .i64 y.l.len, .bool false, .int .i64 y.l.of, .slice y.p y.l.op.length y.c, .slice Q m2 y.d])) (fun _ v17 _ => m2 - (intOf v17).toNat)
            case atStart => exact ⟨0, rfl, rfl, by omega, SA, NB, KB⟩
            case round =>
              obtain ⟨i, rfl, rfl, hi, SA, NB, KB⟩ := hrel
              have n0 := bc0 NB.out
              have n1 := bc1 NB.out
              have n2 := bc2 NB.out
              have k2 := bc2 KB.out
              have k6 := bc6 KB.out
              by_cases hlt : i < m2
              · have hiz : (i : Int) < (m2 : Int) := by omega
                go_wp2
                go_quiet (fail)
                go_wp2
                go_roundw
                case rel => exact ⟨i + 1, rfl, by go_num, by omega, Lib.hid (below_drewN SA.out _), Lib.hid NB.out, Lib.hid KB.out⟩
                case measure => simp [intOf]; omega
              · go_wp2_with (first | (go_at_call 11; with_reducible refine (CM.out _ k y z HLT.out HOK.out HY.out SA.out).mono ?_; rintro e w9 ⟨b9, rfl, HB9, hb9⟩; obtain rfl : false = b9 := nm_b HMF.out HB9.out; have SZ := Lib.hid (SA.out.trans (hb9.mono SA.out.size))) | fail)
                go_ret
                exact ⟨rfl, SZ.out⟩
        · as_aux_lemma =>
            have HMF : Hid (Nm x.net y.l z) := Lib.hid (nm_of (HFN.out hzc))
            clear HFI HFN HAZ
            go_wp2_with (first | (go_at_call 11; with_reducible refine (CM.out _ k y z HLT.out HOK.out HY.out SA.out).mono ?_; rintro e w9 ⟨b9, rfl, HB9, hb9⟩; obtain rfl : false = b9 := nm_b HMF.out HB9.out; have SZ := Lib.hid (SA.out.trans (hb9.mono SA.out.size))) | fail)
            go_ret
            exact ⟨rfl, SZ.out⟩
    · have hle2 : a + y.l.len ≤ x.hz := hle
      clear hle
      have haI : (a == 4611686018427387904) = false := by simpa using ha
      have haN : (a != 4611686018427387904) = true := by simpa using ha
      subst hbe
      have hbI : (a + y.l.len == 4611686018427387904) = false := by simpa using hb
      by_cases hzc : z ≤ x.hz - y.l.len
      · obtain ⟨hv, hhv⟩ : ∃ hv, hv = hs r.z z := ⟨_, rfl⟩
        obtain ⟨ho, hho⟩ : ∃ ho, ho = hs y.l.op z := ⟨_, rfl⟩
        rw [← hhv] at CHC HFI
        rw [← hho] at CHO HFI
        clear hhv hho
        cases dr
        · cases hv
          · as_aux_lemma =>
              go_wp2_with (first | (go_at_call 11; with_reducible refine (CM.out _ k y a HLT.out HOK.out HY.out SA.out).mono ?_; rintro e w7 ⟨b7, rfl, HB7, hb7⟩; obtain rfl : b7 = true := HB7.out.2 hm; have NB := Lib.hid (NB.out.after hb7); have KB := Lib.hid (KB.out.after hb7); have SA := Lib.hid (SA.out.trans (hb7.mono SA.out.size)); have n0 := bc0 NB.out; have n1 := bc1 NB.out; have n2 := bc2 NB.out; have k0 := bc0 KB.out; have k2 := bc2 KB.out; have k3 := bc3 KB.out; have k5 := bc5 KB.out; have k6 := bc6 KB.out; have hcr := HRW.out _ SA.out) | (go_at_call 12; with_reducible refine (CHC.out _ SA.out).mono ?_; rintro e w8 ⟨rfl, hb8⟩; have NB := Lib.hid (NB.out.after hb8); have KB := Lib.hid (KB.out.after hb8); have SA := Lib.hid (SA.out.trans (hb8.mono SA.out.size)); have n0 := bc0 NB.out; have n1 := bc1 NB.out; have n2 := bc2 NB.out; have k0 := bc0 KB.out; have k2 := bc2 KB.out; have k3 := bc3 KB.out; have k5 := bc5 KB.out; have k6 := bc6 KB.out; have hcr := HRW.out _ SA.out) | fail)
              clear n0 n1 n2 k0 k2 k3 k5 k6 hcr
              have HMQ : Hid (∀ f, f = clrB y.l.cl z y.l.len → (f = true ↔ Lk.may x.net y.l z)) := Lib.hid fun f hf => HFI.out f hzc (by rw [hf]; simp)
              clear HFI
              go_loopw [16, 17] (fun v16 v17 wr => ∃ (i : Nat) (fb : Bool), v16 = .bool fb ∧ v17 = .int .i64 i ∧ i ≤ m2 ∧ Hid (fb = clrB (y.l.cl.take i) z y.l.len) ∧ Hid (Below w.heap.size w wr) ∧ Hid (Blk wr w.heap.size 25 [.int .i64 x.hz, .slice (some adp) m x.c, .slice (some ad) n x.d]) ∧ Hid (Blk wr w3.heap.size 33 [.int .i64 y.l.a, .int .i64 y.l.b, .int .i64 y.l.len, .bool false, .int .i64 y.l.of, .slice y.p y.l.op.length y.c, .slice Q m2 y.d])) (fun _ v17 _ => m2 - (intOf v17).toNat)
              case atStart => exact ⟨0, true, rfl, rfl, by omega, Lib.hid rfl, SA, NB, KB⟩
              case round =>
                obtain ⟨i, fb, rfl, rfl, hi, HFB, SA, NB, KB⟩ := hrel
                have n0 := bc0 NB.out
                have n1 := bc1 NB.out
                have n2 := bc2 NB.out
                have k2 := bc2 KB.out
                have k6 := bc6 KB.out
                have hwz : IntKind.i64.wrap (z + y.l.len) = z + y.l.len := HWZ.out
                by_cases hlt : i < m2
                · have hiz : (i : Int) < (m2 : Int) := by omega
                  have HT : Hid (clrB (y.l.cl.take (i + 1)) z y.l.len = (fb && decide ((y.l.cl.getD i (0, 0)).2 ≤ z ∨ z + y.l.len ≤ (y.l.cl.getD i (0, 0)).1))) := Lib.hid (by rw [HFB.out]; exact clrB_take (by rw [← HM2.out]; exact hlt) z y.l.len)
                  obtain ⟨adq, rfl, p1, p2⟩ := HRQ.out _ SA.out i hlt
                  generalize y.l.cl.getD i (0, 0) = pp at p1 p2 HT
                  obtain ⟨q1, q2⟩ := pp
                  dsimp only at p1 p2 HT
                  clear HFB
                  cases fb with
                  | false =>
                    have HT2 : Hid (false = clrB (y.l.cl.take (i + 1)) z y.l.len) := Lib.hid (by rw [HT.out]; rfl)
                    clear HT
                    go_wp2
                    go_quiet (fail)
                    go_wp2
                    go_roundw
                    case rel => exact ⟨i + 1, false, (by first | rfl | (simp [c1]; done) | (simp [c1, c2]; done) | (rw [hwz]; simp [c1, c2])), by go_num, by omega, HT2, Lib.hid (below_drewN SA.out _), Lib.hid NB.out, Lib.hid KB.out⟩
                    case measure => simp [intOf]; omega
                  | true =>
                    by_cases c1 : q2 ≤ z
                    · have HT2 : Hid (true = clrB (y.l.cl.take (i + 1)) z y.l.len) := Lib.hid (by rw [HT.out]; simp [c1])
                      clear HT
                      go_wp2
                      go_quiet (fail)
                      go_wp2
                      go_roundw
                      case rel => exact ⟨i + 1, true, (by first | rfl | (simp [c1]; done) | (simp [c1, c2]; done) | (rw [hwz]; simp [c1, c2])), by go_num, by omega, HT2, Lib.hid (below_drewN SA.out _), Lib.hid NB.out, Lib.hid KB.out⟩
                      case measure => simp [intOf]; omega
                    · by_cases c2 : z + y.l.len ≤ q1
                      · have HT2 : Hid (true = clrB (y.l.cl.take (i + 1)) z y.l.len) := Lib.hid (by rw [HT.out]; simp [c2])
                        clear HT
                        go_wp2
                        go_quiet (fail)
                        go_wp2
                        go_roundw
                        case rel => exact ⟨i + 1, true, (by first | rfl | (simp [c1]; done) | (simp [c1, c2]; done) | (rw [hwz]; simp [c1, c2])), by go_num, by omega, HT2, Lib.hid (below_drewN SA.out _), Lib.hid NB.out, Lib.hid KB.out⟩
                        case measure => simp [intOf]; omega
                      · have HT2 : Hid (false = clrB (y.l.cl.take (i + 1)) z y.l.len) := Lib.hid (by rw [HT.out]; simp [c1, c2])
                        clear HT
                        go_wp2
                        go_quiet (fail)
                        go_wp2
                        go_roundw
                        case rel => exact ⟨i + 1, false, (by first | rfl | (simp [c1]; done) | (simp [c1, c2]; done) | (rw [hwz]; simp [c1, c2])), by go_num, by omega, HT2, Lib.hid (below_drewN SA.out _), Lib.hid NB.out, Lib.hid KB.out⟩
                        case measure => simp [intOf]; omega
                · have HMF : Hid (fb = true ↔ Lk.may x.net y.l z) := Lib.hid (HMQ.out fb (by rw [HFB.out, List.take_of_length_le (by rw [← HM2.out]; omega)]))
                  have HZ2 := HAZ.out fb HMF.out
                  clear HMQ HFB
                  cases fb with
                  | false =>
                    have HMF := Lib.hid (nm_of HMF.out)
                    clear HZ2
                    go_wp2_with (first | (go_at_call 11; with_reducible refine (CM.out _ k y z HLT.out HOK.out HY.out SA.out).mono ?_; rintro e w9 ⟨b9, rfl, HB9, hb9⟩; obtain rfl : false = b9 := nm_b HMF.out HB9.out; have SZ := Lib.hid (SA.out.trans (hb9.mono SA.out.size))) | fail)
                    go_ret
                    exact ⟨rfl, SZ.out⟩
                  | true =>
                    have haz : a ≤ z := HZ2 rfl
                    have HMF := Lib.hid (ym_of HMF.out)
                    clear HZ2
                    go_wp2_with (first | (go_at_call 11; with_reducible refine (CM.out _ k y z HLT.out HOK.out HY.out SA.out).mono ?_; rintro e w9 ⟨b9, rfl, HB9, hb9⟩; obtain rfl : true = b9 := ym_b HMF.out HB9.out; have SZ := Lib.hid (SA.out.trans (hb9.mono SA.out.size))) | fail)
                    go_ret
                    exact ⟨rfl, SZ.out⟩
          · as_aux_lemma =>
              have HMF : Hid (Nm x.net y.l z) := Lib.hid (nm_of (HFI.out _ hzc rfl))
              clear HFI HFN HAZ
              go_wp2_with (first | (go_at_call 11; with_reducible refine (CM.out _ k y a HLT.out HOK.out HY.out SA.out).mono ?_; rintro e w7 ⟨b7, rfl, HB7, hb7⟩; obtain rfl : b7 = true := HB7.out.2 hm; have NB := Lib.hid (NB.out.after hb7); have KB := Lib.hid (KB.out.after hb7); have SA := Lib.hid (SA.out.trans (hb7.mono SA.out.size)); have n0 := bc0 NB.out; have n1 := bc1 NB.out; have n2 := bc2 NB.out; have k0 := bc0 KB.out; have k2 := bc2 KB.out; have k3 := bc3 KB.out; have k5 := bc5 KB.out; have k6 := bc6 KB.out; have hcr := HRW.out _ SA.out) | (go_at_call 12; with_reducible refine (CHC.out _ SA.out).mono ?_; rintro e w8 ⟨rfl, hb8⟩; have NB := Lib.hid (NB.out.after hb8); have KB := Lib.hid (KB.out.after hb8); have SA := Lib.hid (SA.out.trans (hb8.mono SA.out.size)); have n0 := bc0 NB.out; have n1 := bc1 NB.out; have n2 := bc2 NB.out; have k0 := bc0 KB.out; have k2 := bc2 KB.out; have k3 := bc3 KB.out; have k5 := bc5 KB.out; have k6 := bc6 KB.out; have hcr := HRW.out _ SA.out) | fail)
              clear n0 n1 n2 k0 k2 k3 k5 k6 hcr
              go_loopw [16, 17] (fun v16 v17 wr => ∃ i : Nat, v16 = .bool false ∧ v17 = .int .i64 i ∧ i ≤ m2 ∧ Hid (Below w.heap.size w wr) ∧ Hid (Blk wr w.heap.size 25 [.int .i64 x.hz, .slice (some adp) m x.c, .slice (some ad) n x.d]) ∧ Hid (Blk wr w3.heap.size 33 [.int .i64 y.l.a, .int .i64 y.l.b, .int .i64 y.l.len, .bool false, .int .i64 y.l.of, .slice y.p y.l.op.length y.c, .slice Q m2 y.d])) (fun _ v17 _ => m2 - (intOf v17).toNat)
              case atStart => exact ⟨0, rfl, rfl, by omega, SA, NB, KB⟩
              case round =>
                obtain ⟨i, rfl, rfl, hi, SA, NB, KB⟩ := hrel
                have n0 := bc0 NB.out
                have n1 := bc1 NB.out
                have n2 := bc2 NB.out
                have k2 := bc2 KB.out
                have k6 := bc6 KB.out
                by_cases hlt : i < m2
                · have hiz : (i : Int) < (m2 : Int) := by omega
                  go_wp2
                  go_quiet (fail)
                  go_wp2
                  go_roundw
                  case rel => exact ⟨i + 1, rfl, by go_num, by omega, Lib.hid (below_drewN SA.out _), Lib.hid NB.out, Lib.hid KB.out⟩
                  case measure => simp [intOf]; omega
                · go_wp2_with (first | (go_at_call 11; with_reducible refine (CM.out _ k y z HLT.out HOK.out HY.out SA.out).mono ?_; rintro e w9 ⟨b9, rfl, HB9, hb9⟩; obtain rfl : false = b9 := nm_b HMF.out HB9.out; have SZ := Lib.hid (SA.out.trans (hb9.mono SA.out.size))) | fail)
                  go_ret
                  exact ⟨rfl, SZ.out⟩
        · cases hv
          · cases ho
            · as_aux_lemma =>
                have HMF : Hid (Nm x.net y.l z) := Lib.hid (nm_of (HFI.out _ hzc rfl))
                clear HFI HFN HAZ
                go_wp2_with (first | (go_at_call 11; with_reducible refine (CM.out _ k y a HLT.out HOK.out HY.out SA.out).mono ?_; rintro e w7 ⟨b7, rfl, HB7, hb7⟩; obtain rfl : b7 = true := HB7.out.2 hm; have NB := Lib.hid (NB.out.after hb7); have KB := Lib.hid (KB.out.after hb7); have SA := Lib.hid (SA.out.trans (hb7.mono SA.out.size)); have n0 := bc0 NB.out; have n1 := bc1 NB.out; have n2 := bc2 NB.out; have k0 := bc0 KB.out; have k2 := bc2 KB.out; have k3 := bc3 KB.out; have k5 := bc5 KB.out; have k6 := bc6 KB.out; have hcr := HRW.out _ SA.out) | (go_at_call 12; with_reducible refine (CHC.out _ SA.out).mono ?_; rintro e w8 ⟨rfl, hb8⟩; have NB := Lib.hid (NB.out.after hb8); have KB := Lib.hid (KB.out.after hb8); have SA := Lib.hid (SA.out.trans (hb8.mono SA.out.size)); have n0 := bc0 NB.out; have n1 := bc1 NB.out; have n2 := bc2 NB.out; have k0 := bc0 KB.out; have k2 := bc2 KB.out; have k3 := bc3 KB.out; have k5 := bc5 KB.out; have k6 := bc6 KB.out; have hcr := HRW.out _ SA.out) | (go_at_call 12; with_reducible refine (CHO.out _ SA.out).mono ?_; rintro e wo ⟨rfl, hbo⟩; have NB := Lib.hid (NB.out.after hbo); have KB := Lib.hid (KB.out.after hbo); have SA := Lib.hid (SA.out.trans (hbo.mono SA.out.size)); have n0 := bc0 NB.out; have n1 := bc1 NB.out; have n2 := bc2 NB.out; have k0 := bc0 KB.out; have k2 := bc2 KB.out; have k3 := bc3 KB.out; have k5 := bc5 KB.out; have k6 := bc6 KB.out; have hcr := HRW.out _ SA.out) | (go_at_call 11; with_reducible refine (CM.out _ k y z HLT.out HOK.out HY.out SA.out).mono ?_; rintro e w9 ⟨b9, rfl, HB9, hb9⟩; obtain rfl : false = b9 := nm_b HMF.out HB9.out; have SZ := Lib.hid (SA.out.trans (hb9.mono SA.out.size))) | fail)
                go_ret
                exact ⟨rfl, SZ.out⟩
            · as_aux_lemma =>
                have HMF : Hid (Ym x.net y.l z) := Lib.hid (ym_of (HFI.out _ hzc rfl))
                have haz : a ≤ z := HAZ.out true ⟨fun _ => HMF.out, fun _ => rfl⟩ rfl
                clear HFI HFN HAZ
                go_wp2_with (first | (go_at_call 11; with_reducible refine (CM.out _ k y a HLT.out HOK.out HY.out SA.out).mono ?_; rintro e w7 ⟨b7, rfl, HB7, hb7⟩; obtain rfl : b7 = true := HB7.out.2 hm; have NB := Lib.hid (NB.out.after hb7); have KB := Lib.hid (KB.out.after hb7); have SA := Lib.hid (SA.out.trans (hb7.mono SA.out.size)); have n0 := bc0 NB.out; have n1 := bc1 NB.out; have n2 := bc2 NB.out; have k0 := bc0 KB.out; have k2 := bc2 KB.out; have k3 := bc3 KB.out; have k5 := bc5 KB.out; have k6 := bc6 KB.out; have hcr := HRW.out _ SA.out) | (go_at_call 12; with_reducible refine (CHC.out _ SA.out).mono ?_; rintro e w8 ⟨rfl, hb8⟩; have NB := Lib.hid (NB.out.after hb8); have KB := Lib.hid (KB.out.after hb8); have SA := Lib.hid (SA.out.trans (hb8.mono SA.out.size)); have n0 := bc0 NB.out; have n1 := bc1 NB.out; have n2 := bc2 NB.out; have k0 := bc0 KB.out; have k2 := bc2 KB.out; have k3 := bc3 KB.out; have k5 := bc5 KB.out; have k6 := bc6 KB.out; have hcr := HRW.out _ SA.out) | (go_at_call 12; with_reducible refine (CHO.out _ SA.out).mono ?_; rintro e wo ⟨rfl, hbo⟩; have NB := Lib.hid (NB.out.after hbo); have KB := Lib.hid (KB.out.after hbo); have SA := Lib.hid (SA.out.trans (hbo.mono SA.out.size)); have n0 := bc0 NB.out; have n1 := bc1 NB.out; have n2 := bc2 NB.out; have k0 := bc0 KB.out; have k2 := bc2 KB.out; have k3 := bc3 KB.out; have k5 := bc5 KB.out; have k6 := bc6 KB.out; have hcr := HRW.out _ SA.out) | (go_at_call 11; with_reducible refine (CM.out _ k y z HLT.out HOK.out HY.out SA.out).mono ?_; rintro e w9 ⟨b9, rfl, HB9, hb9⟩; obtain rfl : true = b9 := ym_b HMF.out HB9.out; have SZ := Lib.hid (SA.out.trans (hb9.mono SA.out.size))) | fail)
                go_ret
                exact ⟨rfl, SZ.out⟩
          · as_aux_lemma =>
              have HMF : Hid (Nm x.net y.l z) := Lib.hid (nm_of (HFI.out _ hzc rfl))
              clear HFI HFN HAZ
              go_wp2_with (first | (go_at_call 11; with_reducible refine (CM.out _ k y a HLT.out HOK.out HY.out SA.out).mono ?_; rintro e w7 ⟨b7, rfl, HB7, hb7⟩; obtain rfl : b7 = true := HB7.out.2 hm; have NB := Lib.hid (NB.out.after hb7); have KB := Lib.hid (KB.out.after hb7); have SA := Lib.hid (SA.out.trans (hb7.mono SA.out.size)); have n0 := bc0 NB.out; have n1 := bc1 NB.out; have n2 := bc2 NB.out; have k0 := bc0 KB.out; have k2 := bc2 KB.out; have k3 := bc3 KB.out; have k5 := bc5 KB.out; have k6 := bc6 KB.out; have hcr := HRW.out _ SA.out) | (go_at_call 12; with_reducible refine (CHC.out _ SA.out).mono ?_; rintro e w8 ⟨rfl, hb8⟩; have NB := Lib.hid (NB.out.after hb8); have KB := Lib.hid (KB.out.after hb8); have SA := Lib.hid (SA.out.trans (hb8.mono SA.out.size)); have n0 := bc0 NB.out; have n1 := bc1 NB.out; have n2 := bc2 NB.out; have k0 := bc0 KB.out; have k2 := bc2 KB.out; have k3 := bc3 KB.out; have k5 := bc5 KB.out; have k6 := bc6 KB.out; have hcr := HRW.out _ SA.out) | (go_at_call 11; with_reducible refine (CM.out _ k y z HLT.out HOK.out HY.out SA.out).mono ?_; rintro e w9 ⟨b9, rfl, HB9, hb9⟩; obtain rfl : false = b9 := nm_b HMF.out HB9.out; have SZ := Lib.hid (SA.out.trans (hb9.mono SA.out.size))) | fail)
              go_ret
              exact ⟨rfl, SZ.out⟩
      · cases dr
        · as_aux_lemma =>
            have HMF : Hid (Nm x.net y.l z) := Lib.hid (nm_of (HFN.out hzc))
            clear HFI HFN HAZ
            go_wp2_with (first | (go_at_call 11; with_reducible refine (CM.out _ k y a HLT.out HOK.out HY.out SA.out).mono ?_; rintro e w7 ⟨b7, rfl, HB7, hb7⟩; obtain rfl : b7 = true := HB7.out.2 hm; have NB := Lib.hid (NB.out.after hb7); have KB := Lib.hid (KB.out.after hb7); have SA := Lib.hid (SA.out.trans (hb7.mono SA.out.size)); have n0 := bc0 NB.out; have n1 := bc1 NB.out; have n2 := bc2 NB.out; have k0 := bc0 KB.out; have k2 := bc2 KB.out; have k3 := bc3 KB.out; have k5 := bc5 KB.out; have k6 := bc6 KB.out; have hcr := HRW.out _ SA.out) | fail)
            clear n0 n1 n2 k0 k2 k3 k5 k6 hcr
            go_loopw [16, 17] (fun v16 v17 wr => ∃ i : Nat, v16 = .bool false ∧ v17 = .int .i64 i ∧ i ≤ m2 ∧ Hid (Below w.heap.size w wr) ∧ Hid (Blk wr w.heap.size 25 [.int .i64 x.hz, .slice (some adp) m x.c, .slice (some ad) n x.d]) ∧ Hid (Blk wr w3.heap.size 33 [.int .i64 y.l.a, .int .i64 y.l.b, .int .i64 y.l.len, .bool false, .int .i64 y.l.of, .slice y.p y.l.op.length y.c, .slice Q m2 y.d])) (fun _ v17 _ => m2 - (intOf v17).toNat)
            case atStart => exact ⟨0, rfl, rfl, by omega, SA, NB, KB⟩
            case round =>
              obtain ⟨i, rfl, rfl, hi, SA, NB, KB⟩ := hrel
              have n0 := bc0 NB.out
              have n1 := bc1 NB.out
              have n2 := bc2 NB.out
              have k2 := bc2 KB.out
              have k6 := bc6 KB.out
              by_cases hlt : i < m2
              · have hiz : (i : Int) < (m2 : Int) := by omega
                go_wp2
                go_quiet (fail)
                go_wp2
                go_roundw
                case rel => exact ⟨i + 1, rfl, by go_num, by omega, Lib.hid (below_drewN SA.out _), Lib.hid NB.out, Lib.hid KB.out⟩
                case measure => simp [intOf]; omega
              · go_wp2_with (first | (go_at_call 11; with_reducible refine (CM.out _ k y z HLT.out HOK.out HY.out SA.out).mono ?_; rintro e w9 ⟨b9, rfl, HB9, hb9⟩; obtain rfl : false = b9 := nm_b HMF.out HB9.out; have SZ := Lib.hid (SA.out.trans (hb9.mono SA.out.size))) | fail)
                go_ret
                exact ⟨rfl, SZ.out⟩
        · as_aux_lemma =>
            have HMF : Hid (Nm x.net y.l z) := Lib.hid (nm_of (HFN.out hzc))
            clear HFI HFN HAZ
            go_wp2_with (first | (go_at_call 11; with_reducible refine (CM.out _ k y a HLT.out HOK.out HY.out SA.out).mono ?_; rintro e w7 ⟨b7, rfl, HB7, hb7⟩; obtain rfl : b7 = true := HB7.out.2 hm; have NB := Lib.hid (NB.out.after hb7); have KB := Lib.hid (KB.out.after hb7); have SA := Lib.hid (SA.out.trans (hb7.mono SA.out.size)); have n0 := bc0 NB.out; have n1 := bc1 NB.out; have n2 := bc2 NB.out; have k0 := bc0 KB.out; have k2 := bc2 KB.out; have k3 := bc3 KB.out; have k5 := bc5 KB.out; have k6 := bc6 KB.out; have hcr := HRW.out _ SA.out) | (go_at_call 11; with_reducible refine (CM.out _ k y z HLT.out HOK.out HY.out SA.out).mono ?_; rintro e w9 ⟨b9, rfl, HB9, hb9⟩; obtain rfl : false = b9 := nm_b HMF.out HB9.out; have SZ := Lib.hid (SA.out.trans (hb9.mono SA.out.size))) | fail)
            go_ret
            exact ⟨rfl, SZ.out⟩
end Go.Proofs.Ytmfocopokadloaa.Lk
