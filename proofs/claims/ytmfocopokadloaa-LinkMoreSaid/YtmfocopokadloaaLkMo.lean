/- The law LinkMore at every world: a window more in which its stop, or its path, is closed never lets a link be begun earlier; one more in which a door is open never later. No conditions. -/
import Derived.Test.YtmfocopokadloaaLkLives
import Derived.Test.YtmfocopokadloaaLkKs
import Derived.Test.YtmfocopokadloaaLkOn
import Derived.Test.YtmfocopokadloaaLkSet
import Derived.Test.YtmfocopokadloaaLkMm
import Derived.Test.YtmfocopokadloaaWinAsk
import Derived.Test.YtmfocopokadloaaWinRefUnion
import Derived.BigQuiet
namespace Go.Proofs.Ytmfocopokadloaa.Lk
open Go.ChangeShapes Go.WideShapes Go.ChangeAt Go.RowKit Go.Sort
open Wn
set_option linter.unusedVariables false
set_option linter.unusedSimpArgs false
attribute [local go_sem] Oper.semAt_some

theorem good_one (W : World) (xa xb : Int) : Calls Try.prog 13 #[.slice (some ⟨W.heap.size, 0, none⟩) 1 1] (W.alloc (.cells #[.int .i64 xa, .int .i64 xb] 39)) fun e w' => e = .returned (.bool (good [(xa, xb)])) ∧ Below (W.alloc (.cells #[.int .i64 xa, .int .i64 xb] 39)).heap.size (W.alloc (.cells #[.int .i64 xa, .int .i64 xb] 39)) w' := by
  have hr : Rd (W.alloc (.cells #[.int .i64 xa, .int .i64 xb] 39)) (· < (W.alloc (.cells #[.int .i64 xa, .int .i64 xb] 39)).heap.size) (some ⟨W.heap.size, 0, none⟩) (kc [(xa, xb)]) := lit_rd W #[.int .i64 xa, .int .i64 xb] 39 (kc [(xa, xb)]) rfl
  exact refgood_any _ _ 1 1 [(xa, xb)] (Lib.hid rfl) (by omega) hr
theorem len_y {x y : NtA} {n : Nat} (h : y.net = x.net) (hn : n = x.ls.length) : y.ls.length = n := by
  have e : y.net.lk.length = x.net.lk.length := by rw [h]
  rw [net_lkl, net_lkl] at e
  exact e.trans hn.symm
theorem add0 (g j : Nat) : (⟨g, 0, none⟩ : Addr).add j = ⟨g, j, none⟩ := by
  unfold Addr.add; split
  · subst_vars; rfl
  · simp
theorem own_after {W W' : World} {B e s n : Nat} {v : Value} {xs : List Value} (h : W.ownsRow B e s v n xs) (hb : Below W.heap.size W W') : W'.ownsRow B e s v n xs :=
  World.ownsRow.kept h (row := none) ⟨hb.os, hb.tape, hb.output, hb.size, fun k hk _ => hb.block k hk⟩ (by
    cases hq : v.ownBlock with
    | none => exact .inl rfl
    | some k => exact .inr (by simp))
theorem OwnN.after {W W' : World} {B : Nat} {y : NtA} (h : OwnN W B y) (hb : Below W.heap.size W W') : OwnN W' B y :=
  ⟨own_after h.c hb, own_after h.l hb, fun q hq => (h.r q hq).after hb, fun q hq => (h.k q hq).after hb⟩
theorem below_al (W : World) (o : Obj) : Below W.heap.size W (W.alloc o) := (Below.refl _ _).alloc (Nat.le_refl _) o
theorem below_al2 {W W' : World} {o : Obj} (h : Below (W.alloc o).heap.size (W.alloc o) W') : Below W.heap.size W W' := (below_al W o).trans (h.mono (by simp))
set_option maxRecDepth 100000 in
set_option maxHeartbeats 40000000 in
theorem more_all (w : World) (x : NtA) (l t xa xb : Int) (stop : Bool) (hX : NtOk w (· < w.heap.size) x) (hl : -9223372036854775808 ≤ l ∧ l ≤ 9223372036854775807) :
    Calls Try.prog 4 #[ntV x, .int .i64 l, .int .i64 t, .agg #[.int .i64 xa, .int .i64 xb], .bool stop] w fun e w' => e = .returned (.bool true) ∧ Below w.heap.size w w' := by
  obtain ⟨n, hn⟩ : ∃ n, n = x.ls.length := ⟨_, rfl⟩
  obtain ⟨m, hm⟩ : ∃ m, m = x.rs.length := ⟨_, rfl⟩
  obtain ⟨C, hC⟩ : ∃ C, C = x.q := ⟨_, rfl⟩
  have Hn := Lib.hid hn
  have Hm := Lib.hid hm
  have HC := Lib.hid hC
  have B0 := Lib.hid ((Below.refl w.heap.size w).alloc (Nat.le_refl _) (.cells #[.int .i64 x.hz, .slice x.p m x.c, .slice C n x.d] 25) |>.alloc (by simp) (.cells #[.int .i64 xa, .int .i64 xb] 39))
  have N0 := Lib.hid ((Blk.new w 25 [.int .i64 x.hz, .slice x.p m x.c, .slice C n x.d]).alloc (.cells #[.int .i64 xa, .int .i64 xb] 39))
  have ex := Blk.new (w.alloc (.cells #[.int .i64 x.hz, .slice x.p m x.c, .slice C n x.d] 25)) 39 [.int .i64 xa, .int .i64 xb]
  rw [World.size_alloc] at ex
  have X0 := Lib.hid ex
  clear ex
  have HX : Hid (∀ W, Below w.heap.size w W → NtOk W (· < W.heap.size) x) := Lib.hid fun W hW => hX.later hW
  have CV := Lib.hid (lives_any ((w.alloc (.cells #[.int .i64 x.hz, .slice x.p m x.c, .slice C n x.d] 25)).alloc (.cells #[.int .i64 xa, .int .i64 xb] 39)))
  have CL : Hid (∀ W, Below w.heap.size w W → Calls Try.prog 7 #[.agg #[.int .i64 x.hz, .slice x.p m x.c, .slice C n x.d], .int .i64 60, .int .i64 60, .int .i64 60] W (TB (Lt6 x) W)) := Lib.hid fun W hW => by rw [hn, hm, hC]; exact lightNet6_any x W (hX.later hW)
  have CC : Hid (∀ W, Lt x → Below w.heap.size w W → Calls Try.prog 8 #[.agg #[.int .i64 x.hz, .slice x.p m x.c, .slice C n x.d]] W fun e w' => e = .returned (.int .i64 (ck x.net)) ∧ Below W.heap.size W w') := Lib.hid fun W hlt hW => by rw [hn, hm, hC]; exact check_any x W (hX.later hW) hlt
  have CF : Hid (∀ W k y t, Lt x → ok x.net = true → x.ls[k]? = some y → tick t = true → Below w.heap.size w W → Calls Try.prog 10 #[.agg #[.int .i64 x.hz, .slice x.p m x.c, .slice C n x.d], .int .i64 (k : Nat), .int .i64 t] W fun e w' => ∃ f g : Int, e = .returned (.tuple #[.int .i64 f, .int .i64 g]) ∧ Hid (Fst x.net y.l t f ∧ g = at_ y.l f) ∧ Below W.heap.size W w') := Lib.hid fun W k y t hlt hok hy ht hW => by
    rw [hn, hm, hC]
    exact (First_ok x k y t W (hX.later hW) hlt hok hy ht).mono fun e w' hh => by
      obtain ⟨f, rfl, hf, hb⟩ := hh
      exact ⟨f, _, rfl, Lib.hid ⟨hf.out, rfl⟩, hb⟩
  have CFF : Hid (∀ W k y t, Lt x → ok x.net = true → x.ls[k]? = some y → tick t = false → Below w.heap.size w W → Calls Try.prog 10 #[.agg #[.int .i64 x.hz, .slice x.p m x.c, .slice C n x.d], .int .i64 (k : Nat), .int .i64 t] W fun e w' => e = .returned (.tuple #[.int .i64 4611686018427387904, .int .i64 4611686018427387904]) ∧ Below W.heap.size W w') := Lib.hid fun W k y t hlt hok hy ht hW => by
    rw [hn, hm, hC]; exact First_far x k y t W (hX.later hW) hlt hok hy ht
  have CON : Hid (∀ W, Lt x → Below w.heap.size w W → Calls Try.prog 14 #[.agg #[.int .i64 x.hz, .slice x.p m x.c, .slice C n x.d]] W (OwnNP x W)) := Lib.hid fun W hlt hW => by rw [hn, hm, hC]; exact ownNet_any x W (hX.later hW) hlt
  show Calls _ _ #[.agg #[.int .i64 x.hz, .slice x.p x.rs.length x.c, .slice x.q x.ls.length x.d], .int .i64 l, .int .i64 t, .agg #[.int .i64 xa, .int .i64 xb], .bool stop] _ _
  rw [← hn, ← hm, ← hC]
  clear hX hn hm hC
  go_enter Try.func4, Try.ntmps4
  go_wp2_with (first | (go_at_call 6; refine CV.out.mono ?_; rintro e w1 ⟨rfl, hb1⟩; have S := Lib.hid (B0.out.trans (hb1.mono B0.out.size)); have NB := Lib.hid (N0.out.after hb1); have XB := Lib.hid (X0.out.after hb1); have n0 := bc0 NB.out; have n1 := bc1 NB.out; have n2 := bc2 NB.out; have p0 := bc0 XB.out; have p1 := bc1 XB.out) | (go_at_call 7; refine (CL.out _ S.out).mono ?_; rintro e w2 ⟨b, rfl, HB, hb2⟩; have S := Lib.hid (S.out.trans (hb2.mono S.out.size)); have NB := Lib.hid (NB.out.after hb2); have XB := Lib.hid (XB.out.after hb2); have n0 := bc0 NB.out; have n1 := bc1 NB.out; have n2 := bc2 NB.out; have p0 := bc0 XB.out; have p1 := bc1 XB.out; cases b) | fail)
  · go_ret
    exact ⟨rfl, S.out⟩
  have HL6 := Lib.hid (HB.out (by first | rfl | trivial))
  have HLT := Lib.hid HL6.out.lt
  clear HB CV CL N0 X0 B0
  have HCK : Hid (ck x.net = if ok x.net = true then 0 else 2) := Lib.hid rfl
  have CK := Lib.hid (CC.out _ HLT.out S.out)
  clear CC
  cases hok : ok x.net with
  | false =>
    have hk : ck x.net = 2 := by rw [HCK.out, hok]; rfl
    rw [hk] at CK
    clear hk HCK hok CF CFF CON HLT HL6
    go_wp2_with (first | (go_at_call 8; refine CK.out.mono ?_; rintro e w3 ⟨rfl, hb3⟩) | fail)
    go_ret
    exact ⟨rfl, S.out.trans (hb3.mono S.out.size)⟩
  | true =>
    have hk : ck x.net = 0 := by rw [HCK.out, hok]; rfl
    rw [hk] at CK
    have HOK := Lib.hid hok
    clear hk HCK hok
    have CG : Hid (∀ W : World, Calls Try.prog 13 #[.slice (some ⟨W.heap.size, 0, none⟩) 1 1] (W.alloc (.cells #[.int .i64 xa, .int .i64 xb] 39)) fun e w' => e = .returned (.bool (good [(xa, xb)])) ∧ Below (W.alloc (.cells #[.int .i64 xa, .int .i64 xb] 39)).heap.size (W.alloc (.cells #[.int .i64 xa, .int .i64 xb] 39)) w') := Lib.hid fun W => good_one W xa xb
    obtain ⟨gx, hgx⟩ : ∃ g, g = good [(xa, xb)] := ⟨_, rfl⟩
    rw [← hgx] at CG
    have HGX := Lib.hid hgx
    clear hgx
    have hne0 : n = 0 ∨ ((n : Int) == 0) = false := by
      rcases Nat.eq_zero_or_pos n with h | h
      · exact .inl h
      · right; simp; omega
    rcases hne0 with hn0 | hne
    · subst hn0
      go_wp2_with (first | (go_at_call 8; refine CK.out.mono ?_; rintro e w3 ⟨rfl, hb3⟩; have S := Lib.hid (S.out.trans (hb3.mono S.out.size)); have NB := Lib.hid (NB.out.after hb3); have XB := Lib.hid (XB.out.after hb3); have n0 := bc0 NB.out; have n1 := bc1 NB.out; have n2 := bc2 NB.out; have p0 := bc0 XB.out; have p1 := bc1 XB.out) | fail)
      go_ret
      exact ⟨rfl, S.out⟩
    cases gx with
    | false =>
      go_wp2_with (first | (go_at_call 8; refine CK.out.mono ?_; rintro e w3 ⟨rfl, hb3⟩; have S := Lib.hid (S.out.trans (hb3.mono S.out.size)); have NB := Lib.hid (NB.out.after hb3); have XB := Lib.hid (XB.out.after hb3); have n0 := bc0 NB.out; have n1 := bc1 NB.out; have n2 := bc2 NB.out; have p0 := bc0 XB.out; have p1 := bc1 XB.out) | (go_at_call 13; refine (CG.out _).mono ?_; rintro e w4 ⟨rfl, hb4⟩; have S := Lib.hid (S.out.trans ((below_al2 hb4).mono S.out.size))) | fail)
      go_ret
      exact ⟨rfl, S.out⟩
    | true =>
      have hnp : 0 < n := by
        rcases Nat.eq_zero_or_pos n with h | h
        · subst h; simp at hne
        · exact h
      have CP : Hid (∀ W, Calls Try.prog 9 #[.int .i64 l, .int .i64 n] W (PickPost n W)) := Lib.hid fun W => pick_any l n W hl.1 hl.2 (by omega) (by have := HLT.out.l; rw [← Hn.out] at this; omega)
      go_upto_region 9 with (first | (go_at_call 8; refine CK.out.mono ?_; rintro e w3 ⟨rfl, hb3⟩; have S := Lib.hid (S.out.trans (hb3.mono S.out.size)); have NB := Lib.hid (NB.out.after hb3); have XB := Lib.hid (XB.out.after hb3); have n0 := bc0 NB.out; have n1 := bc1 NB.out; have n2 := bc2 NB.out; have p0 := bc0 XB.out; have p1 := bc1 XB.out) | (go_at_call 13; refine (CG.out _).mono ?_; rintro e w4 ⟨rfl, hb4⟩; have hb4 := below_al2 hb4; have S := Lib.hid (S.out.trans (hb4.mono S.out.size)); have NB := Lib.hid (NB.out.after hb4); have XB := Lib.hid (XB.out.after hb4); have n0 := bc0 NB.out; have n1 := bc1 NB.out; have n2 := bc2 NB.out; have p0 := bc0 XB.out; have p1 := bc1 XB.out) | (go_at_call 9; refine (CP.out _).mono ?_; rintro e w5 ⟨k, rfl, hk, rfl⟩; have hkl : (k : Int) < (n : Int) := hk.out) | (go_at_call 14; refine (CON.out _ HLT.out S.out).mono ?_; rintro e w6 ⟨y, rfl, HYN, HYO, hb6⟩; have hyl : y.ls.length = n := len_y HYN.out Hn.out; obtain ⟨gl, hgl, hgl1, hgl2⟩ := HYO.out.qs (by omega); have hkl2 : (k : Int) < (y.ls.length : Int) := by omega; have hadd := add0 gl (k * 7); have S := Lib.hid (S.out.trans (hb6.mono S.out.size)); have NB := Lib.hid (NB.out.after hb6); have XB := Lib.hid (XB.out.after hb6); have n0 := bc0 NB.out; have n1 := bc1 NB.out; have n2 := bc2 NB.out; have p0 := bc0 XB.out; have p1 := bc1 XB.out) | fail)
      go_at_call 14
      refine (CON.out _ HLT.out S.out).mono ?_
      rintro e w6 ⟨y, rfl, HYN, HYO, hb6⟩
      have hyl : y.ls.length = n := len_y HYN.out Hn.out
      obtain ⟨gl, hgl, hgl1, hgl2⟩ := HYO.out.qs (by omega)
      have hkl2 : (k : Int) < (y.ls.length : Int) := by omega
      have hadd := add0 gl (k * 7)
      have hsw0 : w.heap.size ≤ gl := Nat.le_trans S.out.size hgl1
      have hsB := S.out.size
      have S := Lib.hid (S.out.trans (hb6.mono S.out.size))
      have NB := Lib.hid (NB.out.after hb6)
      have XB := Lib.hid (XB.out.after hb6)
      have n0 := bc0 NB.out
      have n1 := bc1 NB.out
      have n2 := bc2 NB.out
      have p0 := bc0 XB.out
      have p1 := bc1 XB.out
      go_upto_region 9 with fail
      obtain ⟨ky, hky⟩ : ∃ ky, y.ls[k]? = some ky := ⟨_, List.getElem?_eq_getElem (by omega)⟩
      obtain ⟨kx, hkx⟩ : ∃ kx, x.ls[k]? = some kx := ⟨_, List.getElem?_eq_getElem (by have := Hn.out; omega)⟩
      have hkk : ky.l = kx.l := by
        have e1 := net_lk y k
        have e2 := net_lk x k
        rw [hky] at e1
        rw [hkx] at e2
        rw [HYN.out, e2] at e1
        simpa using e1.symm
      have hb67 := below_al w6 (.cells #[.int .i64 y.hz, .slice y.p y.rs.length y.c, .slice (some ⟨gl, 0, none⟩) n y.d] 25)
      obtain ⟨ad, had, hS, ⟨h0, h1, h2, h3, h4, h5, h6⟩, hlk⟩ := (HYO.out.nt.later hb67).link hky
      obtain rfl : ad = ⟨gl, 0, none⟩ := Option.some.inj (had.symm.trans hgl)
      rw [hadd] at h0 h1 h2 h3 h4 h5 h6
      dsimp only at h0 h1 h2 h3 h4 h5 h6
      have NB := Lib.hid (NB.out.alloc (.cells #[.int .i64 y.hz, .slice y.p y.rs.length y.c, .slice (some ⟨gl, 0, none⟩) n y.d] 25))
      have XB := Lib.hid (XB.out.alloc (.cells #[.int .i64 y.hz, .slice y.p y.rs.length y.c, .slice (some ⟨gl, 0, none⟩) n y.d] 25))
      have MB := Lib.hid (Blk.new w6 25 [.int .i64 y.hz, .slice y.p y.rs.length y.c, .slice (some ⟨gl, 0, none⟩) n y.d])
      have S := Lib.hid (S.out.alloc S.out.size (.cells #[.int .i64 y.hz, .slice y.p y.rs.length y.c, .slice (some ⟨gl, 0, none⟩) n y.d] 25))
      have HYO := Lib.hid (HYO.out.after hb67)
      have HLK := Lib.hid hlk
      have HKY := Lib.hid hky
      have HKX := Lib.hid hkx
      have HKK := Lib.hid hkk
      have hg7 : gl < w6.heap.size := hgl2
      have hg7w : gl < (w6.alloc (.cells #[.int .i64 y.hz, .slice y.p y.rs.length y.c, .slice (some ⟨gl, 0, none⟩) n y.d] 25)).heap.size := by simp; omega
      have hkol : ky.l.op.length ≤ 10000 ∧ ky.l.cl.length ≤ 10000 := by rw [hkk]; exact ⟨HLT.out.lo kx (List.mem_of_getElem? hkx), HLT.out.lc kx (List.mem_of_getElem? hkx)⟩
      clear n0 n1 n2 p0 p1 hlk hky hkx hkk had hS hb67 CP CG CK
      generalize w6.alloc (.cells #[.int .i64 y.hz, .slice y.p y.rs.length y.c, .slice (some ⟨gl, 0, none⟩) n y.d] 25) = w7 at *
      cases stop with
      | true =>
        have hlg0 : lgood x.net kx.l = true := (ok_parts HOK.out).2.2.2.2 kx.l (List.mem_map.2 ⟨kx, List.mem_of_getElem? HKX.out, rfl⟩)
        have hpa := (lgood_parts hlg0).1
        have hxy : x.net.cl.length = y.rs.length := by rw [← HYN.out, net_cll]
        obtain ⟨ka, hka⟩ : ∃ ka : Nat, kx.l.a = ka := ⟨kx.l.a.toNat, by omega⟩
        have hkai : (ka : Int) < (y.rs.length : Int) := by omega
        have hkt : kx.l.a.toNat = ka := by omega
        obtain ⟨r, hr⟩ : ∃ r, y.rs[ka]? = some r := ⟨_, List.getElem?_eq_getElem (by omega)⟩
        obtain ⟨gp, hgp, hgp1, hgp2⟩ := HYO.out.ps (by omega)
        obtain ⟨adr, hadr, -, hcr, hrok⟩ := HYO.out.nt.row_ hr
        obtain rfl : adr = ⟨gp, 0, none⟩ := Option.some.inj (hadr.symm.trans hgp)
        have haddp := add0 gp ka
        rw [Nat.mul_one, haddp] at hcr
        rw [HKK.out, hka] at h0
        have hsp0 : w.heap.size ≤ gp := Nat.le_trans hsB hgp1
        have hrow : row x.net kx.l.a = r.z := by
          rw [← HYN.out]
          simp [row, hkt, List.getD_eq_getElem?_getD, net_cl, hr]
        have hL6y := HL6.out.net HYN.out
        have hrz : r.z.length ≤ 60 := hL6y.rz r (List.mem_of_getElem? hr)
        have HROW := HH hrow
        have HR := HH hr
        have HL6Y := HH hL6y
        have HKA := HH hka
        have HKT := HH hkt
        have HRZ := HH hrz
        have hm0 : w7.drew.cell? ⟨w6.heap.size, 1, none⟩ = some (.slice (some ⟨gp, 0, none⟩) y.rs.length y.c) := by rw [← hgp]; exact bc1 (w := w7.drew) MB.out
        have hm1 : w7.drew.cell? ⟨gl, k * 7, none⟩ = some (.int .i64 (ka : Nat)) := h0
        have hm2 : w7.drew.cell? ⟨gp, ka, none⟩ = some (.slice r.p r.z.length r.c) := hcr
        clear hlg0 hpa hxy hrow hr hL6y h0 h1 h2 h3 h4 h5 h6 hcr hka hkt hrz hadr
        go_upto_region 10 with fail
        have hS0 : ∀ l, Pend [(18, ⟨w6.heap.size, 1, none⟩, .slice (some ⟨gp, 0, none⟩) y.rs.length y.c), (18, ⟨gl, k * 7, none⟩, .int .i64 (ka : Nat)), (18, ⟨gp, ka, none⟩, .slice r.p r.z.length r.c), (18, ⟨w.heap.size + 1, 0, none⟩, .int .i64 xa), (18, ⟨w.heap.size + 1, 1, none⟩, .int .i64 xb)] l w7.drew := fun l q hq hl => by
          simp only [List.mem_cons, List.not_mem_nil, or_false] at hq
          rcases hq with rfl | rfl | rfl | rfl | rfl
          · exact hm0
          · exact hm1
          · exact hm2
          · exact bc0 (w := w7.drew) XB.out
          · exact bc1 (w := w7.drew) XB.out
        have SD : Hid (Below w.heap.size w w7.drew) := HH (below_drewN S.out 1)
        have RD : Hid (Rd w7.drew (· < w7.drew.heap.size) r.p (kc r.z)) := HH hrok.rd
        have HYD : Hid (OwnN w7.drew _ y) := HH (HYO.out.after (below_drewN (Below.refl _ _) 1))
        have MD : Hid (Blk w7.drew w6.heap.size 25 [.int .i64 y.hz, .slice y.p y.rs.length y.c, .slice (some ⟨gl, 0, none⟩) n y.d]) := MB
        have ND : Hid (Blk w7.drew w.heap.size 25 [.int .i64 x.hz, .slice x.p m x.c, .slice C n x.d]) := NB
        have XD : Hid (Blk w7.drew (w.heap.size + 1) 39 [.int .i64 xa, .int .i64 xb]) := XB
        clear hrok
        refine wp_region_T [(18, ⟨w6.heap.size, 1, none⟩, .slice (some ⟨gp, 0, none⟩) y.rs.length y.c), (18, ⟨gl, k * 7, none⟩, .int .i64 (ka : Nat)), (18, ⟨gp, ka, none⟩, .slice r.p r.z.length r.c), (18, ⟨w.heap.size + 1, 0, none⟩, .int .i64 xa), (18, ⟨w.heap.size + 1, 1, none⟩, .int .i64 xb)] (by kernel_rfl) ?_
        generalize hw7 : World.drew w7 = v0 at *
        refine tap 0 ?v0s rfl (hS0 _) ?h0s ?r0s
        case h0s => (intro w' hSw; clear hSw; go_simp; try with_reducible rfl)
        simp only [ptk]
        refine taq 1 18 ?v1s rfl rfl (hS0 _) ?h1s ?r1s
        case h1s => (intro w' hSw; have q0 := hSw (18, ⟨w6.heap.size, 1, none⟩, .slice (some ⟨gp, 0, none⟩) y.rs.length y.c) (by simp) rfl; dsimp only at q0; clear hSw; go_simp; try with_reducible rfl)
        simp only [ptk]
        refine tap 2 ?v2s rfl (hS0 _) ?h2s ?r2s
        case h2s => (intro w' hSw; clear hSw; go_simp; try with_reducible rfl)
        simp only [ptk]
        refine tap 3 ?v3s rfl (hS0 _) ?h3s ?r3s
        case h3s => (intro w' hSw; clear hSw; go_simp; try with_reducible rfl)
        simp only [ptk]
        refine tap 4 ?v4s rfl (hS0 _) ?h4s ?r4s
        case h4s => (intro w' hSw; clear hSw; go_simp; try with_reducible rfl)
        simp only [ptk]
        refine taq 5 18 ?v5s rfl rfl (hS0 _) ?h5s ?r5s
        case h5s => (intro w' hSw; have q0 := hSw (18, ⟨gl, k * 7, none⟩, .int .i64 (ka : Nat)) (by simp) rfl; dsimp only at q0; clear hSw; go_simp; try with_reducible rfl)
        simp only [ptk]
        refine tap 6 ?v6s rfl (hS0 _) ?h6s ?r6s
        case h6s => (intro w' hSw; clear hSw; go_simp; try with_reducible rfl)
        simp only [ptk]
        refine taq 7 18 ?v7s rfl rfl (hS0 _) ?h7s ?r7s
        case h7s => (intro w' hSw; have q0 := hSw (18, ⟨w6.heap.size, 1, none⟩, .slice (some ⟨gp, 0, none⟩) y.rs.length y.c) (by simp) rfl; dsimp only at q0; clear hSw; go_simp; try with_reducible rfl)
        simp only [ptk]
        refine tap 8 ?v8s rfl (hS0 _) ?h8s ?r8s
        case h8s => (intro w' hSw; clear hSw; go_simp; try with_reducible rfl)
        simp only [ptk]
        refine tap 9 ?v9s rfl (hS0 _) ?h9s ?r9s
        case h9s => (intro w' hSw; clear hSw; go_simp; try with_reducible rfl)
        simp only [ptk]
        refine tap 10 ?v10s rfl (hS0 _) ?h10s ?r10s
        case h10s => (intro w' hSw; clear hSw; go_simp; try with_reducible rfl)
        simp only [ptk]
        refine taq 11 18 ?v11s rfl rfl (hS0 _) ?h11s ?r11s
        case h11s => (intro w' hSw; have q0 := hSw (18, ⟨gl, k * 7, none⟩, .int .i64 (ka : Nat)) (by simp) rfl; dsimp only at q0; clear hSw; go_simp; try with_reducible rfl)
        simp only [ptk]
        refine tap 12 ?v12s rfl (hS0 _) ?h12s ?r12s
        case h12s => (intro w' hSw; clear hSw; go_simp; try with_reducible rfl)
        simp only [ptk]
        refine taq 13 18 ?v13s rfl rfl (hS0 _) ?h13s ?r13s
        case h13s => (intro w' hSw; have q0 := hSw (18, ⟨gp, ka, none⟩, .slice r.p r.z.length r.c) (by simp) rfl; dsimp only at q0; clear hSw; go_simp; try with_reducible rfl)
        simp only [ptk]
        refine taq 14 18 ?v14s rfl rfl (hS0 _) ?h14s ?r14s
        case h14s => (intro w' hSw; have q0 := hSw (18, ⟨w.heap.size + 1, 0, none⟩, .int .i64 xa) (by simp) rfl; have q1 := hSw (18, ⟨w.heap.size + 1, 1, none⟩, .int .i64 xb) (by simp) rfl; dsimp only at q0 q1; clear hSw; go_simp; try with_reducible rfl)
        simp only [ptk]
        refine tan 15 rfl fun K hK => ?_
        go_simp
        have hn0 : (v0.alloc (.cells #[.int .i64 xa, .int .i64 xb] 39)).cell? ⟨w6.heap.size, 1, none⟩ = some (.slice (some ⟨gp, 0, none⟩) y.rs.length y.c) := (World.cell?_of_block (Below.heap_alloc v0 (.cells #[.int .i64 xa, .int .i64 xb] 39) _ (World.block_lt_of_cell? _ _ hm0))).trans hm0
        have hn1 : (v0.alloc (.cells #[.int .i64 xa, .int .i64 xb] 39)).cell? ⟨gl, k * 7, none⟩ = some (.int .i64 (ka : Nat)) := (World.cell?_of_block (Below.heap_alloc v0 (.cells #[.int .i64 xa, .int .i64 xb] 39) _ (World.block_lt_of_cell? _ _ hm1))).trans hm1
        have hn2 : (v0.alloc (.cells #[.int .i64 xa, .int .i64 xb] 39)).cell? ⟨gp, ka, none⟩ = some (.slice r.p r.z.length r.c) := (World.cell?_of_block (Below.heap_alloc v0 (.cells #[.int .i64 xa, .int .i64 xb] 39) _ (World.block_lt_of_cell? _ _ hm2))).trans hm2
        have XB1 := HH (XD.out.alloc (.cells #[.int .i64 xa, .int .i64 xb] 39))
        have hS1 : ∀ l, Pend [(18, ⟨w6.heap.size, 1, none⟩, .slice (some ⟨gp, 0, none⟩) y.rs.length y.c), (18, ⟨gl, k * 7, none⟩, .int .i64 (ka : Nat)), (18, ⟨gp, ka, none⟩, .slice r.p r.z.length r.c), (18, ⟨w.heap.size + 1, 0, none⟩, .int .i64 xa), (18, ⟨w.heap.size + 1, 1, none⟩, .int .i64 xb)] l (v0.alloc (.cells #[.int .i64 xa, .int .i64 xb] 39)) := fun l q hq hl => by
          simp only [List.mem_cons, List.not_mem_nil, or_false] at hq
          rcases hq with rfl | rfl | rfl | rfl | rfl
          · exact hn0
          · exact hn1
          · exact hn2
          · exact bc0 XB1.out
          · exact bc1 XB1.out
        refine hK.out _ _ (hS1 _) ?_
        clear hK K hS0
        have S1 := HH (SD.out.alloc SD.out.size (.cells #[.int .i64 xa, .int .i64 xb] 39))
        have RD1 := HH (RD.out.later (below_al v0 (.cells #[.int .i64 xa, .int .i64 xb] 39)))
        have RX := HH (lit_rd v0 #[.int .i64 xa, .int .i64 xb] 39 (kc [(xa, xb)]) rfl)
        have hb01 := below_al v0 (.cells #[.int .i64 xa, .int .i64 xb] 39)
        have CU := HH (refunion_any (v0.alloc (.cells #[.int .i64 xa, .int .i64 xb] 39)) r.p (some ⟨v0.heap.size, 0, none⟩) r.z.length 1 r.c 1 r.z [(xa, xb)] (HH rfl) (HH rfl) (by have := HRZ.out; omega) RD1.out RX.out)
        generalize v0.alloc (.cells #[.int .i64 xa, .int .i64 xb] 39) = v1 at *
        refine tan 16 rfl fun K hK => ?_
        go_simp
        go_at_call 15
        refine CU.out.mono ?_
        rintro e v2 ⟨UA, un_, uc, rfl, hun, huc, hur, hub⟩
        have ho0 : v2.cell? ⟨w6.heap.size, 1, none⟩ = some (.slice (some ⟨gp, 0, none⟩) y.rs.length y.c) := (World.cell?_of_block (hub.block _ (World.block_lt_of_cell? _ _ hn0))).trans hn0
        have ho1 : v2.cell? ⟨gl, k * 7, none⟩ = some (.int .i64 (ka : Nat)) := (World.cell?_of_block (hub.block _ (World.block_lt_of_cell? _ _ hn1))).trans hn1
        have ho2 : v2.cell? ⟨gp, ka, none⟩ = some (.slice r.p r.z.length r.c) := (World.cell?_of_block (hub.block _ (World.block_lt_of_cell? _ _ hn2))).trans hn2
        have XB2 := HH (XB1.out.after hub)
        have hS2 : ∀ l, Pend [(18, ⟨w6.heap.size, 1, none⟩, .slice (some ⟨gp, 0, none⟩) y.rs.length y.c), (18, ⟨gl, k * 7, none⟩, .int .i64 (ka : Nat)), (18, ⟨gp, ka, none⟩, .slice r.p r.z.length r.c), (18, ⟨w.heap.size + 1, 0, none⟩, .int .i64 xa), (18, ⟨w.heap.size + 1, 1, none⟩, .int .i64 xb)] l v2 := fun l q hq hl => by
          simp only [List.mem_cons, List.not_mem_nil, or_false] at hq
          rcases hq with rfl | rfl | rfl | rfl | rfl
          · exact ho0
          · exact ho1
          · exact ho2
          · exact bc0 XB2.out
          · exact bc1 XB2.out
        dsimp only
        refine hK.out _ _ (hS2 _) ?_
        clear hK K hS1
        refine tap 17 ?v17s rfl (hS2 _) ?h17s ?r17s
        case h17s => (intro w' hSw; clear hSw; go_simp; try with_reducible rfl)
        simp only [ptk]
        have HY2 := HH ((HYD.out.after hb01).after hub)
        have MB2 := HH ((MD.out.after hb01).after hub)
        have NB2 := HH ((ND.out.after hb01).after hub)
        have hl2 := HY2.out.c
        rw [hgp] at hl2
        have fz : v2.frozen? ⟨gp, ka, none⟩ = false := hl2.frozenAt ka
        have cl3 := ho2
        refine tan 18 rfl fun K hK => ?_
        go_simp
        have hS3 : ∀ l : Array Bool, l.getD 18 true = true → Pend [(18, ⟨w6.heap.size, 1, none⟩, .slice (some ⟨gp, 0, none⟩) y.rs.length y.c), (18, ⟨gl, k * 7, none⟩, .int .i64 (ka : Nat)), (18, ⟨gp, ka, none⟩, .slice r.p r.z.length r.c), (18, ⟨w.heap.size + 1, 0, none⟩, .int .i64 xa), (18, ⟨w.heap.size + 1, 1, none⟩, .int .i64 xb)] l (v2.setCell ⟨gp, ka, none⟩ (.slice UA un_ uc)) := fun l h10 q hq hl => by
          simp only [List.mem_cons, List.not_mem_nil, or_false] at hq
          rcases hq with rfl | rfl | rfl | rfl | rfl <;> (rw [h10] at hl; cases hl)
        refine hK.out _ _ (hS3 _ (by kernel_rfl)) ?_
        clear hK K hS2 hS3
        refine wpAnyT_done (by kernel_rfl) ?_ _
        have S2 := S1.out.trans (hub.mono S1.out.size)
        have hgN : w.heap.size ≠ gp := by
          rcases own_blk_ne hl2 NB2.out (by decide) with e | e
          · cases e
          · intro h; exact e (by rw [h]; rfl)
        have hgM : w6.heap.size ≠ gp := by
          rcases own_blk_ne hl2 MB2.out (by decide) with e | e
          · cases e
          · intro h; exact e (by rw [h]; rfl)
        have SF := HH (S2.setCell (p := ⟨gp, ka, none⟩) hsp0 (.slice UA un_ uc))
        have NF := HH (NB2.out.far (p := ⟨gp, ka, none⟩) hgN (.slice UA un_ uc))
        have MF := HH (MB2.out.far (p := ⟨gp, ka, none⟩) hgM (.slice UA un_ uc))
        have hv0 : w7.heap.size ≤ v0.heap.size := by rw [← hw7]; exact Nat.le_refl _
        have hgv : gp < v1.heap.size := by have := hb01.size; omega
        obtain ⟨kz, hkz⟩ : ∃ kz : RwA, kz = ⟨un r.z [(xa, xb)], UA, uc⟩ := ⟨_, rfl⟩
        have ev : Value.slice UA un_ uc = rwV kz := by rw [hkz, hun.out]
        have hkzz : kz.z = un r.z [(xa, xb)] := by rw [hkz]
        have NTF := HH (HY2.out.setR (k := ka) (kz := kz) hgp HR.out (by
          rw [← ev, hkz]
          exact ⟨by have := hun.out; show (un _ _).length ≤ uc; omega, rd_off (hur.more fun b hb => ⟨by omega, hb.2⟩)⟩))
        rw [← ev] at NTF
        have hgx1 : good [(xa, xb)] = true := HGX.out.symm
        have hlgx : lgood x.net kx.l = true := (ok_parts HOK.out).2.2.2.2 kx.l (List.mem_map.2 ⟨kx, List.mem_of_getElem? HKX.out, rfl⟩)
        have HLGX := HH hlgx
        have hun6 : kz.z.length ≤ 200 := by
          have h1 := un_length r.z [(xa, xb)]
          have h3 := HRZ.out
          rw [hkzz]
          simp only [List.length_singleton] at h1
          omega
        have LTM := HH (HL6Y.out.setR ka (kz := kz) hun6)
        have hval : ntV { y with rs := y.rs.set ka kz } = .agg #[.int .i64 y.hz, .slice (some ⟨gp, 0, none⟩) y.rs.length y.c, .slice (some ⟨gl, 0, none⟩) n y.d] := by
          show Value.agg #[.int .i64 y.hz, .slice y.p (y.rs.set ka kz).length y.c, .slice y.q y.ls.length y.d] = _
          rw [List.length_set, hgl, hyl, hgp]
        have HVAL := HH hval
        have HNETM : Hid (NtA.net { y with rs := y.rs.set ka kz } = setRow x.net kx.l.a.toNat (un (row x.net kx.l.a) [(xa, xb)])) := HH (by rw [net_setR, HYN.out, hkzz, HROW.out, HKT.out])
        have HKM : Hid (({ y with rs := y.rs.set ka kz } : NtA).ls[k]? = some ky) := HKY
        clear HY2 MB2 NB2 hl2 fz cl3 ho0 ho1 ho2 hn0 hn1 hn2 hm0 hm1 hm2 XB2 hur hub hval hkz S2 hb01 hv0 hkzz ev hlgx
        generalize v2.setCell ⟨gp, ka, none⟩ (.slice UA un_ uc) = F at *
        have n0 := bc0 NF.out
        have n1 := bc1 NF.out
        have n2 := bc2 NF.out
        have m0 := bc0 MF.out
        have m1 := bc1 MF.out
        have m2 := bc2 MF.out
        cases ht : tick t with
        | false =>
          have HOKM : Hid (ok (NtA.net { y with rs := y.rs.set ka kz }) = true) := HH (by rw [HNETM.out]; exact more_stop_ok HOK.out HLGX.out hgx1)
          go_wp2_with fail
          go_at_call 10
          with_reducible refine (CFF.out _ k kx t HLT.out HOK.out HKX.out ht SF.out).mono ?_
          rintro e w8 ⟨rfl, hb8⟩
          have NF := HH (NF.out.after hb8)
          have MF := HH (MF.out.after hb8)
          have SF := HH (SF.out.trans (hb8.mono SF.out.size))
          have NTF := HH (NTF.out.later hb8)
          have n0 := bc0 NF.out
          have n1 := bc1 NF.out
          have n2 := bc2 NF.out
          have m0 := bc0 MF.out
          have m1 := bc1 MF.out
          have m2 := bc2 MF.out
          go_wp2_with fail
          go_at_call 10
          have CM2 := First_far { y with rs := y.rs.set ka kz } k ky t _ NTF.out LTM.out HOKM.out HKM.out ht
          rw [HVAL.out] at CM2
          with_reducible refine CM2.mono ?_
          rintro e w9 ⟨rfl, hb9⟩
          have SF := HH (SF.out.trans (hb9.mono SF.out.size))
          clear CM2
          go_wp2_with fail
          go_ret
          exact ⟨rfl, SF.out⟩
        | true =>
          go_wp2_with fail
          go_at_call 10
          with_reducible refine (CF.out _ k kx t HLT.out HOK.out HKX.out ht SF.out).mono ?_
          rintro e w8 ⟨a, b, rfl, HA, hb8⟩
          have MOK := more_stop (c := 0) HOK.out HLGX.out hgx1 HA.out.1
          have HOKM : Hid (ok (NtA.net { y with rs := y.rs.set ka kz }) = true) := HH (by rw [HNETM.out]; exact MOK.1)
          have NF := HH (NF.out.after hb8)
          have MF := HH (MF.out.after hb8)
          have SF := HH (SF.out.trans (hb8.mono SF.out.size))
          have NTF := HH (NTF.out.later hb8)
          have n0 := bc0 NF.out
          have n1 := bc1 NF.out
          have n2 := bc2 NF.out
          have m0 := bc0 MF.out
          have m1 := bc1 MF.out
          have m2 := bc2 MF.out
          go_wp2_with fail
          go_at_call 10
          have CM2 := First_ok { y with rs := y.rs.set ka kz } k ky t _ NTF.out LTM.out HOKM.out HKM.out ht
          rw [HVAL.out] at CM2
          with_reducible refine CM2.mono ?_
          rintro e w9 ⟨c, rfl, HC9, hb9⟩
          have hcmp := (more_stop (c := c) HOK.out HLGX.out hgx1 HA.out.1).2 (by have h := HC9.out; rw [HNETM.out, HKK.out] at h; exact h)
          have hc1 := hcmp.1
          have hc2 : b ≤ at_ ky.l c := by rw [HKK.out, HA.out.2]; exact hcmp.2
          have SF := HH (SF.out.trans (hb9.mono SF.out.size))
          clear CM2 HC9 hcmp MOK
          generalize at_ ky.l c = d at *
          go_wp2_with fail
          go_ret
          exact ⟨rfl, SF.out⟩
      | false =>
        cases hd : ky.l.door with
        | false =>
          rw [hd] at h3
          go_upto_region 8 with fail
          have hS0 : ∀ l, Pend [(10, ⟨gl, k * 7 + 6, none⟩, .slice ky.q ky.l.cl.length ky.d), (10, ⟨w.heap.size + 1, 0, none⟩, .int .i64 xa), (10, ⟨w.heap.size + 1, 1, none⟩, .int .i64 xb)] l w7.drew := fun l q hq hl => by
            simp only [List.mem_cons, List.not_mem_nil, or_false] at hq
            rcases hq with rfl | rfl | rfl
            · exact h6
            · exact bc0 (w := w7.drew) XB.out
            · exact bc1 (w := w7.drew) XB.out
          have SD : Hid (Below w.heap.size w w7.drew) := HH (below_drewN S.out 1)
          have LD : Hid (LnOk w7.drew (· < w7.drew.heap.size) ky) := HH (HLK.out.later (below_drewN (Below.refl _ _) 1))
          have HYD : Hid (OwnN w7.drew _ y) := HH (HYO.out.after (below_drewN (Below.refl _ _) 1))
          have MD : Hid (Blk w7.drew w6.heap.size 25 [.int .i64 y.hz, .slice y.p y.rs.length y.c, .slice (some ⟨gl, 0, none⟩) n y.d]) := MB
          have ND : Hid (Blk w7.drew w.heap.size 25 [.int .i64 x.hz, .slice x.p m x.c, .slice C n x.d]) := NB
          have XD : Hid (Blk w7.drew (w.heap.size + 1) 39 [.int .i64 xa, .int .i64 xb]) := XB
          have hcl : w7.drew.cell? ⟨gl, k * 7 + 6, none⟩ = some (.slice ky.q ky.l.cl.length ky.d) := h6
          refine wp_region_T [(10, ⟨gl, k * 7 + 6, none⟩, .slice ky.q ky.l.cl.length ky.d), (10, ⟨w.heap.size + 1, 0, none⟩, .int .i64 xa), (10, ⟨w.heap.size + 1, 1, none⟩, .int .i64 xb)] (by kernel_rfl) ?_
          generalize hw7 : World.drew w7 = v0 at *
          refine tap 0 ?v0x8 rfl (hS0 _) ?h0x8 ?r0x8
          case h0x8 => (intro w' hSw; clear hSw; go_simp; try with_reducible rfl)
          simp only [ptk]
          refine tap 1 ?v1x8 rfl (hS0 _) ?h1x8 ?r1x8
          case h1x8 => (intro w' hSw; clear hSw; go_simp; try with_reducible rfl)
          simp only [ptk]
          refine tap 2 ?v2x8 rfl (hS0 _) ?h2x8 ?r2x8
          case h2x8 => (intro w' hSw; clear hSw; go_simp; try with_reducible rfl)
          simp only [ptk]
          refine tap 3 ?v3x8 rfl (hS0 _) ?h3x8 ?r3x8
          case h3x8 => (intro w' hSw; clear hSw; go_simp; try with_reducible rfl)
          simp only [ptk]
          refine taq 4 10 ?v4x8 rfl rfl (hS0 _) ?h4x8 ?r4x8
          case h4x8 => (intro w' hSw; have q1 := hSw (10, ⟨gl, k * 7 + 6, none⟩, .slice ky.q ky.l.cl.length ky.d) (by simp) rfl; dsimp only at q1; clear hSw; go_simp; try with_reducible rfl)
          simp only [ptk]
          refine taq 5 10 ?v5x8 rfl rfl (hS0 _) ?h5x8 ?r5x8
          case h5x8 => (intro w' hSw; have q2 := hSw (10, ⟨w.heap.size + 1, 0, none⟩, .int .i64 xa) (by simp) rfl; have q3 := hSw (10, ⟨w.heap.size + 1, 1, none⟩, .int .i64 xb) (by simp) rfl; dsimp only at q2 q3; clear hSw; go_simp; try with_reducible rfl)
          simp only [ptk]
          refine tan 6 rfl fun K hK => ?_
          go_simp
          have cl1 : (v0.alloc (.cells #[.int .i64 xa, .int .i64 xb] 39)).cell? ⟨gl, k * 7 + 6, none⟩ = some (.slice ky.q ky.l.cl.length ky.d) := (World.cell?_of_block (Below.heap_alloc v0 (.cells #[.int .i64 xa, .int .i64 xb] 39) _ (by show gl < _; have := World.block_lt_of_cell? _ _ hcl; exact this))).trans hcl
          have XB1 := HH (XD.out.alloc (.cells #[.int .i64 xa, .int .i64 xb] 39))
          have hS1 : ∀ l, Pend [(10, ⟨gl, k * 7 + 6, none⟩, .slice ky.q ky.l.cl.length ky.d), (10, ⟨w.heap.size + 1, 0, none⟩, .int .i64 xa), (10, ⟨w.heap.size + 1, 1, none⟩, .int .i64 xb)] l (v0.alloc (.cells #[.int .i64 xa, .int .i64 xb] 39)) := fun l q hq hl => by
            simp only [List.mem_cons, List.not_mem_nil, or_false] at hq
            rcases hq with rfl | rfl | rfl
            · exact cl1
            · exact bc0 XB1.out
            · exact bc1 XB1.out
          refine hK.out _ _ (hS1 _) ?_
          clear hK K hS0
          have S1 := HH (SD.out.alloc SD.out.size (.cells #[.int .i64 xa, .int .i64 xb] 39))
          have LD1 := HH (LD.out.later (below_al v0 (.cells #[.int .i64 xa, .int .i64 xb] 39)))
          have RX := HH (lit_rd v0 #[.int .i64 xa, .int .i64 xb] 39 (kc [(xa, xb)]) rfl)
          have hb01 := below_al v0 (.cells #[.int .i64 xa, .int .i64 xb] 39)
          have CU := HH (refunion_any (v0.alloc (.cells #[.int .i64 xa, .int .i64 xb] 39)) ky.q (some ⟨v0.heap.size, 0, none⟩) ky.l.cl.length 1 ky.d 1 ky.l.cl [(xa, xb)] (HH rfl) (HH rfl) (by have := hkol.1; have := hkol.2; omega) LD1.out.rc RX.out)
          generalize v0.alloc (.cells #[.int .i64 xa, .int .i64 xb] 39) = v1 at *
          refine tan 7 rfl fun K hK => ?_
          go_simp
          go_at_call 15
          refine CU.out.mono ?_
          rintro e v2 ⟨UA, un_, uc, rfl, hun, huc, hur, hub⟩
          have cl2 : v2.cell? ⟨gl, k * 7 + 6, none⟩ = some (.slice ky.q ky.l.cl.length ky.d) := (World.cell?_of_block (hub.block _ (World.block_lt_of_cell? _ _ cl1))).trans cl1
          have XB2 := HH (XB1.out.after hub)
          have hS2 : ∀ l, Pend [(10, ⟨gl, k * 7 + 6, none⟩, .slice ky.q ky.l.cl.length ky.d), (10, ⟨w.heap.size + 1, 0, none⟩, .int .i64 xa), (10, ⟨w.heap.size + 1, 1, none⟩, .int .i64 xb)] l v2 := fun l q hq hl => by
            simp only [List.mem_cons, List.not_mem_nil, or_false] at hq
            rcases hq with rfl | rfl | rfl
            · exact cl2
            · exact bc0 XB2.out
            · exact bc1 XB2.out
          dsimp only
          refine hK.out _ _ (hS2 _) ?_
          clear hK K hS1
          refine tap 8 ?v8x8 rfl (hS2 _) ?h8x8 ?r8x8
          case h8x8 => (intro w' hSw; clear hSw; go_simp; try with_reducible rfl)
          simp only [ptk]
          refine tap 9 ?v9x8 rfl (hS2 _) ?h9x8 ?r9x8
          case h9x8 => (intro w' hSw; clear hSw; go_simp; try with_reducible rfl)
          simp only [ptk]
          have HY2 := HH ((HYD.out.after hb01).after hub)
          have MB2 := HH ((MD.out.after hb01).after hub)
          have NB2 := HH ((ND.out.after hb01).after hub)
          have hl2 := HY2.out.l
          rw [hgl, hyl] at hl2
          have fz : v2.frozen? ⟨gl, k * 7 + 6, none⟩ = false := hl2.frozenAt (k * 7 + 6)
          have cl3 := cl2
          refine tan 10 rfl fun K hK => ?_
          go_simp
          have hS3 : ∀ l : Array Bool, l.getD 10 true = true → Pend [(10, ⟨gl, k * 7 + 6, none⟩, .slice ky.q ky.l.cl.length ky.d), (10, ⟨w.heap.size + 1, 0, none⟩, .int .i64 xa), (10, ⟨w.heap.size + 1, 1, none⟩, .int .i64 xb)] l (v2.setCell ⟨gl, k * 7 + 6, none⟩ (.slice UA un_ uc)) := fun l h10 q hq hl => by
            simp only [List.mem_cons, List.not_mem_nil, or_false] at hq
            rcases hq with rfl | rfl | rfl <;> (rw [h10] at hl; cases hl)
          refine hK.out _ _ (hS3 _ (by kernel_rfl)) ?_
          clear hK K hS2 hS3
          refine wpAnyT_done (by kernel_rfl) ?_ _
          have S2 := S1.out.trans (hub.mono S1.out.size)
          have hgN : w.heap.size ≠ gl := by
            rcases own_blk_ne hl2 NB2.out (by decide) with e | e
            · cases e
            · intro h; exact e (by rw [h]; rfl)
          have hgM : w6.heap.size ≠ gl := by omega
          have SF := HH (S2.setCell (p := ⟨gl, k * 7 + 6, none⟩) hsw0 (.slice UA un_ uc))
          have NF := HH (NB2.out.far (p := ⟨gl, k * 7 + 6, none⟩) hgN (.slice UA un_ uc))
          have MF := HH (MB2.out.far (p := ⟨gl, k * 7 + 6, none⟩) hgM (.slice UA un_ uc))
          have hv0 : w7.heap.size ≤ v0.heap.size := by rw [← hw7]; exact Nat.le_refl _
          have hgv : gl < v1.heap.size := by have := hb01.size; have := hg7w; omega
          have hkm := List.mem_of_getElem? HKY.out
          have hOC := own_kept_ty (j := k * 7 + 6) (u := .slice UA un_ uc) (HY2.out.k ky hkm).o hl2 (by decide)
          have NTF := HH (HY2.out.setL (k := k) (j := 6) (kz := ⟨{ ky.l with cl := un ky.l.cl [(xa, xb)] }, ky.p, ky.c, UA, uc⟩) (u := .slice UA un_ uc) hgl HKY.out (by omega) (by rw [hun.out]; rfl) ⟨((HY2.out.k ky hkm).o.rw_).cap, by have := hun.out; show (un _ _).length ≤ uc; omega, ((OwnR.rw_ (q := ⟨ky.l.op, ky.p, ky.c⟩) hOC).rd).more fun b hb => hb.2, rd_off (hur.more fun b hb => ⟨by omega, hb.2⟩)⟩)
          have HLGX : Hid (lgood x.net kx.l = true) := HH ((ok_parts HOK.out).2.2.2.2 kx.l (List.mem_map.2 ⟨kx, List.mem_of_getElem? HKX.out, rfl⟩))
          have hdx : kx.l.door = false := by rw [← HKK.out]; exact hd
          have hgx1 : good [(xa, xb)] = true := HGX.out.symm
          have hun6 : un_ ≤ 61 := by
            have h1 := un_length ky.l.cl [(xa, xb)]
            have h2 := hun.out
            have h3 := HL6.out.lc kx (List.mem_of_getElem? HKX.out)
            rw [← HKK.out] at h3
            simp only [List.length_singleton] at h1
            omega
          obtain ⟨kz, hkz⟩ : ∃ kz : LnA, kz = ⟨{ ky.l with cl := un ky.l.cl [(xa, xb)] }, ky.p, ky.c, UA, uc⟩ := ⟨_, rfl⟩
          have bnd1 : (un ky.l.cl [(xa, xb)]).length ≤ 200 := by have := hun.out; omega
          have bnd0 : ky.l.op.length ≤ 200 := by have h3 := HL6.out.lo kx (List.mem_of_getElem? HKX.out); rw [← HKK.out] at h3; omega
          have hkzl : kz.l = ({ kx.l with cl := un kx.l.cl [(xa, xb)] } : Ln) := by rw [hkz, ← HKK.out]
          have HLZ := HH hkzl
          rw [← hkz] at NTF
          have hky6 := HL6.out.net HYN.out
          have LTM := HH (hky6.setL k (kz := kz) (by rw [hkz]; exact bnd0) (by rw [hkz]; exact bnd1))
          have hlen : (y.ls.set k kz).length = n := by rw [List.length_set, hyl]
          have hval : ntV { y with ls := y.ls.set k kz } = .agg #[.int .i64 y.hz, .slice y.p y.rs.length y.c, .slice (some ⟨gl, 0, none⟩) n y.d] := by
            show Value.agg #[.int .i64 y.hz, .slice y.p y.rs.length y.c, .slice y.q (y.ls.set k kz).length y.d] = _
            rw [hlen, hgl]
          have HVAL := HH hval
          have HNETM : Hid (NtA.net { y with ls := y.ls.set k kz } = setLink x.net k ({ kx.l with cl := un kx.l.cl [(xa, xb)] } : Ln)) := HH (by rw [net_setL, HYN.out, HLZ.out])
          have HKM : Hid (({ y with ls := y.ls.set k kz } : NtA).ls[k]? = some kz) := HH (by
            show (y.ls.set k kz)[k]? = some kz
            rw [List.getElem?_set_self (by omega)])
          clear HY2 MB2 NB2 hl2 fz cl3 cl2 XB2 hur hub hkm hOC hval hkz hkzl S2 hb01 hv0 h0 h1 h2 h3 h4 h5 h6
          generalize v2.setCell ⟨gl, k * 7 + 6, none⟩ (.slice UA un_ uc) = F at *
          have n0 := bc0 NF.out
          have n1 := bc1 NF.out
          have n2 := bc2 NF.out
          have m0 := bc0 MF.out
          have m1 := bc1 MF.out
          have m2 := bc2 MF.out
          cases ht : tick t with
          | false =>
            have HOKM : Hid (ok (NtA.net { y with ls := y.ls.set k kz }) = true) := HH (by rw [HNETM.out]; exact more_path_ok HOK.out HLGX.out hdx hgx1)
            go_wp2_with fail
            go_at_call 10
            with_reducible refine (CFF.out _ k kx t HLT.out HOK.out HKX.out ht SF.out).mono ?_
            rintro e w8 ⟨rfl, hb8⟩
            have NF := HH (NF.out.after hb8)
            have MF := HH (MF.out.after hb8)
            have SF := HH (SF.out.trans (hb8.mono SF.out.size))
            have NTF := HH (NTF.out.later hb8)
            have n0 := bc0 NF.out
            have n1 := bc1 NF.out
            have n2 := bc2 NF.out
            have m0 := bc0 MF.out
            have m1 := bc1 MF.out
            have m2 := bc2 MF.out
            go_wp2_with fail
            go_at_call 10
            have CM2 := First_far { y with ls := y.ls.set k kz } k kz t _ NTF.out LTM.out HOKM.out HKM.out ht
            rw [HVAL.out] at CM2
            refine CM2.mono ?_
            rintro e w9 ⟨rfl, hb9⟩
            have NF := HH (NF.out.after hb9)
            have SF := HH (SF.out.trans (hb9.mono SF.out.size))
            obtain ⟨adx, hadx, -, ⟨_, _, _, g3, _, _, _⟩, -⟩ := (HX.out _ SF.out).link HKX.out
            obtain rfl : C = some adx := HC.out.trans hadx
            rw [hdx] at g3
            have n2 := bc2 NF.out
            clear CM2
            go_wp2_with fail
            go_ret
            exact ⟨rfl, SF.out⟩
          | true =>
            go_wp2_with fail
            go_at_call 10
            with_reducible refine (CF.out _ k kx t HLT.out HOK.out HKX.out ht SF.out).mono ?_
            rintro e w8 ⟨a, b, rfl, HA, hb8⟩
            have MOK := more_path (k := k) (c := 0) HOK.out HLGX.out hdx hgx1 HA.out.1
            have HOKM : Hid (ok (NtA.net { y with ls := y.ls.set k kz }) = true) := HH (by rw [HNETM.out]; exact MOK.1)
            have NF := HH (NF.out.after hb8)
            have MF := HH (MF.out.after hb8)
            have SF := HH (SF.out.trans (hb8.mono SF.out.size))
            have NTF := HH (NTF.out.later hb8)
            have n0 := bc0 NF.out
            have n1 := bc1 NF.out
            have n2 := bc2 NF.out
            have m0 := bc0 MF.out
            have m1 := bc1 MF.out
            have m2 := bc2 MF.out
            go_wp2_with fail
            go_at_call 10
            have CM2 := First_ok { y with ls := y.ls.set k kz } k kz t _ NTF.out LTM.out HOKM.out HKM.out ht
            rw [HVAL.out] at CM2
            refine CM2.mono ?_
            rintro e w9 ⟨c, rfl, HC9, hb9⟩
            have hcmp := (more_path (k := k) (c := c) HOK.out HLGX.out hdx hgx1 HA.out.1).2 (by have h := HC9.out; rw [HNETM.out, HLZ.out] at h; exact h)
            have hc1 := hcmp.1
            have hc2 : b ≤ at_ kz.l c := by rw [HLZ.out, HA.out.2]; exact hcmp.2
            have NF := HH (NF.out.after hb9)
            have SF := HH (SF.out.trans (hb9.mono SF.out.size))
            obtain ⟨adx, hadx, -, ⟨_, _, _, g3, _, _, _⟩, -⟩ := (HX.out _ SF.out).link HKX.out
            obtain rfl : C = some adx := HC.out.trans hadx
            rw [hdx] at g3
            have n2 := bc2 NF.out
            clear CM2 HC9 hcmp MOK
            generalize at_ kz.l c = d at *
            go_wp2_with fail
            go_ret
            exact ⟨rfl, SF.out⟩
        | true =>
          rw [hd] at h3
          go_upto_region 12 with fail
          have hS0 : ∀ l, Pend [(10, ⟨gl, k * 7 + 5, none⟩, .slice ky.p ky.l.op.length ky.c), (10, ⟨w.heap.size + 1, 0, none⟩, .int .i64 xa), (10, ⟨w.heap.size + 1, 1, none⟩, .int .i64 xb)] l w7.drew := fun l q hq hl => by
            simp only [List.mem_cons, List.not_mem_nil, or_false] at hq
            rcases hq with rfl | rfl | rfl
            · exact h5
            · exact bc0 (w := w7.drew) XB.out
            · exact bc1 (w := w7.drew) XB.out
          have SD : Hid (Below w.heap.size w w7.drew) := HH (below_drewN S.out 1)
          have LD : Hid (LnOk w7.drew (· < w7.drew.heap.size) ky) := HH (HLK.out.later (below_drewN (Below.refl _ _) 1))
          have HYD : Hid (OwnN w7.drew _ y) := HH (HYO.out.after (below_drewN (Below.refl _ _) 1))
          have MD : Hid (Blk w7.drew w6.heap.size 25 [.int .i64 y.hz, .slice y.p y.rs.length y.c, .slice (some ⟨gl, 0, none⟩) n y.d]) := MB
          have ND : Hid (Blk w7.drew w.heap.size 25 [.int .i64 x.hz, .slice x.p m x.c, .slice C n x.d]) := NB
          have XD : Hid (Blk w7.drew (w.heap.size + 1) 39 [.int .i64 xa, .int .i64 xb]) := XB
          have hcl : w7.drew.cell? ⟨gl, k * 7 + 5, none⟩ = some (.slice ky.p ky.l.op.length ky.c) := h5
          refine wp_region_T [(10, ⟨gl, k * 7 + 5, none⟩, .slice ky.p ky.l.op.length ky.c), (10, ⟨w.heap.size + 1, 0, none⟩, .int .i64 xa), (10, ⟨w.heap.size + 1, 1, none⟩, .int .i64 xb)] (by kernel_rfl) ?_
          generalize hw7 : World.drew w7 = v0 at *
          refine tap 0 ?v0x12 rfl (hS0 _) ?h0x12 ?r0x12
          case h0x12 => (intro w' hSw; clear hSw; go_simp; try with_reducible rfl)
          simp only [ptk]
          refine tap 1 ?v1x12 rfl (hS0 _) ?h1x12 ?r1x12
          case h1x12 => (intro w' hSw; clear hSw; go_simp; try with_reducible rfl)
          simp only [ptk]
          refine tap 2 ?v2x12 rfl (hS0 _) ?h2x12 ?r2x12
          case h2x12 => (intro w' hSw; clear hSw; go_simp; try with_reducible rfl)
          simp only [ptk]
          refine tap 3 ?v3x12 rfl (hS0 _) ?h3x12 ?r3x12
          case h3x12 => (intro w' hSw; clear hSw; go_simp; try with_reducible rfl)
          simp only [ptk]
          refine taq 4 10 ?v4x12 rfl rfl (hS0 _) ?h4x12 ?r4x12
          case h4x12 => (intro w' hSw; have q1 := hSw (10, ⟨gl, k * 7 + 5, none⟩, .slice ky.p ky.l.op.length ky.c) (by simp) rfl; dsimp only at q1; clear hSw; go_simp; try with_reducible rfl)
          simp only [ptk]
          refine taq 5 10 ?v5x12 rfl rfl (hS0 _) ?h5x12 ?r5x12
          case h5x12 => (intro w' hSw; have q2 := hSw (10, ⟨w.heap.size + 1, 0, none⟩, .int .i64 xa) (by simp) rfl; have q3 := hSw (10, ⟨w.heap.size + 1, 1, none⟩, .int .i64 xb) (by simp) rfl; dsimp only at q2 q3; clear hSw; go_simp; try with_reducible rfl)
          simp only [ptk]
          refine tan 6 rfl fun K hK => ?_
          go_simp
          have cl1 : (v0.alloc (.cells #[.int .i64 xa, .int .i64 xb] 39)).cell? ⟨gl, k * 7 + 5, none⟩ = some (.slice ky.p ky.l.op.length ky.c) := (World.cell?_of_block (Below.heap_alloc v0 (.cells #[.int .i64 xa, .int .i64 xb] 39) _ (by show gl < _; have := World.block_lt_of_cell? _ _ hcl; exact this))).trans hcl
          have XB1 := HH (XD.out.alloc (.cells #[.int .i64 xa, .int .i64 xb] 39))
          have hS1 : ∀ l, Pend [(10, ⟨gl, k * 7 + 5, none⟩, .slice ky.p ky.l.op.length ky.c), (10, ⟨w.heap.size + 1, 0, none⟩, .int .i64 xa), (10, ⟨w.heap.size + 1, 1, none⟩, .int .i64 xb)] l (v0.alloc (.cells #[.int .i64 xa, .int .i64 xb] 39)) := fun l q hq hl => by
            simp only [List.mem_cons, List.not_mem_nil, or_false] at hq
            rcases hq with rfl | rfl | rfl
            · exact cl1
            · exact bc0 XB1.out
            · exact bc1 XB1.out
          refine hK.out _ _ (hS1 _) ?_
          clear hK K hS0
          have S1 := HH (SD.out.alloc SD.out.size (.cells #[.int .i64 xa, .int .i64 xb] 39))
          have LD1 := HH (LD.out.later (below_al v0 (.cells #[.int .i64 xa, .int .i64 xb] 39)))
          have RX := HH (lit_rd v0 #[.int .i64 xa, .int .i64 xb] 39 (kc [(xa, xb)]) rfl)
          have hb01 := below_al v0 (.cells #[.int .i64 xa, .int .i64 xb] 39)
          have CU := HH (refunion_any (v0.alloc (.cells #[.int .i64 xa, .int .i64 xb] 39)) ky.p (some ⟨v0.heap.size, 0, none⟩) ky.l.op.length 1 ky.c 1 ky.l.op [(xa, xb)] (HH rfl) (HH rfl) (by have := hkol.1; have := hkol.2; omega) LD1.out.ro RX.out)
          generalize v0.alloc (.cells #[.int .i64 xa, .int .i64 xb] 39) = v1 at *
          refine tan 7 rfl fun K hK => ?_
          go_simp
          go_at_call 15
          refine CU.out.mono ?_
          rintro e v2 ⟨UA, un_, uc, rfl, hun, huc, hur, hub⟩
          have cl2 : v2.cell? ⟨gl, k * 7 + 5, none⟩ = some (.slice ky.p ky.l.op.length ky.c) := (World.cell?_of_block (hub.block _ (World.block_lt_of_cell? _ _ cl1))).trans cl1
          have XB2 := HH (XB1.out.after hub)
          have hS2 : ∀ l, Pend [(10, ⟨gl, k * 7 + 5, none⟩, .slice ky.p ky.l.op.length ky.c), (10, ⟨w.heap.size + 1, 0, none⟩, .int .i64 xa), (10, ⟨w.heap.size + 1, 1, none⟩, .int .i64 xb)] l v2 := fun l q hq hl => by
            simp only [List.mem_cons, List.not_mem_nil, or_false] at hq
            rcases hq with rfl | rfl | rfl
            · exact cl2
            · exact bc0 XB2.out
            · exact bc1 XB2.out
          dsimp only
          refine hK.out _ _ (hS2 _) ?_
          clear hK K hS1
          refine tap 8 ?v8x12 rfl (hS2 _) ?h8x12 ?r8x12
          case h8x12 => (intro w' hSw; clear hSw; go_simp; try with_reducible rfl)
          simp only [ptk]
          refine tap 9 ?v9x12 rfl (hS2 _) ?h9x12 ?r9x12
          case h9x12 => (intro w' hSw; clear hSw; go_simp; try with_reducible rfl)
          simp only [ptk]
          have HY2 := HH ((HYD.out.after hb01).after hub)
          have MB2 := HH ((MD.out.after hb01).after hub)
          have NB2 := HH ((ND.out.after hb01).after hub)
          have hl2 := HY2.out.l
          rw [hgl, hyl] at hl2
          have fz : v2.frozen? ⟨gl, k * 7 + 5, none⟩ = false := hl2.frozenAt (k * 7 + 5)
          have cl3 := cl2
          refine tan 10 rfl fun K hK => ?_
          go_simp
          have hS3 : ∀ l : Array Bool, l.getD 10 true = true → Pend [(10, ⟨gl, k * 7 + 5, none⟩, .slice ky.p ky.l.op.length ky.c), (10, ⟨w.heap.size + 1, 0, none⟩, .int .i64 xa), (10, ⟨w.heap.size + 1, 1, none⟩, .int .i64 xb)] l (v2.setCell ⟨gl, k * 7 + 5, none⟩ (.slice UA un_ uc)) := fun l h10 q hq hl => by
            simp only [List.mem_cons, List.not_mem_nil, or_false] at hq
            rcases hq with rfl | rfl | rfl <;> (rw [h10] at hl; cases hl)
          refine hK.out _ _ (hS3 _ (by kernel_rfl)) ?_
          clear hK K hS2 hS3
          refine wpAnyT_done (by kernel_rfl) ?_ _
          have S2 := S1.out.trans (hub.mono S1.out.size)
          have hgN : w.heap.size ≠ gl := by
            rcases own_blk_ne hl2 NB2.out (by decide) with e | e
            · cases e
            · intro h; exact e (by rw [h]; rfl)
          have hgM : w6.heap.size ≠ gl := by omega
          have SF := HH (S2.setCell (p := ⟨gl, k * 7 + 5, none⟩) hsw0 (.slice UA un_ uc))
          have NF := HH (NB2.out.far (p := ⟨gl, k * 7 + 5, none⟩) hgN (.slice UA un_ uc))
          have MF := HH (MB2.out.far (p := ⟨gl, k * 7 + 5, none⟩) hgM (.slice UA un_ uc))
          have hv0 : w7.heap.size ≤ v0.heap.size := by rw [← hw7]; exact Nat.le_refl _
          have hgv : gl < v1.heap.size := by have := hb01.size; have := hg7w; omega
          have hkm := List.mem_of_getElem? HKY.out
          have hOC := own_kept_ty (j := k * 7 + 5) (u := .slice UA un_ uc) (HY2.out.k ky hkm).c hl2 (by decide)
          have NTF := HH (HY2.out.setL (k := k) (j := 5) (kz := ⟨{ ky.l with op := un ky.l.op [(xa, xb)] }, UA, uc, ky.q, ky.d⟩) (u := .slice UA un_ uc) hgl HKY.out (by omega) (by rw [hun.out]; rfl) ⟨by have := hun.out; show (un _ _).length ≤ uc; omega, ((HY2.out.k ky hkm).c.rw_).cap, rd_off (hur.more fun b hb => ⟨by omega, hb.2⟩), ((OwnR.rw_ (q := ⟨ky.l.cl, ky.q, ky.d⟩) hOC).rd).more fun b hb => hb.2⟩)
          have HLGX : Hid (lgood x.net kx.l = true) := HH ((ok_parts HOK.out).2.2.2.2 kx.l (List.mem_map.2 ⟨kx, List.mem_of_getElem? HKX.out, rfl⟩))
          have hdx : kx.l.door = true := by rw [← HKK.out]; exact hd
          have hgx1 : good [(xa, xb)] = true := HGX.out.symm
          have hun6 : un_ ≤ 61 := by
            have h1 := un_length ky.l.op [(xa, xb)]
            have h2 := hun.out
            have h3 := HL6.out.lo kx (List.mem_of_getElem? HKX.out)
            rw [← HKK.out] at h3
            simp only [List.length_singleton] at h1
            omega
          obtain ⟨kz, hkz⟩ : ∃ kz : LnA, kz = ⟨{ ky.l with op := un ky.l.op [(xa, xb)] }, UA, uc, ky.q, ky.d⟩ := ⟨_, rfl⟩
          have bnd1 : (un ky.l.op [(xa, xb)]).length ≤ 200 := by have := hun.out; omega
          have bnd0 : ky.l.cl.length ≤ 200 := by have h3 := HL6.out.lc kx (List.mem_of_getElem? HKX.out); rw [← HKK.out] at h3; omega
          have hkzl : kz.l = ({ kx.l with op := un kx.l.op [(xa, xb)] } : Ln) := by rw [hkz, ← HKK.out]
          have HLZ := HH hkzl
          rw [← hkz] at NTF
          have hky6 := HL6.out.net HYN.out
          have LTM := HH (hky6.setL k (kz := kz) (by rw [hkz]; exact bnd1) (by rw [hkz]; exact bnd0))
          have hlen : (y.ls.set k kz).length = n := by rw [List.length_set, hyl]
          have hval : ntV { y with ls := y.ls.set k kz } = .agg #[.int .i64 y.hz, .slice y.p y.rs.length y.c, .slice (some ⟨gl, 0, none⟩) n y.d] := by
            show Value.agg #[.int .i64 y.hz, .slice y.p y.rs.length y.c, .slice y.q (y.ls.set k kz).length y.d] = _
            rw [hlen, hgl]
          have HVAL := HH hval
          have HNETM : Hid (NtA.net { y with ls := y.ls.set k kz } = setLink x.net k ({ kx.l with op := un kx.l.op [(xa, xb)] } : Ln)) := HH (by rw [net_setL, HYN.out, HLZ.out])
          have HKM : Hid (({ y with ls := y.ls.set k kz } : NtA).ls[k]? = some kz) := HH (by
            show (y.ls.set k kz)[k]? = some kz
            rw [List.getElem?_set_self (by omega)])
          clear HY2 MB2 NB2 hl2 fz cl3 cl2 XB2 hur hub hkm hOC hval hkz hkzl S2 hb01 hv0 h0 h1 h2 h3 h4 h5 h6
          generalize v2.setCell ⟨gl, k * 7 + 5, none⟩ (.slice UA un_ uc) = F at *
          have n0 := bc0 NF.out
          have n1 := bc1 NF.out
          have n2 := bc2 NF.out
          have m0 := bc0 MF.out
          have m1 := bc1 MF.out
          have m2 := bc2 MF.out
          cases ht : tick t with
          | false =>
            have HOKM : Hid (ok (NtA.net { y with ls := y.ls.set k kz }) = true) := HH (by rw [HNETM.out]; exact more_door_ok HOK.out HLGX.out hdx hgx1)
            go_wp2_with fail
            go_at_call 10
            with_reducible refine (CFF.out _ k kx t HLT.out HOK.out HKX.out ht SF.out).mono ?_
            rintro e w8 ⟨rfl, hb8⟩
            have NF := HH (NF.out.after hb8)
            have MF := HH (MF.out.after hb8)
            have SF := HH (SF.out.trans (hb8.mono SF.out.size))
            have NTF := HH (NTF.out.later hb8)
            have n0 := bc0 NF.out
            have n1 := bc1 NF.out
            have n2 := bc2 NF.out
            have m0 := bc0 MF.out
            have m1 := bc1 MF.out
            have m2 := bc2 MF.out
            go_wp2_with fail
            go_at_call 10
            have CM2 := First_far { y with ls := y.ls.set k kz } k kz t _ NTF.out LTM.out HOKM.out HKM.out ht
            rw [HVAL.out] at CM2
            refine CM2.mono ?_
            rintro e w9 ⟨rfl, hb9⟩
            have NF := HH (NF.out.after hb9)
            have SF := HH (SF.out.trans (hb9.mono SF.out.size))
            obtain ⟨adx, hadx, -, ⟨_, _, _, g3, _, _, _⟩, -⟩ := (HX.out _ SF.out).link HKX.out
            obtain rfl : C = some adx := HC.out.trans hadx
            rw [hdx] at g3
            have n2 := bc2 NF.out
            clear CM2
            go_wp2_with fail
            go_ret
            exact ⟨rfl, SF.out⟩
          | true =>
            go_wp2_with fail
            go_at_call 10
            with_reducible refine (CF.out _ k kx t HLT.out HOK.out HKX.out ht SF.out).mono ?_
            rintro e w8 ⟨a, b, rfl, HA, hb8⟩
            have MOK := more_door (k := k) (c := 0) HOK.out HLGX.out hdx hgx1 HA.out.1
            have HOKM : Hid (ok (NtA.net { y with ls := y.ls.set k kz }) = true) := HH (by rw [HNETM.out]; exact MOK.1)
            have NF := HH (NF.out.after hb8)
            have MF := HH (MF.out.after hb8)
            have SF := HH (SF.out.trans (hb8.mono SF.out.size))
            have NTF := HH (NTF.out.later hb8)
            have n0 := bc0 NF.out
            have n1 := bc1 NF.out
            have n2 := bc2 NF.out
            have m0 := bc0 MF.out
            have m1 := bc1 MF.out
            have m2 := bc2 MF.out
            go_wp2_with fail
            go_at_call 10
            have CM2 := First_ok { y with ls := y.ls.set k kz } k kz t _ NTF.out LTM.out HOKM.out HKM.out ht
            rw [HVAL.out] at CM2
            refine CM2.mono ?_
            rintro e w9 ⟨c, rfl, HC9, hb9⟩
            have hcmp := (more_door (k := k) (c := c) HOK.out HLGX.out hdx hgx1 HA.out.1).2 (by have h := HC9.out; rw [HNETM.out, HLZ.out] at h; exact h)
            have hc1 := hcmp.1
            have hc2 : at_ kz.l c ≤ b := by rw [HLZ.out, HA.out.2]; exact hcmp.2
            have NF := HH (NF.out.after hb9)
            have SF := HH (SF.out.trans (hb9.mono SF.out.size))
            obtain ⟨adx, hadx, -, ⟨_, _, _, g3, _, _, _⟩, -⟩ := (HX.out _ SF.out).link HKX.out
            obtain rfl : C = some adx := HC.out.trans hadx
            rw [hdx] at g3
            have n2 := bc2 NF.out
            clear CM2 HC9 hcmp MOK
            generalize at_ kz.l c = d at *
            go_wp2_with fail
            go_ret
            exact ⟨rfl, SF.out⟩
end Go.Proofs.Ytmfocopokadloaa.Lk
