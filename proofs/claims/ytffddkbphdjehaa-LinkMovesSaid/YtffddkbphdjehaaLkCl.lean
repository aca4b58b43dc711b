/- Contracts of the three moves of a link (package link's closures), at boxes that hold the net and the link. Conditions: rows hold at most 10,000 windows. -/
import Derived.Test.YtffddkbphdjehaaLkNr
import Derived.Test.YtffddkbphdjehaaWinGap
import Derived.Lib.QuietBelow
import Derived.Deep.QuietTactic
namespace Go.Proofs.Ytffddkbphdjehaa.Lk
open Go.ChangeShapes Go.WideShapes Go.ChangeAt Go.RowKit Go.Sort
open Wn
set_option linter.unusedVariables false
set_option linter.unusedSimpArgs false
attribute [local go_sem] Oper.semAt_some
theorem mixed' : Try.prog.follows .mixedOrders = true := by kernel_rfl
/-- a net and a link in their boxes -/
structure WyAt (W : World) (x : NtA) (y : LnA) (gn gl : Nat) : Prop where
  bn : Blk W gn 25 [.int .i64 x.hz, .slice x.p x.rs.length x.c, .slice x.q x.ls.length x.d]
  bl : Blk W gl 35 [.int .i64 y.l.a, .int .i64 y.l.b, .int .i64 y.l.len, .bool y.l.door, .int .i64 y.l.of, .slice y.p y.l.op.length y.c, .slice y.q y.l.cl.length y.d]
  nt : NtOk W (· < W.heap.size) x
  ln : LnOk W (· < W.heap.size) y
theorem WyAt.later {W W' : World} {x : NtA} {y : LnA} {gn gl : Nat} (h : WyAt W x y gn gl) (hb : Below W.heap.size W W') : WyAt W' x y gn gl := ⟨h.bn.after hb, h.bl.after hb, h.nt.later hb, h.ln.later hb⟩
theorem near_r {W : World} {A : Option Addr} {n c : Nat} {zs : List Win} (t : Int) (hn : n = zs.length) (hN : n ≤ 10000) (hc : n ≤ c) (hx : Rd W (· < W.heap.size) A (kc zs)) (hg : good zs = true) :
    Calls Try.prog 26 #[.slice A n c, .int .i64 t] W fun e w' => e = .returned (.slice (nrA A c zs t) (nrN zs t) (c - nk zs t)) ∧ Below W.heap.size W w' := near_any W A n c zs t (Lib.hid hn) (by omega) hc hx (Lib.hid hg)
theorem nrN_le (zs : List Win) (t : Int) : nrN zs t ≤ 1 := by unfold nrN; split <;> omega

set_option maxHeartbeats 2000000 in
/-- the stop's -/
theorem leave_any {x : NtA} {y : LnA} (hok : ok x.net = true) (hlg : lgood x.net y.l = true) (hlt : Lt x) {W : World} {gn gl : Nat} (h : WyAt W x y gn gl) (t : Int) :
    Calls Try.prog 29 #[.int .i64 t, .pointer (some ⟨gn, 0, none⟩), .pointer (some ⟨gl, 0, none⟩)] W fun e w' => e = .returned (.int .i64 (lea x.net y.l t)) ∧ Below W.heap.size W w' := by
  obtain ⟨⟨ha0, ha1⟩, _, _, _, _⟩ := lgood_parts hlg
  rw [net_cll] at ha1
  obtain ⟨k, hk⟩ : ∃ k : Nat, y.l.a = k := ⟨y.l.a.toNat, by omega⟩
  have hkl : k < x.rs.length := by omega
  obtain ⟨r, hr⟩ : ∃ r, x.rs[k]? = some r := ⟨_, List.getElem?_eq_getElem hkl⟩
  have hrow : row x.net y.l.a = r.z := by
    unfold row
    rw [hk, List.getD_eq_getElem?_getD, show ((k : Int)).toNat = k by omega, net_cl, hr]; rfl
  have hg : good r.z = true := (ok_parts hok).2.2.2.1 _ (by rw [← hrow]; exact row_mem (by omega) (by rw [net_cll]; omega))
  have hrl : r.z.length ≤ 10000 := hlt.rz r (List.mem_of_getElem? hr)
  obtain ⟨ad, had, hS, hc1, hrok⟩ := h.nt.row_ hr
  have hc2 : W.cell? (ad.add k) = some (.slice r.p r.z.length r.c) := by simpa using hc1
  have HV : Hid (lea x.net y.l t = gp (near r.z t) t 1) := Lib.hid (by unfold lea; rw [hrow])
  have CN := Lib.hid (near_r t rfl hrl hrok.cap hrok.rd hg)
  have HGP : Hid (∀ w1, Below W.heap.size W w1 → Calls Try.prog 30 #[.slice (nrA r.p r.c r.z t) (nrN r.z t) (r.c - nk r.z t), .int .i64 t] w1 fun e w' => e = .returned (.int .i64 (gp (near r.z t) t 1)) ∧ Below w1.heap.size w1 w') := Lib.hid fun w1 hb =>
    free_any w1 _ _ _ _ t (Lib.hid (near_len hg t).symm) (by have := nrN_le r.z t; omega) (near_rd hg hrok.cap (hrok.later hb).rd)
  have n1 := bc1 h.bn
  have l0 := bc0 h.bl
  rw [hk] at l0
  obtain ⟨A, hA⟩ : ∃ A, A = x.p := ⟨_, rfl⟩
  rw [← hA] at n1 had
  subst had
  have hi : (k : Int) < (x.rs.length : Int) := by omega
  generalize gp (near r.z t) t 1 = v at HV HGP
  generalize nrA r.p r.c r.z t = NA at CN HGP
  generalize nrN r.z t = NN at CN HGP
  generalize r.c - nk r.z t = NC at CN HGP
  generalize x.rs.length = n at n1 hi
  clear h hrok hc1 hA hlt hg hrow hr hkl hlg hok hk ha1 ha0
  go_enter Try.func29, Try.ntmps29
  go_wp2_with (first | (go_at_call 26; refine CN.out.mono ?_; rintro e w1 ⟨rfl, hb1⟩) | (go_at_call 30; refine (HGP.out _ hb1).mono ?_; rintro e w2 ⟨rfl, hb2⟩) | fail)
  go_ret
  exact ⟨ret_i HV.out.symm, hb1.trans (hb2.mono hb1.size)⟩

set_option maxHeartbeats 2000000 in
/-- the horizon's -/
theorem arrive_any {x : NtA} {y : LnA} (hok : ok x.net = true) (hlg : lgood x.net y.l = true) {W : World} {gn gl : Nat} (h : WyAt W x y gn gl) (t : Int) :
    Calls Try.prog 31 #[.int .i64 t, .pointer (some ⟨gn, 0, none⟩), .pointer (some ⟨gl, 0, none⟩)] W fun e w' => e = .returned (.int .i64 (arr x.hz y.l.len t)) ∧ Below W.heap.size W w' := by
  have hh := (tick_iff _).1 (ok_parts hok).1
  have hl := (lgood_parts hlg).2.2.2.1
  have n0 := bc0 h.bn
  have l2 := bc2 h.bl
  have HV : Hid (arr x.hz y.l.len t = if x.hz - y.l.len < t then inf else t) := Lib.hid rfl
  have hz' : x.net.hz = x.hz := rfl
  rw [hz'] at hh
  generalize arr x.hz y.l.len t = v at HV ⊢
  generalize x.hz = hz at n0 HV hh
  generalize y.l.len = len at l2 HV hl
  obtain ⟨h1, h2⟩ := hh
  obtain ⟨h3, h4⟩ := hl
  clear h hlg hok hz'
  by_cases hc : hz - len < t
  · have HR : Hid (v = 4611686018427387904) := Lib.hid (by rw [HV.out, if_pos hc])
    clear HV
    go_enter Try.func31, Try.ntmps31
    go_wp2
    go_ret
    exact ⟨ret_i HR.out.symm, Below.refl _ _⟩
  · have HR : Hid (v = t) := Lib.hid (by rw [HV.out, if_neg hc])
    clear HV
    go_enter Try.func31, Try.ntmps31
    go_wp2
    go_ret
    exact ⟨ret_i HR.out.symm, Below.refl _ _⟩

set_option maxHeartbeats 2000000 in
/-- a door's -/
theorem open_any {x : NtA} {y : LnA} (hlg : lgood x.net y.l = true) (hlo : y.l.op.length ≤ 10000) (hd : y.l.door = true) {W : World} {gn gl : Nat} (h : WyAt W x y gn gl) (t : Int) :
    Calls Try.prog 27 #[.int .i64 t, .pointer (some ⟨gl, 0, none⟩)] W fun e w' => e = .returned (.int .i64 (pas y.l t)) ∧ Below W.heap.size W w' := by
  have hg := (lgood_parts hlg).2.2.2.2.1
  have HV : Hid (pas y.l t = nx (near y.l.op t) t) := Lib.hid (by unfold pas; rw [if_pos hd])
  have CN := Lib.hid (near_r t rfl hlo h.ln.co h.ln.ro hg)
  have HGP : Hid (∀ w1, Below W.heap.size W w1 → Calls Try.prog 28 #[.slice (nrA y.p y.c y.l.op t) (nrN y.l.op t) (y.c - nk y.l.op t), .int .i64 t] w1 fun e w' => e = .returned (.int .i64 (nx (near y.l.op t) t)) ∧ Below w1.heap.size w1 w') := Lib.hid fun w1 hb =>
    next_any w1 _ _ _ _ t (Lib.hid (near_len hg t).symm) (by have := nrN_le y.l.op t; omega) (near_rd hg h.ln.co (h.ln.later hb).ro)
  have l5 := bc5 h.bl
  generalize nx (near y.l.op t) t = v at HV HGP
  generalize nrA y.p y.c y.l.op t = NA at CN HGP
  generalize nrN y.l.op t = NN at CN HGP
  generalize y.c - nk y.l.op t = NC at CN HGP
  clear h hlg hg hd
  go_enter Try.func27, Try.ntmps27
  go_wp2_with (first | (go_at_call 26; refine CN.out.mono ?_; rintro e w1 ⟨rfl, hb1⟩) | (go_at_call 28; refine (HGP.out _ hb1).mono ?_; rintro e w2 ⟨rfl, hb2⟩) | fail)
  go_ret
  exact ⟨ret_i HV.out.symm, hb1.trans (hb2.mono hb1.size)⟩

set_option maxHeartbeats 4000000 in
/-- a path's -/
theorem shut_any {x : NtA} {y : LnA} (hlg : lgood x.net y.l = true) (hlc : y.l.cl.length ≤ 10000) (hd : y.l.door = false) {W : World} {gn gl : Nat} (h : WyAt W x y gn gl) (t : Int) :
    Calls Try.prog 24 #[.int .i64 t, .pointer (some ⟨gl, 0, none⟩)] W fun e w' => e = .returned (.int .i64 (pas y.l t)) ∧ Below W.heap.size W w' := by
  have hg := (lgood_parts hlg).2.2.2.2.2.1
  have HV : Hid (pas y.l t = gp (near y.l.cl t) t y.l.len) := Lib.hid (by unfold pas; rw [if_neg (by rw [hd]; decide)])
  have CN : Hid (∀ d os, Calls Try.prog 26 #[.slice y.q y.l.cl.length y.d, .int .i64 t] (grow (redrawn W d) os) fun e w'' => e = .returned (.slice (nrA y.q y.d y.l.cl t) (nrN y.l.cl t) (y.d - nk y.l.cl t)) ∧ ∃ p : Regrown, w'' = grow (redrawn W p.d) p.os) := Lib.hid fun d os => Calls.regrown_of (near_r t rfl hlc h.ln.cc (h.ln.later (below_regrown W d os)).rc hg)
  have CG : Hid (∀ d os, Calls Try.prog 25 #[.slice (nrA y.q y.d y.l.cl t) (nrN y.l.cl t) (y.d - nk y.l.cl t), .int .i64 t, .int .i64 y.l.len] (grow (redrawn W d) os) fun e w'' => e = .returned (.int .i64 (gp (near y.l.cl t) t y.l.len)) ∧ ∃ p : Regrown, w'' = grow (redrawn W p.d) p.os) := Lib.hid fun d os => Calls.regrown_of
    (gap_any _ _ _ _ _ t _ (Lib.hid (near_len hg t).symm) (by have := nrN_le y.l.cl t; omega) (near_rd hg h.ln.cc (h.ln.later (below_regrown W d os)).rc))
  have l2 := fun d os => cell_regrown (bc2 h.bl) d os
  have l6 := fun d os => cell_regrown (bc6 h.bl) d os
  generalize gp (near y.l.cl t) t y.l.len = v at HV CG
  generalize nrA y.q y.d y.l.cl t = NA at CN CG
  generalize nrN y.l.cl t = NN at CN CG
  generalize y.d - nk y.l.cl t = NC at CN CG
  clear h hlg hg hd
  go_enter Try.func24, Try.ntmps24
  go_wp2
  refine wp_region_quiet_below mixed' (by kernel_rfl) ?_
  repeat (go_big_quiet_step (with_reducible first | exact CN.out _ _ | exact CG.out _ _))
  refine wpQuiet_nil ?_
  intro _ hw'
  obtain ⟨⟨dq, osq⟩, hw''⟩ := hw'
  subst hw''
  go_wp2
  go_ret
  exact ⟨ret_i HV.out.symm, below_regrown W dq osq⟩
end Go.Proofs.Ytffddkbphdjehaa.Lk
