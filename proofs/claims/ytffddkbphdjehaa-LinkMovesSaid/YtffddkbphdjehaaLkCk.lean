/- Contract of package link's Check. Conditions: rows hold at most 10,000 things. -/
import Derived.Test.YtffddkbphdjehaaLkTm
import Derived.Lib.QuietBelow
import Derived.Deep.QuietTactic
namespace Go.Proofs.Ytffddkbphdjehaa.Lk
open Go.ChangeShapes Go.WideShapes Go.ChangeAt Go.RowKit Go.Sort
open Wn
set_option linter.unusedVariables false
set_option linter.unusedSimpArgs false
attribute [local go_sem] Oper.semAt_some

theorem mixed' : Try.prog.follows .mixedOrders = true := by kernel_rfl
set_option maxHeartbeats 4000000 in
theorem check_any (x : NtA) (w : World) (h : NtOk w (· < w.heap.size) x) (hl : Lt x) : Calls Try.prog 6 #[ntV x] w fun e w' => e = .returned (.int .i64 (ck x.net)) ∧ Below w.heap.size w w' := by
  have HN : Hid (∀ W, Below w.heap.size w W → NtOk W (· < W.heap.size) x) := Lib.hid fun W hW => h.later hW
  have CK : Hid (∀ W, Calls Try.prog 13 #[.int .i64 x.hz] W fun e w' => e = .returned (.int .i64 (Tk.checkV x.hz)) ∧ W = w') := Lib.hid fun W => Tk.check_any x.hz W
  have HR0 : Hid (∀ (k : Nat) (r : RwA), x.rs[k]? = some r → r.z.length ≤ 10000) := Lib.hid fun k r hk => hl.rz r (List.mem_of_getElem? hk)
  have HL0 : Hid (∀ (k : Nat) (r : LnA), x.ls[k]? = some r → r.l.op.length ≤ 10000 ∧ r.l.cl.length ≤ 10000) := Lib.hid fun k r hk => ⟨hl.lo r (List.mem_of_getElem? hk), hl.lc r (List.mem_of_getElem? hk)⟩
  have S1 := hl.r
  have S2 := hl.l
  clear h hl
  obtain ⟨n, hn⟩ : ∃ n, n = x.rs.length := ⟨_, rfl⟩
  obtain ⟨m, hm⟩ : ∃ m, m = x.ls.length := ⟨_, rfl⟩
  have HCK : Hid (ck x.net = if sized x.net = true ∧ closedOk x.net = true ∧ linksOk x.net = true then 0 else 2) := Lib.hid (by unfold ck ok; simp [Bool.and_eq_true, and_assoc])
  have HSZ : Hid (sized x.net = true ↔ (tick x.hz = true ∧ n ≤ 256 ∧ m ≤ 2304)) := Lib.hid (by simp [sized, NtA.net, hn, hm, and_assoc])
  have HCL : Hid (closedOk x.net = true ↔ ∀ (k : Nat) (r : RwA), x.rs[k]? = some r → good r.z = true) := Lib.hid (by
    simp only [closedOk, NtA.net, List.all_eq_true, List.mem_map]
    constructor
    · intro h k r hk; exact h r.z ⟨r, List.mem_of_getElem? hk, rfl⟩
    · rintro h z ⟨r, hr, rfl⟩
      obtain ⟨k, hk⟩ := List.getElem?_of_mem hr
      exact h k r hk)
  have HLK : Hid (linksOk x.net = true ↔ ∀ (k : Nat) (r : LnA), x.ls[k]? = some r → lgood x.net r.l = true) := Lib.hid (by
    simp only [linksOk, NtA.net, List.all_eq_true, List.mem_map]
    constructor
    · intro h k r hk; exact h r.l ⟨r, List.mem_of_getElem? hk, rfl⟩
    · rintro h z ⟨r, hr, rfl⟩
      obtain ⟨k, hk⟩ := List.getElem?_of_mem hr
      exact h k r hk)
  have HT : Hid (Tk.checkV x.hz = if tick x.hz = true then 0 else 9) := Lib.hid (checkV_tick _)
  obtain ⟨A, hA⟩ : ∃ A, A = x.p := ⟨_, rfl⟩
  obtain ⟨C, hC⟩ : ∃ C, C = x.q := ⟨_, rfl⟩
  have B0 := Lib.hid ((Below.refl w.heap.size w).alloc (Nat.le_refl _) (.cells #[.int .i64 x.hz, .slice A n x.c, .slice C m x.d] 25))
  have N0 := Lib.hid (Blk.new w 25 [.int .i64 x.hz, .slice A n x.c, .slice C m x.d])
  show Calls _ _ #[.agg #[.int .i64 x.hz, .slice x.p x.rs.length x.c, .slice x.q x.ls.length x.d]] _ _
  rw [← hn, ← hm, ← hA, ← hC]
  have c0 := bc0 N0.out
  have c1 := bc1 N0.out
  have c2 := bc2 N0.out
  rw [← hn] at S1
  rw [← hm] at S2
  have HA := Lib.hid hA
  have HC := Lib.hid hC
  clear hA hC
  have Hn := Lib.hid hn
  have Hm := Lib.hid hm
  clear hn hm
  cases ht : tick x.hz with
  | false =>
    have hk : Tk.checkV x.hz = 9 := by rw [HT.out, ht]; rfl
    have HR : Hid (ck x.net = 2) := Lib.hid (by rw [HCK.out, if_neg (fun h => by have := (HSZ.out.1 h.1).1; rw [ht] at this; cases this)])
    clear HCK HSZ HCL HLK HT ht
    go_enter Try.func6, Try.ntmps6
    go_wp2_with (go_at_call 13; refine (CK.out _).mono ?_; rintro e w1 ⟨rfl, rfl⟩)
    go_ret
    exact ⟨ret_i HR.out.symm, B0.out⟩
  | true =>
    have hk : Tk.checkV x.hz = 0 := by rw [HT.out, ht]; rfl
    by_cases h1 : n ≤ 256
    · by_cases h2 : m ≤ 2304
      · have HSZ' : Hid (sized x.net = true) := Lib.hid (HSZ.out.2 ⟨ht, h1, h2⟩)
        clear HSZ HT ht
        go_enter Try.func6, Try.ntmps6
        go_wp2_with (go_at_call 13; refine (CK.out _).mono ?_; rintro e w1 ⟨rfl, rfl⟩)
        clear c0 c1 c2
        go_loopw [26] (fun v26 wr => ∃ k : Nat, v26 = .int .i64 k ∧ k ≤ n ∧ Hid (∀ (i : Nat) (r : RwA), i < k → x.rs[i]? = some r → good r.z = true) ∧ Hid (Below (w.alloc (.cells #[.int .i64 x.hz, .slice A n x.c, .slice C m x.d] 25)).heap.size (w.alloc (.cells #[.int .i64 x.hz, .slice A n x.c, .slice C m x.d] 25)) wr)) (fun v26 _ => n - (intOf v26).toNat)
        case atStart => exact ⟨0, rfl, by omega, Lib.hid fun i r hi => by omega, Lib.hid (Below.refl _ _)⟩
        case round =>
          obtain ⟨k, rfl, hk', HG, HB⟩ := hrel
          rename World => wo
          by_cases hlt : k < n
          · have hi : (k : Int) < (n : Int) := by omega
            obtain ⟨r, hr⟩ : ∃ r, x.rs[k]? = some r := ⟨_, List.getElem?_eq_getElem (by rw [← Hn.out]; exact hlt)⟩
            have hB := B0.out.trans (HB.out.mono B0.out.size)
            obtain ⟨ad, had, hS, hc1, hok⟩ := (HN.out wo hB).row_ hr
            obtain rfl : A = some ad := HA.out.trans had
            have hc2 : wo.cell? (ad.add k) = some (rwV r) := by simpa using hc1
            have CG := Lib.hid (good_any wo r.p r.z.length r.c r.z (Lib.hid rfl) (by have := HR0.out k r hr; omega) hok.rd)
            obtain ⟨g, hg⟩ : ∃ g, g = good r.z := ⟨_, rfl⟩
            rw [← hg] at CG
            have HGG := Lib.hid hg
            have HB2 := Lib.hid hB
            have HRK := Lib.hid hr
            clear hg hr hok hB had
            cases g with
            | false =>
              have HR : Hid (ck x.net = 2) := Lib.hid (by rw [HCK.out, if_neg (fun h => by have := HCL.out.1 h.2.1 k r HRK.out; rw [← HGG.out] at this; cases this)])
              clear HCK HSZ' HCL HLK HG HGG HRK
              go_wp2_with (go_at_call 14; refine CG.out.mono ?_; rintro e w1 ⟨rfl, hb1⟩)
              go_ret
              exact ⟨ret_i HR.out.symm, HB2.out.trans (hb1.mono HB2.out.size)⟩
            | true =>
              go_wp2_with (go_at_call 14; refine CG.out.mono ?_; rintro e w1 ⟨rfl, hb1⟩)
              go_roundw
              case rel => exact ⟨k + 1, by go_num, by omega, Lib.hid fun i r' hi hr' => (by
                rcases Nat.lt_or_ge i k with h | h
                · exact HG.out i r' h hr'
                · obtain rfl : i = k := by omega
                  rw [HRK.out] at hr'; injection hr' with hr'; subst hr'; exact HGG.out.symm), Lib.hid (HB.out.trans (hb1.mono HB.out.size))⟩
              case measure => simp [intOf]; omega
          · have HCL' : Hid (closedOk x.net = true) := Lib.hid (HCL.out.2 fun i r hr => HG.out i r (by have := (List.getElem?_eq_some_iff.1 hr).1; rw [← Hn.out] at this; omega) hr)
            have NO := Lib.hid (N0.out.after HB.out)
            have HBo := Lib.hid (B0.out.trans (HB.out.mono B0.out.size))
            have c0 := bc0 NO.out
            have c1 := bc1 NO.out
            have c2 := bc2 NO.out
            clear HG HCL N0 B0 HB CK
            go_wp2
            clear c0 c1 c2
            go_loopw [37] (fun v37 wr => ∃ k : Nat, v37 = .int .i64 k ∧ k ≤ m ∧ Hid (∀ (i : Nat) (r : LnA), i < k → x.ls[i]? = some r → lgood x.net r.l = true) ∧ Hid (Below wo.heap.size wo wr)) (fun v37 _ => m - (intOf v37).toNat)
            case atStart => exact ⟨0, rfl, by omega, Lib.hid fun i r hi => by omega, Lib.hid (Below.refl _ _)⟩
            case round =>
              obtain ⟨k, rfl, hk', HG, HB⟩ := hrel
              by_cases hlt : k < m
              · have hi : (k : Int) < (m : Int) := by omega
                obtain ⟨y, hy⟩ : ∃ y, x.ls[k]? = some y := ⟨_, List.getElem?_eq_getElem (by rw [← Hm.out]; exact hlt)⟩
                have hB := HBo.out.trans (HB.out.mono HBo.out.size)
                obtain ⟨ad, had, hS, ⟨h0, h1, h2, h3, h4, h5, h6⟩, hok⟩ := (HN.out wr hB).link hy
                obtain rfl : C = some ad := HC.out.trans had
                clear had
                have hs := HL0.out k y hy
                have HY := Lib.hid hy
                have HOK := Lib.hid hok
                have HB2 := Lib.hid hB
                have HLG : Hid (lgood x.net y.l = (leads x.net y.l.a y.l.b y.l.len && timed y.l)) := Lib.hid rfl
                obtain ⟨W1, hW1⟩ : ∃ W1, W1 = wr.alloc (.cells #[.int .i64 y.l.a, .int .i64 y.l.b, .int .i64 y.l.len, .bool y.l.door, .int .i64 y.l.of, .slice y.p y.l.op.length y.c, .slice y.q y.l.cl.length y.d] 35) := ⟨_, rfl⟩
                have HW1 := Lib.hid hW1
                have hb1 : Below wr.heap.size wr W1 := by rw [hW1]; exact (Below.refl _ _).alloc (Nat.le_refl _) _
                have nb : Blk W1 w.heap.size 25 [.int .i64 x.hz, .slice A n x.c, .slice (some ad) m x.d] := (NO.out.after HB.out).after hb1
                have lb : Blk W1 wr.heap.size 35 [.int .i64 y.l.a, .int .i64 y.l.b, .int .i64 y.l.len, .bool y.l.door, .int .i64 y.l.of, .slice y.p y.l.op.length y.c, .slice y.q y.l.cl.length y.d] := by rw [hW1]; exact Blk.new wr _ _
                have n0 := fun d os => cell_regrown (bc0 nb) d os
                have n1 := fun d os => cell_regrown (bc1 nb) d os
                have n2 := fun d os => cell_regrown (bc2 nb) d os
                have l0 := fun d os => cell_regrown (bc0 lb) d os
                have l1 := fun d os => cell_regrown (bc1 lb) d os
                have l2 := fun d os => cell_regrown (bc2 lb) d os
                have l3 := fun d os => cell_regrown (bc3 lb) d os
                have l4 := fun d os => cell_regrown (bc4 lb) d os
                have l5 := fun d os => cell_regrown (bc5 lb) d os
                have l6 := fun d os => cell_regrown (bc6 lb) d os
                have cE : Hid (∀ d os, Calls Try.prog 16 #[.agg #[.int .i64 y.l.a, .int .i64 y.l.b, .int .i64 y.l.len, .bool y.l.door, .int .i64 y.l.of, .slice y.p y.l.op.length y.c, .slice y.q y.l.cl.length y.d]] (grow (redrawn W1 d) os) fun e w'' => e = .returned (.agg #[.int .i64 y.l.a, .int .i64 y.l.b, .int .i64 y.l.len]) ∧ ∃ p : Regrown, w'' = grow (redrawn W1 p.d) p.os) := Lib.hid fun d os => Calls.regrown_of (edgeOf_any y _)
                have cL0 : ∀ d os, Calls Try.prog 15 #[.agg #[.int .i64 x.hz, .slice A n x.c, .slice (some ad) m x.d], .agg #[.int .i64 y.l.a, .int .i64 y.l.b, .int .i64 y.l.len]] (grow (redrawn W1 d) os) fun e w'' => e = .returned (.bool (leads x.net y.l.a y.l.b y.l.len)) ∧ ∃ p : Regrown, w'' = grow (redrawn W1 p.d) p.os := fun d os => Calls.regrown_of (by rw [Hn.out, Hm.out, HA.out, HC.out]; exact leads_any x _ _ _ _)
                have cT0 : ∀ d os, Calls Try.prog 17 #[.agg #[.int .i64 y.l.a, .int .i64 y.l.b, .int .i64 y.l.len, .bool y.l.door, .int .i64 y.l.of, .slice y.p y.l.op.length y.c, .slice y.q y.l.cl.length y.d]] (grow (redrawn W1 d) os) fun e w'' => e = .returned (.bool (timed y.l)) ∧ ∃ p : Regrown, w'' = grow (redrawn W1 p.d) p.os := fun d os => Calls.regrown_of (timed_any y _ (HOK.out.later (hb1.trans ((below_regrown W1 d os).mono hb1.size))) hs.1 hs.2)
                have KB : Hid (∀ d os, Below wr.heap.size wr (grow (redrawn W1 d) os)) := Lib.hid fun d os => hb1.trans ((below_regrown W1 d os).mono hb1.size)
                clear nb lb hy hok hB hW1
                cases hv : leads x.net y.l.a y.l.b y.l.len with
                | false =>
                  rw [hv] at cL0
                  have cL := Lib.hid cL0
                  have HR : Hid (ck x.net = 2) := Lib.hid (by rw [HCK.out, if_neg (fun h => by have := HLK.out.1 h.2.2 k y HY.out; rw [HLG.out, hv] at this; cases this)])
                  clear hv cL0 cT0 HCK HSZ' HCL' HLK HG HLG HY
                  go_wp2
                  (rw [← HW1.out]; clear HW1)
                  refine wp_region_quiet_below mixed' (by kernel_rfl) ?_
                  repeat (go_big_quiet_step (with_reducible first | exact cE.out _ _ | exact cL.out _ _))
                  refine wpQuiet_nil ?_
                  intro _ hw'
                  obtain ⟨⟨dq, osq⟩, hw''⟩ := hw'
                  subst hw''
                  clear n0 n1 n2 l0 l1 l2 l3 l4 l5 l6
                  go_wp2
                  go_ret
                  exact ⟨ret_i HR.out.symm, HB2.out.trans ((KB.out _ _).mono HB2.out.size)⟩
                | true =>
                  rw [hv] at cL0
                  have cL := Lib.hid cL0
                  cases hu : timed y.l with
                  | false =>
                    rw [hu] at cT0
                    have cT := Lib.hid cT0
                    have HR : Hid (ck x.net = 2) := Lib.hid (by rw [HCK.out, if_neg (fun h => by have := HLK.out.1 h.2.2 k y HY.out; rw [HLG.out, hv, hu] at this; cases this)])
                    clear hv hu cL0 cT0 HCK HSZ' HCL' HLK HG HLG HY
                    go_wp2
                    (rw [← HW1.out]; clear HW1)
                    refine wp_region_quiet_below mixed' (by kernel_rfl) ?_
                    repeat (go_big_quiet_step (with_reducible first | exact cE.out _ _ | exact cL.out _ _ | exact cT.out _ _))
                    refine wpQuiet_nil ?_
                    intro _ hw'
                    obtain ⟨⟨dq, osq⟩, hw''⟩ := hw'
                    subst hw''
                    clear n0 n1 n2 l0 l1 l2 l3 l4 l5 l6
                    go_wp2
                    go_ret
                    exact ⟨ret_i HR.out.symm, HB2.out.trans ((KB.out _ _).mono HB2.out.size)⟩
                  | true =>
                    rw [hu] at cT0
                    have cT := Lib.hid cT0
                    have HG2 : Hid (lgood x.net y.l = true) := Lib.hid (by rw [HLG.out, hv, hu]; rfl)
                    clear hv hu cL0 cT0 HLG
                    go_wp2
                    (rw [← HW1.out]; clear HW1)
                    refine wp_region_quiet_below mixed' (by kernel_rfl) ?_
                    repeat (go_big_quiet_step (with_reducible first | exact cE.out _ _ | exact cL.out _ _ | exact cT.out _ _))
                    refine wpQuiet_nil ?_
                    intro _ hw'
                    obtain ⟨⟨dq, osq⟩, hw''⟩ := hw'
                    subst hw''
                    clear n0 n1 n2 l0 l1 l2 l3 l4 l5 l6
                    go_wp2
                    go_roundw
                    case rel => exact ⟨k + 1, by go_num, by omega, Lib.hid fun i r' hi hr' => (by
                      rcases Nat.lt_or_ge i k with h | h
                      · exact HG.out i r' h hr'
                      · obtain rfl : i = k := by omega
                        rw [HY.out] at hr'; injection hr' with hr'; subst hr'; exact HG2.out), Lib.hid (HB.out.trans ((KB.out _ _).mono HB.out.size))⟩
                    case measure => simp [intOf]; omega
              · have HR : Hid (ck x.net = 0) := Lib.hid (by
                  rw [HCK.out, if_pos ⟨HSZ'.out, HCL'.out, HLK.out.2 fun i r hr => HG.out i r (by have := (List.getElem?_eq_some_iff.1 hr).1; rw [← Hm.out] at this; omega) hr⟩])
                clear HG HCK HSZ' HCL' HLK
                go_wp2
                go_ret
                exact ⟨ret_i HR.out.symm, HBo.out.trans (HB.out.mono HBo.out.size)⟩
      · have HR : Hid (ck x.net = 2) := Lib.hid (by rw [HCK.out, if_neg (fun h => h2 (HSZ.out.1 h.1).2.2)])
        clear HCK HSZ HCL HLK HT ht
        go_enter Try.func6, Try.ntmps6
        go_wp2_with (go_at_call 13; refine (CK.out _).mono ?_; rintro e w1 ⟨rfl, rfl⟩)
        go_ret
        exact ⟨ret_i HR.out.symm, B0.out⟩
    · have HR : Hid (ck x.net = 2) := Lib.hid (by rw [HCK.out, if_neg (fun h => h1 (HSZ.out.1 h.1).2.1)])
      clear HCK HSZ HCL HLK HT ht
      go_enter Try.func6, Try.ntmps6
      go_wp2_with (go_at_call 13; refine (CK.out _).mono ?_; rintro e w1 ⟨rfl, rfl⟩)
      go_ret
      exact ⟨ret_i HR.out.symm, B0.out⟩
end Go.Proofs.Ytffddkbphdjehaa.Lk
