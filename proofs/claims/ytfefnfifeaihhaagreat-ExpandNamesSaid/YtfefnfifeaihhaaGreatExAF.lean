/- The law ExpandNames, walked: its values, two rows of constants in any order, the walk. No conditions. -/
import Derived.Test.YtfefnfifeaihhaaGreatExAA
import Derived.Test.YtfefnfifeaihhaaGreatExX
import Derived.Test.YtfefnfifeaihhaaGreatExQ
import Derived.Test.YtfefnfifeaihhaaGreatExN
import Derived.Test.YtfefnfifeaihhaaGreatExM
import Derived.BigQuiet
set_option linter.unusedVariables false
set_option linter.unusedSimpArgs false
set_option maxHeartbeats 40000000
set_option maxRecDepth 100000
namespace Go.Proofs.YtfefnfifeaihhaaGreat.Wo
open Go.ChangeShapes Go.WideShapes Go.ChangeAt Go.RowKit Go.Maps
open Lx Sh
theorem ex_row1 : rowW exM 1 = none := by decide +kernel
theorem en_02 (p : WoA) (w : World) (h : Wo w (· < w.heap.size) exM p) : Calls Tryz.prog 9 #[woQ exM p, .int .i64 0, .int .i64 2] w (LaNo w 5) :=
  one_over exM p w h ex_lt 0 2 ex_err _ _ ex_row (by decide +kernel)
theorem en_10 (p : WoA) (w : World) (h : Wo w (· < w.heap.size) exM p) : Calls Tryz.prog 9 #[woQ exM p, .int .i64 1, .int .i64 0] w (LaNo w 5) :=
  one_none exM p w h ex_lt 1 0 ex_err ex_row1
def ngM : WorldM := ⟨-1, ⟨[], [], [], [], [], []⟩, [], [], [], [], []⟩
def ngA : WoA := ⟨⟨none, none, none, none, none, none, 0, 0, 0, 0, 0, 0⟩, none, none, none, none, none, 0, 0, 0, 0, 0⟩
theorem ng_err : (wrongW ngM).err ≠ 0 := by decide +kernel
theorem ng_lt : WLt ngM := ⟨by decide, by decide, by decide, by decide, by decide, by decide, by decide, by decide, by decide, by decide, by decide, by decide⟩
theorem ng_wo (w : World) : Wo w (· < w.heap.size) ngM ngA := ⟨⟨rd0, rd0, rd0, rd0, rd0, rd0⟩, rd0, rd0, ⟨[], rd0, rfl⟩, rd0, rd0⟩
theorem en_ng (w : World) : Calls Tryz.prog 9 #[.agg #[.int .i64 (-1), .slice none 0 0, .slice none 0 0, .slice none 0 0, .slice none 0 0, .slice none 0 0, .slice none 0 0, .slice none 0 0, .slice none 0 0, .slice none 0 0, .slice none 0 0, .slice none 0 0], .int .i64 0, .int .i64 0] w (LaNo w 2) :=
  one_bad ngM ngA w (ng_wo w) ng_lt 0 0 ng_err
theorem en_all (p : WoA) (w : World) (h : Wo w (· < w.heap.size) exM p) : Calls Tryz.prog 11 #[woQ exM p] w (fun e w' => ∃ (A : Option Addr) (c : Nat), e = .returned (.tuple #[.slice A 2 c, .int .i64 0]) ∧ Hid (Below w.heap.size w w')) := by
  have hl : (runsTo exM exM.trips.length).length = 2 := by decide +kernel
  refine (all_good exM p w h ex_lt ex_err).mono ?_
  rintro e w' (⟨hle, A, c, ss, rfl, h1, h2, h3⟩ | ⟨hlt, -⟩)
  · rw [hl]
    exact ⟨A, c, rfl, h3⟩
  · omega
theorem ex_arr0 : arrT [5, 3] [2] (Tk.atV 1 10 0) 2 = [1, 6, 11] := by decide +kernel
theorem ex_dep0 : depT [5, 3] [2] (Tk.atV 1 10 0) 2 = [1, 8, 11] := by decide +kernel
theorem en_00 (p : WoA) (w : World) (h : Wo w (· < w.heap.size) exM p) : Calls Tryz.prog 9 #[woQ exM p, .int .i64 0, .int .i64 0] w (RunOk w 0 0 3 [1, 6, 11] [1, 8, 11]) := by
  have := one_ok exM p w h ex_lt 0 0 ex_err _ _ ex_row (by omega) (by decide +kernel)
  have e1 := ex_arr0
  have e2 := ex_dep0
  simp only [List.length_cons, List.length_nil] at this
  rw [e1, e2] at this
  exact this
theorem en_later (f b er : Int) (m : Nat) (la ld : List Int) (hr : latR 0 0 [1, 6, 11] [1, 8, 11] f b = ⟨0, 0, la, ld⟩) (he : latE [1, 6, 11] [1, 8, 11] f b = er) (hm : la.length = m) (w : World) (A B : Option Addr) (c d : Nat) (hx : Rd w (· < w.heap.size) A (cs intC [1, 6, 11])) (hy : Rd w (· < w.heap.size) B (cs intC [1, 8, 11])) :
    Calls Tryz.prog 12 #[.agg #[.int .i64 0, .int .i64 0, .slice A 3 c, .slice B 3 d], .int .i64 f, .int .i64 b] w (RunAny w 0 0 m la ld er) := by
  have := later_any w 0 0 A B 3 3 c d [1, 6, 11] [1, 8, 11] f b (HH rfl) (HH rfl) (by omega) (by omega) hx hy
  rw [he, hr] at this
  simp only [hm] at this
  exact this
theorem en_l1 (w : World) (A B : Option Addr) (c d : Nat) (hx : Rd w (· < w.heap.size) A (cs intC [1, 6, 11])) (hy : Rd w (· < w.heap.size) B (cs intC [1, 8, 11])) :
    Calls Tryz.prog 12 #[.agg #[.int .i64 0, .int .i64 0, .slice A 3 c, .slice B 3 d], .int .i64 1, .int .i64 4] w (RunAny w 0 0 3 [1, 6, 15] [1, 12, 15] 0) :=
  en_later 1 4 0 3 _ _ (by decide +kernel) (by decide +kernel) rfl w A B c d hx hy
theorem en_l0 (w : World) (A B : Option Addr) (c d : Nat) (hx : Rd w (· < w.heap.size) A (cs intC [1, 6, 11])) (hy : Rd w (· < w.heap.size) B (cs intC [1, 8, 11])) :
    Calls Tryz.prog 12 #[.agg #[.int .i64 0, .int .i64 0, .slice A 3 c, .slice B 3 d], .int .i64 0, .int .i64 4] w (RunAny w 0 0 3 [5, 10, 15] [5, 12, 15] 0) :=
  en_later 0 4 0 3 _ _ (by decide +kernel) (by decide +kernel) rfl w A B c d hx hy
theorem en_l2 (w : World) (A B : Option Addr) (c d : Nat) (hx : Rd w (· < w.heap.size) A (cs intC [1, 6, 11])) (hy : Rd w (· < w.heap.size) B (cs intC [1, 8, 11])) :
    Calls Tryz.prog 12 #[.agg #[.int .i64 0, .int .i64 0, .slice A 3 c, .slice B 3 d], .int .i64 2, .int .i64 4] w (RunAny w 0 0 0 [] [] 2) :=
  en_later 2 4 2 0 _ _ (by decide +kernel) (by decide +kernel) rfl w A B c d hx hy
theorem en_l3 (w : World) (A B : Option Addr) (c d : Nat) (hx : Rd w (· < w.heap.size) A (cs intC [1, 6, 11])) (hy : Rd w (· < w.heap.size) B (cs intC [1, 8, 11])) :
    Calls Tryz.prog 12 #[.agg #[.int .i64 0, .int .i64 0, .slice A 3 c, .slice B 3 d], .int .i64 0, .int .i64 1099511627776] w (RunAny w 0 0 0 [] [] 9) :=
  en_later 0 1099511627776 9 0 _ _ (by decide +kernel) (by decide +kernel) rfl w A B c d hx hy
theorem en_l4 (w : World) (A B : Option Addr) (c d : Nat) (hx : Rd w (· < w.heap.size) A (cs intC [1, 6, 11])) (hy : Rd w (· < w.heap.size) B (cs intC [1, 8, 11])) :
    Calls Tryz.prog 12 #[.agg #[.int .i64 0, .int .i64 0, .slice A 3 c, .slice B 3 d], .int .i64 1, .int .i64 20] w (RunAny w 0 0 3 [1, 6, 31] [1, 28, 31] 0) :=
  en_later 1 20 0 3 _ _ (by decide +kernel) (by decide +kernel) rfl w A B c d hx hy
theorem en_check (x : Int) (la ld : List Int) (n : Nat) (hn : n = la.length) (hm : n = ld.length) (hN : n ≤ 1000) (hx : ckR exM ⟨[0, 1, 2], [5, 3], [2]⟩ la ld = x) (p : WoA) (w : World) (h : Wo w (· < w.heap.size) exM p) (A B : Option Addr) (c d : Nat) (ha : Rd w (· < w.heap.size) A (cs intC la)) (hb : Rd w (· < w.heap.size) B (cs intC ld)) :
    Calls Tryz.prog 15 #[woQ exM p, .agg #[.int .i64 0, .int .i64 0, .slice A n c, .slice B n d]] w (QuietI w x) := by
  have := exck_main exM p w h ex_lt 0 0 A B n n c d ex_err 0 ⟨0, 1, 10, 40⟩ ⟨[0, 1, 2], [5, 3], [2]⟩ rfl rfl rfl ex_row (by decide +kernel) la ld (HH hn) (HH hm) (by omega) (by omega) ha hb
  rw [hx] at this
  exact this
theorem en_c1 (p : WoA) (w : World) (h : Wo w (· < w.heap.size) exM p) (A B : Option Addr) (c d : Nat) (ha : Rd w (· < w.heap.size) A (cs intC [1, 6, 15])) (hb : Rd w (· < w.heap.size) B (cs intC [1, 12, 15])) :
    Calls Tryz.prog 15 #[woQ exM p, .agg #[.int .i64 0, .int .i64 0, .slice A 3 c, .slice B 3 d]] w (QuietI w 0) :=
  en_check 0 _ _ 3 rfl rfl (by omega) (by decide +kernel) p w h A B c d ha hb
theorem en_c2 (p : WoA) (w : World) (h : Wo w (· < w.heap.size) exM p) (A B : Option Addr) (c d : Nat) (ha : Rd w (· < w.heap.size) A (cs intC [1, 6, 31])) (hb : Rd w (· < w.heap.size) B (cs intC [1, 28, 31])) :
    Calls Tryz.prog 15 #[woQ exM p, .agg #[.int .i64 0, .int .i64 0, .slice A 3 c, .slice B 3 d]] w (QuietI w 9) :=
  en_check 9 _ _ 3 rfl rfl (by omega) (by decide +kernel) p w h A B c d ha hb
theorem en_c3 (p : WoA) (w : World) (h : Wo w (· < w.heap.size) exM p) :
    Calls Tryz.prog 15 #[woQ exM p, .agg #[.int .i64 0, .int .i64 0, .slice none 0 0, .slice none 0 0]] w (QuietI w 2) :=
  en_check 2 [] [] 0 rfl rfl (by omega) (by decide +kernel) p w h none none 0 0 rd0 rd0
theorem en_k (a e : List Int) (ha : a.length = 3) (he : e.length = 3) (w : World) (A B C D : Option Addr) (c d c' d' : Nat) (h1 : Rd w (· < w.heap.size) A (cs intC a)) (h2 : Rd w (· < w.heap.size) B (cs intC e)) (h3 : Rd w (· < w.heap.size) C (cs intC a)) (h4 : Rd w (· < w.heap.size) D (cs intC e)) :
    Calls Tryz.prog 14 #[.agg #[.int .i64 0, .int .i64 0, .slice A 3 c, .slice B 3 d], .agg #[.int .i64 0, .int .i64 0, .slice C 3 c', .slice D 3 d']] w (BPost w true) :=
  krun_any w 0 0 A B C D 3 3 c d c' d' a e (HH ha.symm) (HH he.symm) (by omega) (by omega) h1 h2 h3 h4
/-- two operations that may come up, each of which lays a row of constants in a new block: whichever comes first, one goal -/
theorem two_any {P : Program} {ops : Array Oper} {Q : Exit → Act → World → Prop} {md : Region.Mode} {S : World → Prop} (i j : Nat) {oi oj : Oper} {di dj : Nat} {ni nj : Nat} {ti tj : TypeId} (ci cj : List Value) {fuel : Nat} {listed : Array Bool} {a : Act} {w : World}
    (hi : ops[i]? = some oi) (hj : ops[j]? = some oj) (hdi : oi.dst = some di) (hdj : oj.dst = some dj)
    (wi : Region.wanted oi (yielded ops a.tmps) = true) (wj : Region.wanted oj (yielded ops a.tmps) = true)
    (wi' : ∀ v, Region.wanted oi (yielded ops (a.put oj.dst v).tmps) = true) (wj' : ∀ v, Region.wanted oj (yielded ops (a.put oi.dst v).tmps) = true)
    (ri : ∀ (a : Act) w, (execOp a.eval oi).run P w = .ok (.value (.slice (some ⟨w.heap.size, 0, none⟩) ni ni)) (w.alloc (.cells ci.toArray ti)))
    (rj : ∀ (a : Act) w, (execOp a.eval oj).run P w = .ok (.value (.slice (some ⟨w.heap.size, 0, none⟩) nj nj)) (w.alloc (.cells cj.toArray tj)))
    (hS : ∀ w', Below w.heap.size w w' → S w')
    (h : ∀ gi gj w', Hid (Blk w' gi ti ci) → Hid (Blk w' gj tj cj) → Hid (Below w.heap.size w w') → wpAnyH P md ops Q S fuel ((listed.setIfInBounds i true).setIfInBounds j true) ((a.put oi.dst (.slice (some ⟨gi, 0, none⟩) ni ni)).put oj.dst (.slice (some ⟨gj, 0, none⟩) nj nj)) w')
    (hne : i ≠ j := by decide) (hd : di ≠ dj := by decide) (hr : Region.ready md ops listed = [i, j] := by kernel_rfl) (hr1 : Region.ready md ops (listed.setIfInBounds i true) = [j] := by kernel_rfl) (hr2 : Region.ready md ops (listed.setIfInBounds j true) = [i] := by kernel_rfl) :
    wpAnyH P md ops Q S (fuel + 2) listed a w := by
  have step : ∀ (k : Nat) (o : Oper) (a : Act) (w : World) (v : Value) (w' : World) (K : Act → World → Prop), ops[k]? = some o → Region.wanted o (yielded ops a.tmps) = true → (execOp a.eval o).run P w = .ok (.value v) w' → K (a.put o.dst v) w' → wpOp P ops Q k K a w := by
    intro k o a w v w' K h1 h2 h3 h4
    unfold wpOp
    simp only [h1, h2, if_true, Oper.wp, h3, Oper.upon]
    exact .inl h4
  refine wpAnyH_all hr (by simp) (fun k hk => ?_)
  simp only [List.mem_cons, List.not_mem_nil, or_false] at hk
  rcases hk with rfl | rfl
  · refine step k oi a w _ _ _ hi wi (ri a w) ⟨hS _ (one_box _ _), ?_⟩
    refine wpAnyH_all hr1 (by simp) (fun l hl => ?_)
    obtain rfl : l = j := by simpa using hl
    refine step l oj _ _ _ _ _ hj (wj' _) (rj _ _) ⟨hS _ (two_box _ _ _), ?_⟩
    exact h _ _ _ (HH ((Blk.new _ _ _).alloc _)) (HH (Blk.new _ _ _)) (HH (two_box _ _ _))
  · refine step k oj a w _ _ _ hj wj (rj a w) ⟨hS _ (one_box _ _), ?_⟩
    refine wpAnyH_all hr2 (by simp) (fun l hl => ?_)
    obtain rfl : l = i := by simpa using hl
    refine step l oi _ _ _ _ _ hi (wi' _) (ri _ _) ⟨hS _ (two_box _ _ _), ?_⟩
    have := h _ _ _ (HH (Blk.new (w.alloc (.cells cj.toArray tj)) ti ci)) (HH ((Blk.new w tj cj).alloc (.cells ci.toArray ti))) (HH (two_box _ _ _))
    rw [Array.setIfInBounds_comm _ _ hne, Act.put_comm _ _ _ (fun d h1 h2 => by rw [hdi] at h1; rw [hdj] at h2; cases h1; cases h2; exact hd rfl)] at this
    exact this
theorem exnames_any (w : World) : Calls Tryz.prog 3 #[] w (BPost w true) := by
  go_enter Tryz.func3, Tryz.ntmps3
  go_upto_region 2 with (first
    | (go_at_call 10; refine (example_any _).mono ?_; rintro e w1 ⟨p_w1, rfl, HW', hb⟩; have HW := HH HW'; have HA := HH hb; clear hb HW')
    | (go_at_call 9; refine (en_02 _ _ HW.out).mono ?_; rintro e w2 ⟨rfl, hb⟩; clear HW; replace HA := HH (keep_trans HA.out hb); clear hb))
  have HX := HH (one_box w2 (.cells #[.int .i64 0, .int .i64 0, .slice none 0 0, .slice none 0 0] 24))
  replace HA := HH (keep_trans HA.out HX.out)
  clear HX
  generalize w2.alloc (.cells #[.int .i64 0, .int .i64 0, .slice none 0 0, .slice none 0 0] 24) = w3 at *
  go_upto_region 3 with (first
    | (go_at_call 10; refine (example_any _).mono ?_; rintro e w4 ⟨p_w4, rfl, HW', hb⟩; have HW := HH HW'; replace HA := HH (keep_trans HA.out hb); clear hb HW')
    | (go_at_call 9; refine (en_10 _ _ HW.out).mono ?_; rintro e w5 ⟨rfl, hb⟩; clear HW; replace HA := HH (keep_trans HA.out hb); clear hb))
  have HX := HH (one_box w5 (.cells #[.int .i64 0, .int .i64 0, .slice none 0 0, .slice none 0 0] 24))
  replace HA := HH (keep_trans HA.out HX.out)
  clear HX
  generalize w5.alloc (.cells #[.int .i64 0, .int .i64 0, .slice none 0 0, .slice none 0 0] 24) = w6 at *
  go_upto_region 4 with (first
    | (go_at_call 9; refine (en_ng _).mono ?_; rintro e w7 ⟨rfl, hb⟩; replace HA := HH (keep_trans HA.out hb); clear hb))
  have HX := HH (one_box w7 (.cells #[.int .i64 0, .int .i64 0, .slice none 0 0, .slice none 0 0] 24))
  replace HA := HH (keep_trans HA.out HX.out)
  clear HX
  generalize w7.alloc (.cells #[.int .i64 0, .int .i64 0, .slice none 0 0, .slice none 0 0] 24) = w8 at *
  go_upto_region 5 with (first
    | (go_at_call 10; refine (example_any _).mono ?_; rintro e w9 ⟨p_w9, rfl, HW', hb⟩; have HW := HH HW'; replace HA := HH (keep_trans HA.out hb); clear hb HW')
    | (go_at_call 11; refine (en_all _ _ HW.out).mono ?_; rintro e w10 ⟨LA, lc, rfl, hb⟩; clear HW; replace HA := HH (keep_trans HA.out hb.out); clear hb))
  go_upto_region 6 with (first
    | (go_at_call 10; refine (example_any _).mono ?_; rintro e w11 ⟨p_w11, rfl, HW', hb⟩; have HW := HH HW'; replace HA := HH (keep_trans HA.out hb); clear hb HW')
    | (go_at_call 9; refine (en_00 _ _ HW.out).mono ?_; rintro e w12 ⟨XA, XB, xc, xd, rfl, XR, YR, hb⟩; clear HW; replace HA := HH (keep_trans HA.out hb.out); clear hb; replace XR := HH XR.out.old; replace YR := HH YR.out.old))
  have HX := HH (one_box w12 (.cells #[.int .i64 0, .int .i64 0, .slice XA 3 xc, .slice XB 3 xd] 24))
  have KX := HH (Blk.new w12 24 [.int .i64 0, .int .i64 0, .slice XA 3 xc, .slice XB 3 xd])
  replace XR := HH (rd_later XR.out HX.out)
  replace YR := HH (rd_later YR.out HX.out)
  replace HA := HH (keep_trans HA.out HX.out)
  clear HX
  generalize w12.alloc (.cells #[.int .i64 0, .int .i64 0, .slice XA 3 xc, .slice XB 3 xd] 24) = w13 at *
  obtain ⟨b0, b1, b2, b3⟩ : w13.cell? ⟨w12.heap.size, 0, none⟩ = some (.int .i64 0) ∧ w13.cell? ⟨w12.heap.size, 1, none⟩ = some (.int .i64 0) ∧ w13.cell? ⟨w12.heap.size, 2, none⟩ = some (.slice XA 3 xc) ∧ w13.cell? ⟨w12.heap.size, 3, none⟩ = some (.slice XB 3 xd) := ⟨KX.out.cell 0, KX.out.cell 1, KX.out.cell 2, KX.out.cell 3⟩
  go_upto_region 7 with (go_at_call 12; (with_reducible refine (en_l1 _ _ _ _ _ XR.out YR.out).mono ?_); rintro e w14 ⟨LA, LB, Lc, Ld, rfl, LR, LS, hb⟩; clear b0 b1 b2 b3; replace KX := HH (KX.out.after hb.out); replace XR := HH (rd_later XR.out hb.out); replace YR := HH (rd_later YR.out hb.out); replace HA := HH (keep_trans HA.out hb.out); clear hb; replace LR := HH LR.out.old; replace LS := HH LS.out.old)
  have HX := HH (one_box w14 (.cells #[.int .i64 0, .int .i64 0, .slice LA 3 Lc, .slice LB 3 Ld] 24))
  have KL := HH (Blk.new w14 24 [.int .i64 0, .int .i64 0, .slice LA 3 Lc, .slice LB 3 Ld])
  replace KX := HH (KX.out.after HX.out)
  replace XR := HH (rd_later XR.out HX.out)
  replace YR := HH (rd_later YR.out HX.out)
  replace LR := HH (rd_later LR.out HX.out)
  replace LS := HH (rd_later LS.out HX.out)
  replace HA := HH (keep_trans HA.out HX.out)
  clear HX
  generalize w14.alloc (.cells #[.int .i64 0, .int .i64 0, .slice LA 3 Lc, .slice LB 3 Ld] 24) = w15 at *
  obtain ⟨b0, b1, b2, b3⟩ : w15.cell? ⟨w12.heap.size, 0, none⟩ = some (.int .i64 0) ∧ w15.cell? ⟨w12.heap.size, 1, none⟩ = some (.int .i64 0) ∧ w15.cell? ⟨w12.heap.size, 2, none⟩ = some (.slice XA 3 xc) ∧ w15.cell? ⟨w12.heap.size, 3, none⟩ = some (.slice XB 3 xd) := ⟨KX.out.cell 0, KX.out.cell 1, KX.out.cell 2, KX.out.cell 3⟩
  go_upto_region 8 with (go_at_call 12; (with_reducible refine (en_l0 _ _ _ _ _ XR.out YR.out).mono ?_); rintro e w16 ⟨MA, MB, Mc, Md, rfl, MR, MS, hb⟩; clear b0 b1 b2 b3; replace KX := HH (KX.out.after hb.out); replace KL := HH (KL.out.after hb.out); replace XR := HH (rd_later XR.out hb.out); replace YR := HH (rd_later YR.out hb.out); replace LR := HH (rd_later LR.out hb.out); replace LS := HH (rd_later LS.out hb.out); replace HA := HH (keep_trans HA.out hb.out); clear hb; replace MR := HH MR.out.old; replace MS := HH MS.out.old)
  have HX := HH (one_box w16 (.cells #[.int .i64 0, .int .i64 0, .slice MA 3 Mc, .slice MB 3 Md] 24))
  have KM := HH (Blk.new w16 24 [.int .i64 0, .int .i64 0, .slice MA 3 Mc, .slice MB 3 Md])
  replace KX := HH (KX.out.after HX.out)
  replace KL := HH (KL.out.after HX.out)
  replace XR := HH (rd_later XR.out HX.out)
  replace YR := HH (rd_later YR.out HX.out)
  replace LR := HH (rd_later LR.out HX.out)
  replace LS := HH (rd_later LS.out HX.out)
  replace MR := HH (rd_later MR.out HX.out)
  replace MS := HH (rd_later MS.out HX.out)
  replace HA := HH (keep_trans HA.out HX.out)
  clear HX
  generalize w16.alloc (.cells #[.int .i64 0, .int .i64 0, .slice MA 3 Mc, .slice MB 3 Md] 24) = w17 at *
  obtain ⟨b0, b1, b2, b3⟩ : w17.cell? ⟨w12.heap.size, 0, none⟩ = some (.int .i64 0) ∧ w17.cell? ⟨w12.heap.size, 1, none⟩ = some (.int .i64 0) ∧ w17.cell? ⟨w12.heap.size, 2, none⟩ = some (.slice XA 3 xc) ∧ w17.cell? ⟨w12.heap.size, 3, none⟩ = some (.slice XB 3 xd) := ⟨KX.out.cell 0, KX.out.cell 1, KX.out.cell 2, KX.out.cell 3⟩
  go_upto_region 9 with (go_at_call 12; (with_reducible refine (en_l2 _ _ _ _ _ XR.out YR.out).mono ?_); rintro e w18 ⟨Q9A, Q9B, Q9c, Q9d, rfl, Q9R, Q9S, hb⟩; clear b0 b1 b2 b3; replace KX := HH (KX.out.after hb.out); replace KL := HH (KL.out.after hb.out); replace KM := HH (KM.out.after hb.out); replace XR := HH (rd_later XR.out hb.out); replace YR := HH (rd_later YR.out hb.out); replace LR := HH (rd_later LR.out hb.out); replace LS := HH (rd_later LS.out hb.out); replace MR := HH (rd_later MR.out hb.out); replace MS := HH (rd_later MS.out hb.out); replace HA := HH (keep_trans HA.out hb.out); clear hb; replace Q9R := HH Q9R.out.old; replace Q9S := HH Q9S.out.old)
  have HX := HH (one_box w18 (.cells #[.int .i64 0, .int .i64 0, .slice Q9A 0 Q9c, .slice Q9B 0 Q9d] 24))
  replace KX := HH (KX.out.after HX.out)
  replace KL := HH (KL.out.after HX.out)
  replace KM := HH (KM.out.after HX.out)
  replace XR := HH (rd_later XR.out HX.out)
  replace YR := HH (rd_later YR.out HX.out)
  replace LR := HH (rd_later LR.out HX.out)
  replace LS := HH (rd_later LS.out HX.out)
  replace MR := HH (rd_later MR.out HX.out)
  replace MS := HH (rd_later MS.out HX.out)
  replace HA := HH (keep_trans HA.out HX.out)
  clear HX
  generalize w18.alloc (.cells #[.int .i64 0, .int .i64 0, .slice Q9A 0 Q9c, .slice Q9B 0 Q9d] 24) = w19 at *
  obtain ⟨b0, b1, b2, b3⟩ : w19.cell? ⟨w12.heap.size, 0, none⟩ = some (.int .i64 0) ∧ w19.cell? ⟨w12.heap.size, 1, none⟩ = some (.int .i64 0) ∧ w19.cell? ⟨w12.heap.size, 2, none⟩ = some (.slice XA 3 xc) ∧ w19.cell? ⟨w12.heap.size, 3, none⟩ = some (.slice XB 3 xd) := ⟨KX.out.cell 0, KX.out.cell 1, KX.out.cell 2, KX.out.cell 3⟩
  go_upto_region 10 with (go_at_call 12; (with_reducible refine (en_l3 _ _ _ _ _ XR.out YR.out).mono ?_); rintro e w20 ⟨Q10A, Q10B, Q10c, Q10d, rfl, Q10R, Q10S, hb⟩; clear b0 b1 b2 b3; replace KX := HH (KX.out.after hb.out); replace KL := HH (KL.out.after hb.out); replace KM := HH (KM.out.after hb.out); replace XR := HH (rd_later XR.out hb.out); replace YR := HH (rd_later YR.out hb.out); replace LR := HH (rd_later LR.out hb.out); replace LS := HH (rd_later LS.out hb.out); replace MR := HH (rd_later MR.out hb.out); replace MS := HH (rd_later MS.out hb.out); replace HA := HH (keep_trans HA.out hb.out); clear hb; replace Q10R := HH Q10R.out.old; replace Q10S := HH Q10S.out.old)
  have HX := HH (one_box w20 (.cells #[.int .i64 0, .int .i64 0, .slice Q10A 0 Q10c, .slice Q10B 0 Q10d] 24))
  replace KX := HH (KX.out.after HX.out)
  replace KL := HH (KL.out.after HX.out)
  replace KM := HH (KM.out.after HX.out)
  replace XR := HH (rd_later XR.out HX.out)
  replace YR := HH (rd_later YR.out HX.out)
  replace LR := HH (rd_later LR.out HX.out)
  replace LS := HH (rd_later LS.out HX.out)
  replace MR := HH (rd_later MR.out HX.out)
  replace MS := HH (rd_later MS.out HX.out)
  replace HA := HH (keep_trans HA.out HX.out)
  clear HX
  generalize w20.alloc (.cells #[.int .i64 0, .int .i64 0, .slice Q10A 0 Q10c, .slice Q10B 0 Q10d] 24) = w21 at *
  obtain ⟨b0, b1, b2, b3⟩ : w21.cell? ⟨w12.heap.size, 0, none⟩ = some (.int .i64 0) ∧ w21.cell? ⟨w12.heap.size, 1, none⟩ = some (.int .i64 0) ∧ w21.cell? ⟨w12.heap.size, 2, none⟩ = some (.slice XA 3 xc) ∧ w21.cell? ⟨w12.heap.size, 3, none⟩ = some (.slice XB 3 xd) := ⟨KX.out.cell 0, KX.out.cell 1, KX.out.cell 2, KX.out.cell 3⟩
  go_upto_region 11 with (go_at_call 12; (with_reducible refine (en_l4 _ _ _ _ _ XR.out YR.out).mono ?_); rintro e w22 ⟨NA, NB, Nc, Nd, rfl, NR, NS, hb⟩; clear b0 b1 b2 b3; replace KX := HH (KX.out.after hb.out); replace KL := HH (KL.out.after hb.out); replace KM := HH (KM.out.after hb.out); replace XR := HH (rd_later XR.out hb.out); replace YR := HH (rd_later YR.out hb.out); replace LR := HH (rd_later LR.out hb.out); replace LS := HH (rd_later LS.out hb.out); replace MR := HH (rd_later MR.out hb.out); replace MS := HH (rd_later MS.out hb.out); replace HA := HH (keep_trans HA.out hb.out); clear hb; replace NR := HH NR.out.old; replace NS := HH NS.out.old)
  have HX := HH (one_box w22 (.cells #[.int .i64 0, .int .i64 0, .slice NA 3 Nc, .slice NB 3 Nd] 24))
  have KN := HH (Blk.new w22 24 [.int .i64 0, .int .i64 0, .slice NA 3 Nc, .slice NB 3 Nd])
  replace KX := HH (KX.out.after HX.out)
  replace KL := HH (KL.out.after HX.out)
  replace KM := HH (KM.out.after HX.out)
  replace XR := HH (rd_later XR.out HX.out)
  replace YR := HH (rd_later YR.out HX.out)
  replace LR := HH (rd_later LR.out HX.out)
  replace LS := HH (rd_later LS.out HX.out)
  replace MR := HH (rd_later MR.out HX.out)
  replace MS := HH (rd_later MS.out HX.out)
  replace NR := HH (rd_later NR.out HX.out)
  replace NS := HH (rd_later NS.out HX.out)
  replace HA := HH (keep_trans HA.out HX.out)
  clear HX
  generalize w22.alloc (.cells #[.int .i64 0, .int .i64 0, .slice NA 3 Nc, .slice NB 3 Nd] 24) = w23 at *
  clear KX XR YR
  have CL : Hid (∀ wr, Below w23.heap.size w23 wr → wr.cell? ⟨w14.heap.size, 0, none⟩ = some (.int .i64 0) ∧ wr.cell? ⟨w14.heap.size, 1, none⟩ = some (.int .i64 0) ∧ wr.cell? ⟨w14.heap.size, 2, none⟩ = some (.slice LA 3 Lc) ∧ wr.cell? ⟨w14.heap.size, 3, none⟩ = some (.slice LB 3 Ld)) := HH (fun wr hb => by have a := KL.out.after hb; exact ⟨a.cell 0, a.cell 1, a.cell 2, a.cell 3⟩)
  have CM : Hid (∀ wr, Below w23.heap.size w23 wr → wr.cell? ⟨w16.heap.size, 0, none⟩ = some (.int .i64 0) ∧ wr.cell? ⟨w16.heap.size, 1, none⟩ = some (.int .i64 0) ∧ wr.cell? ⟨w16.heap.size, 2, none⟩ = some (.slice MA 3 Mc) ∧ wr.cell? ⟨w16.heap.size, 3, none⟩ = some (.slice MB 3 Md)) := HH (fun wr hb => by have a := KM.out.after hb; exact ⟨a.cell 0, a.cell 1, a.cell 2, a.cell 3⟩)
  have CN : Hid (∀ wr, Below w23.heap.size w23 wr → wr.cell? ⟨w22.heap.size, 0, none⟩ = some (.int .i64 0) ∧ wr.cell? ⟨w22.heap.size, 1, none⟩ = some (.int .i64 0) ∧ wr.cell? ⟨w22.heap.size, 2, none⟩ = some (.slice NA 3 Nc) ∧ wr.cell? ⟨w22.heap.size, 3, none⟩ = some (.slice NB 3 Nd)) := HH (fun wr hb => by have a := KN.out.after hb; exact ⟨a.cell 0, a.cell 1, a.cell 2, a.cell 3⟩)
  clear KL KM KN
  simp only [List.append_eq, List.cons_append, List.nil_append]
  refine wp_region_held_drew (S := fun w' => Hid (Below w23.heap.size w23 w')) (by kernel_rfl) ?_ (fun hHeld => ?_)
  · exact HH (below_drew (Below.refl _ _))
  have V0 := hHeld
  clear hHeld
  generalize World.drew w23 = v0 at *
  refine rdy [0] ?_
  refine AllReadyH.cons rfl (fun K hK => ?_) AllReadyH.nil
  go_simp
  go_at_call 13
  refine (lives_any _).mono ?_
  rintro e v1 ⟨rfl, hb⟩
  have V1 : Hid (Below w23.heap.size w23 v1) := HH (keep_trans V0.out hb)
  clear hb V0
  dsimp only
  refine hK.out _ _ V1 (fun hHeld => ?_)
  clear hK K
  refine tak 1 ?vbk1 rfl ?hybk1 ?restbk1
  case hybk1 => (intro w' hSw; clear hSw; go_simp; try with_reducible rfl)
  simp only [ptk]
  refine tak 2 ?vbk2 rfl ?hybk2 ?restbk2
  case hybk2 => (intro w' hSw; clear hSw; go_simp; try with_reducible rfl)
  simp only [ptk]
  refine tak 3 ?vbk3 rfl ?hybk3 ?restbk3
  case hybk3 => (intro w' hSw; clear hSw; go_simp; try with_reducible rfl)
  simp only [ptk]
  refine tak 4 ?vbk4 rfl ?hybk4 ?restbk4
  case hybk4 => (intro w' hSw; clear hSw; go_simp; try with_reducible rfl)
  simp only [ptk]
  refine tak 5 ?vbk5 rfl ?hybk5 ?restbk5
  case hybk5 => (intro w' hSw; clear hSw; go_simp; try with_reducible rfl)
  simp only [ptk]
  refine tak 6 ?vbk6 rfl ?hybk6 ?restbk6
  case hybk6 => (intro w' hSw; clear hSw; go_simp; try with_reducible rfl)
  simp only [ptk]
  refine tak 7 ?vbk7 rfl ?hybk7 ?restbk7
  case hybk7 => (intro w' hSw; clear hSw; go_simp; try with_reducible rfl)
  simp only [ptk]
  refine tak 8 ?vbk8 rfl ?hybk8 ?restbk8
  case hybk8 => (intro w' hSw; clear hSw; go_simp; try with_reducible rfl)
  simp only [ptk]
  refine tak 9 ?vbk9 rfl ?hybk9 ?restbk9
  case hybk9 => (intro w' hSw; clear hSw; go_simp; try with_reducible rfl)
  simp only [ptk]
  refine tak 10 ?vbk10 rfl ?hybk10 ?restbk10
  case hybk10 => (intro w' hSw; clear hSw; go_simp; try with_reducible rfl)
  simp only [ptk]
  refine tak 11 ?vbk11 rfl ?hybk11 ?restbk11
  case hybk11 => (intro w' hSw; clear hSw; go_simp; try with_reducible rfl)
  simp only [ptk]
  refine tak 12 ?vbk12 rfl ?hybk12 ?restbk12
  case hybk12 => (intro w' hSw; clear hSw; go_simp; try with_reducible rfl)
  simp only [ptk]
  refine tak 13 ?vbk13 rfl ?hybk13 ?restbk13
  case hybk13 => (intro w' hSw; clear hSw; go_simp; try with_reducible rfl)
  simp only [ptk]
  refine tak 14 ?vbk14 rfl ?hybk14 ?restbk14
  case hybk14 => (intro w' hSw; clear hSw; go_simp; try with_reducible rfl)
  simp only [ptk]
  refine tak 15 ?vbk15 rfl ?hybk15 ?restbk15
  case hybk15 => (intro w' hSw; clear hSw; go_simp; try with_reducible rfl)
  simp only [ptk]
  refine tak 16 ?vbk16 rfl ?hybk16 ?restbk16
  case hybk16 => (intro w' hSw; clear hSw; go_simp; try with_reducible rfl)
  simp only [ptk]
  refine tak 17 ?vbk17 rfl ?hybk17 ?restbk17
  case hybk17 => (intro w' hSw; clear hSw; go_simp; try with_reducible rfl)
  simp only [ptk]
  refine tak 18 ?vbk18 rfl ?hybk18 ?restbk18
  case hybk18 => (intro w' hSw; clear hSw; go_simp; try with_reducible rfl)
  simp only [ptk]
  refine tak 19 ?vbk19 rfl ?hybk19 ?restbk19
  case hybk19 => (intro w' hSw; clear hSw; go_simp; try with_reducible rfl)
  simp only [ptk]
  refine tak 20 ?vbk20 rfl ?hybk20 ?restbk20
  case hybk20 => (intro w' hSw; clear hSw; go_simp; try with_reducible rfl)
  simp only [ptk]
  refine tak 21 ?vbk21 rfl ?hybk21 ?restbk21
  case hybk21 => (intro w' hSw; clear hSw; go_simp; try with_reducible rfl)
  simp only [ptk]
  refine tak 22 ?vbk22 rfl ?hybk22 ?restbk22
  case hybk22 => (intro w' hSw; clear hSw; go_simp; try with_reducible rfl)
  simp only [ptk]
  refine tak 23 ?vbk23 rfl ?hybk23 ?restbk23
  case hybk23 => (intro w' hSw; clear hSw; go_simp; try with_reducible rfl)
  simp only [ptk]
  refine tak 24 ?vbk24 rfl ?hybk24 ?restbk24
  case hybk24 => (intro w' hSw; clear hSw; go_simp; try with_reducible rfl)
  simp only [ptk]
  refine tak 25 ?vbk25 rfl ?hybk25 ?restbk25
  case hybk25 => (intro w' hSw; clear hSw; go_simp; try with_reducible rfl)
  simp only [ptk]
  refine tak 26 ?vbk26 rfl ?hybk26 ?restbk26
  case hybk26 => (intro w' hSw; clear hSw; go_simp; try with_reducible rfl)
  simp only [ptk]
  refine tak 27 ?vbk27 rfl ?hybk27 ?restbk27
  case hybk27 => (intro w' hSw; obtain ⟨y0, y1, y2, y3⟩ := CL.out _ hSw.out; clear hSw; go_simp; try with_reducible rfl)
  simp only [ptk]
  refine two_any 28 29 [.int .i64 1, .int .i64 6, .int .i64 15] [.int .i64 1, .int .i64 12, .int .i64 15] (ni := 3) (nj := 3) (ti := 2) (tj := 2) rfl rfl rfl rfl rfl rfl (fun _ => rfl) (fun _ => rfl) ?ritw28 ?rjtw28 (fun w' hb => HH (keep_trans V1.out hb)) (fun gi2 gj2 v2 KI KJ hb => ?retw28)
  case ritw28 => (intro a w; go_simp; try rfl)
  case rjtw28 => (intro a w; go_simp; try rfl)
  have V2 : Hid (Below w23.heap.size w23 v2) := HH (keep_trans V1.out hb.out)
  clear hb V1
  clear hHeld
  have hHeld := V2
  simp only [ptk]
  refine tak 30 ?vbk29 rfl ?hybk29 ?restbk29
  case hybk29 => (intro w' hSw; clear hSw; go_simp; try with_reducible rfl)
  simp only [ptk]
  refine rdy [31] ?_
  refine AllReadyH.cons rfl (fun K hK => ?_) AllReadyH.nil
  go_simp
  go_at_call 14
  refine (en_k [1, 6, 15] [1, 12, 15] rfl rfl _ _ _ _ _ _ _ _ _ (rd_later LR.out V2.out) (rd_later LS.out V2.out) (KI.out.rd (S := fun b => b < _) KI.out.lt 0) (KJ.out.rd (S := fun b => b < _) KJ.out.lt 0)).mono ?_
  rintro e v3 ⟨rfl, hb⟩
  have V3 : Hid (Below w23.heap.size w23 v3) := HH (keep_trans V2.out hb)
  clear KI KJ
  clear hb V2
  dsimp only
  refine hK.out _ _ V3 (fun hHeld => ?_)
  clear hK K
  refine tak 32 ?vbk30 rfl ?hybk30 ?restbk30
  case hybk30 => (intro w' hSw; clear hSw; go_simp; try with_reducible rfl)
  simp only [ptk]
  refine tak 33 ?vbk31 rfl ?hybk31 ?restbk31
  case hybk31 => (intro w' hSw; clear hSw; go_simp; try with_reducible rfl)
  simp only [ptk]
  refine tak 34 ?vbk32 rfl ?hybk32 ?restbk32
  case hybk32 => (intro w' hSw; clear hSw; go_simp; try with_reducible rfl)
  simp only [ptk]
  refine tak 35 ?vbk33 rfl ?hybk33 ?restbk33
  case hybk33 => (intro w' hSw; clear hSw; go_simp; try with_reducible rfl)
  simp only [ptk]
  refine tak 36 ?vbk34 rfl ?hybk34 ?restbk34
  case hybk34 => (intro w' hSw; clear hSw; go_simp; try with_reducible rfl)
  simp only [ptk]
  refine tak 37 ?vbk35 rfl ?hybk35 ?restbk35
  case hybk35 => (intro w' hSw; clear hSw; go_simp; try with_reducible rfl)
  simp only [ptk]
  refine tak 38 ?vbk36 rfl ?hybk36 ?restbk36
  case hybk36 => (intro w' hSw; obtain ⟨y0, y1, y2, y3⟩ := CM.out _ hSw.out; clear hSw; go_simp; try with_reducible rfl)
  simp only [ptk]
  refine two_any 39 40 [.int .i64 5, .int .i64 10, .int .i64 15] [.int .i64 5, .int .i64 12, .int .i64 15] (ni := 3) (nj := 3) (ti := 2) (tj := 2) rfl rfl rfl rfl rfl rfl (fun _ => rfl) (fun _ => rfl) ?ritw37 ?rjtw37 (fun w' hb => HH (keep_trans V3.out hb)) (fun gi4 gj4 v4 KI KJ hb => ?retw37)
  case ritw37 => (intro a w; go_simp; try rfl)
  case rjtw37 => (intro a w; go_simp; try rfl)
  have V4 : Hid (Below w23.heap.size w23 v4) := HH (keep_trans V3.out hb.out)
  clear hb V3
  clear hHeld
  have hHeld := V4
  simp only [ptk]
  refine tak 41 ?vbk38 rfl ?hybk38 ?restbk38
  case hybk38 => (intro w' hSw; clear hSw; go_simp; try with_reducible rfl)
  simp only [ptk]
  refine rdy [42] ?_
  refine AllReadyH.cons rfl (fun K hK => ?_) AllReadyH.nil
  go_simp
  go_at_call 14
  refine (en_k [5, 10, 15] [5, 12, 15] rfl rfl _ _ _ _ _ _ _ _ _ (rd_later MR.out V4.out) (rd_later MS.out V4.out) (KI.out.rd (S := fun b => b < _) KI.out.lt 0) (KJ.out.rd (S := fun b => b < _) KJ.out.lt 0)).mono ?_
  rintro e v5 ⟨rfl, hb⟩
  have V5 : Hid (Below w23.heap.size w23 v5) := HH (keep_trans V4.out hb)
  clear KI KJ
  clear hb V4
  dsimp only
  refine hK.out _ _ V5 (fun hHeld => ?_)
  clear hK K
  refine tak 43 ?vbk39 rfl ?hybk39 ?restbk39
  case hybk39 => (intro w' hSw; clear hSw; go_simp; try with_reducible rfl)
  simp only [ptk]
  refine tak 44 ?vbk40 rfl ?hybk40 ?restbk40
  case hybk40 => (intro w' hSw; clear hSw; go_simp; try with_reducible rfl)
  simp only [ptk]
  refine tak 45 ?vbk41 rfl ?hybk41 ?restbk41
  case hybk41 => (intro w' hSw; clear hSw; go_simp; try with_reducible rfl)
  simp only [ptk]
  refine tak 46 ?vbk42 rfl ?hybk42 ?restbk42
  case hybk42 => (intro w' hSw; clear hSw; go_simp; try with_reducible rfl)
  simp only [ptk]
  refine tak 47 ?vbk43 rfl ?hybk43 ?restbk43
  case hybk43 => (intro w' hSw; clear hSw; go_simp; try with_reducible rfl)
  simp only [ptk]
  refine tak 48 ?vbk44 rfl ?hybk44 ?restbk44
  case hybk44 => (intro w' hSw; clear hSw; go_simp; try with_reducible rfl)
  simp only [ptk]
  refine tak 49 ?vbk45 rfl ?hybk45 ?restbk45
  case hybk45 => (intro w' hSw; clear hSw; go_simp; try with_reducible rfl)
  simp only [ptk]
  refine tak 50 ?vbk46 rfl ?hybk46 ?restbk46
  case hybk46 => (intro w' hSw; clear hSw; go_simp; try with_reducible rfl)
  simp only [ptk]
  refine tak 51 ?vbk47 rfl ?hybk47 ?restbk47
  case hybk47 => (intro w' hSw; clear hSw; go_simp; try with_reducible rfl)
  simp only [ptk]
  refine tak 52 ?vbk48 rfl ?hybk48 ?restbk48
  case hybk48 => (intro w' hSw; clear hSw; go_simp; try with_reducible rfl)
  simp only [ptk]
  refine tak 54 ?vbk49 rfl ?hybk49 ?restbk49
  case hybk49 => (intro w' hSw; obtain ⟨y0, y1, y2, y3⟩ := CL.out _ hSw.out; clear hSw; go_simp; try with_reducible rfl)
  simp only [ptk]
  refine rdy [53] ?_
  refine AllReadyH.cons rfl (fun K hK => ?_) AllReadyH.nil
  go_simp
  go_at_call 10
  refine (example_any _).mono ?_
  rintro e v6 ⟨q6, rfl, hw, hb⟩
  have V6 : Hid (Below w23.heap.size w23 v6) := HH (keep_trans V5.out hb)
  have HW := HH hw
  clear hw
  clear hb V5
  dsimp only
  refine hK.out _ _ V6 (fun hHeld => ?_)
  clear hK K
  refine rdy [55] ?_
  refine AllReadyH.cons rfl (fun K hK => ?_) AllReadyH.nil
  go_simp
  go_at_call 15
  refine (en_c1 _ _ HW.out _ _ _ _ (rd_later LR.out V6.out) (rd_later LS.out V6.out)).mono ?_
  rintro e v7 ⟨rfl, hb⟩
  have V7 : Hid (Below w23.heap.size w23 v7) := HH (keep_trans V6.out hb)
  clear HW
  clear hb V6
  dsimp only
  refine hK.out _ _ V7 (fun hHeld => ?_)
  clear hK K
  refine tak 56 ?vbk50 rfl ?hybk50 ?restbk50
  case hybk50 => (intro w' hSw; clear hSw; go_simp; try with_reducible rfl)
  simp only [ptk]
  refine tak 57 ?vbk51 rfl ?hybk51 ?restbk51
  case hybk51 => (intro w' hSw; clear hSw; go_simp; try with_reducible rfl)
  simp only [ptk]
  refine tak 58 ?vbk52 rfl ?hybk52 ?restbk52
  case hybk52 => (intro w' hSw; clear hSw; go_simp; try with_reducible rfl)
  simp only [ptk]
  refine tak 60 ?vbk53 rfl ?hybk53 ?restbk53
  case hybk53 => (intro w' hSw; obtain ⟨y0, y1, y2, y3⟩ := CN.out _ hSw.out; clear hSw; go_simp; try with_reducible rfl)
  simp only [ptk]
  refine rdy [59] ?_
  refine AllReadyH.cons rfl (fun K hK => ?_) AllReadyH.nil
  go_simp
  go_at_call 10
  refine (example_any _).mono ?_
  rintro e v8 ⟨q8, rfl, hw, hb⟩
  have V8 : Hid (Below w23.heap.size w23 v8) := HH (keep_trans V7.out hb)
  have HW := HH hw
  clear hw
  clear hb V7
  dsimp only
  refine hK.out _ _ V8 (fun hHeld => ?_)
  clear hK K
  refine rdy [61] ?_
  refine AllReadyH.cons rfl (fun K hK => ?_) AllReadyH.nil
  go_simp
  go_at_call 15
  refine (en_c2 _ _ HW.out _ _ _ _ (rd_later NR.out V8.out) (rd_later NS.out V8.out)).mono ?_
  rintro e v9 ⟨rfl, hb⟩
  have V9 : Hid (Below w23.heap.size w23 v9) := HH (keep_trans V8.out hb)
  clear HW
  clear hb V8
  dsimp only
  refine hK.out _ _ V9 (fun hHeld => ?_)
  clear hK K
  refine tak 62 ?vbk54 rfl ?hybk54 ?restbk54
  case hybk54 => (intro w' hSw; clear hSw; go_simp; try with_reducible rfl)
  simp only [ptk]
  refine tak 63 ?vbk55 rfl ?hybk55 ?restbk55
  case hybk55 => (intro w' hSw; clear hSw; go_simp; try with_reducible rfl)
  simp only [ptk]
  refine tak 64 ?vbk56 rfl ?hybk56 ?restbk56
  case hybk56 => (intro w' hSw; clear hSw; go_simp; try with_reducible rfl)
  simp only [ptk]
  refine tak 66 ?vbk57 rfl ?hybk57 ?restbk57
  case hybk57 => (intro w' hSw; clear hSw; go_simp; try with_reducible rfl)
  simp only [ptk]
  refine rdy [65] ?_
  refine AllReadyH.cons rfl (fun K hK => ?_) AllReadyH.nil
  go_simp
  go_at_call 10
  refine (example_any _).mono ?_
  rintro e v10 ⟨q10, rfl, hw, hb⟩
  have V10 : Hid (Below w23.heap.size w23 v10) := HH (keep_trans V9.out hb)
  have HW := HH hw
  clear hw
  clear hb V9
  dsimp only
  refine hK.out _ _ V10 (fun hHeld => ?_)
  clear hK K
  refine rdy [67] ?_
  refine AllReadyH.cons rfl (fun K hK => ?_) AllReadyH.nil
  go_simp
  go_at_call 15
  refine (en_c3 _ _ HW.out).mono ?_
  rintro e v11 ⟨rfl, hb⟩
  have V11 : Hid (Below w23.heap.size w23 v11) := HH (keep_trans V10.out hb)
  clear HW
  clear hb V10
  dsimp only
  refine hK.out _ _ V11 (fun hHeld => ?_)
  clear hK K
  refine tak 68 ?vbk58 rfl ?hybk58 ?restbk58
  case hybk58 => (intro w' hSw; clear hSw; go_simp; try with_reducible rfl)
  simp only [ptk]
  refine tak 69 ?vbk59 rfl ?hybk59 ?restbk59
  case hybk59 => (intro w' hSw; clear hSw; go_simp; try with_reducible rfl)
  simp only [ptk]
  refine rdy [70] ?_
  refine AllReadyH.cons rfl (fun K hK => ?_) AllReadyH.nil
  go_simp
  refine hK.out _ _ V11 (fun hHeld => ?_)
  clear hK K
  clear hHeld
  refine wpAnyH_done (by kernel_rfl) ?_ _
  go_wp2
  go_ret
  exact ⟨rfl, keep_trans HA.out V11.out⟩
end Go.Proofs.YtfefnfifeaihhaaGreat.Wo
