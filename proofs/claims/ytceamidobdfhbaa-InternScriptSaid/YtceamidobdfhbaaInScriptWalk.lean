/- Package intern's calls: what each answers of a table as it lies, and what it changes; proved by walking their texts, and by the library's contracts. Conditions: the table lies as TabAt says; a name has at most as many bytes as a string can have. -/
import Derived.Test.YtceamidobdfhbaaInQuad
import Derived.Test.YtceamidobdfhbaaInRefSort
import Derived.Test.YtceamidobdfhbaaShelf
import Derived.Carry
namespace Go.Proofs.Ytceamidobdfhbaa.It
open Go.ChangeShapes Go.WideShapes Go.ChangeAt Go.RowKit Go.Maps
open Lx Sh
set_option linter.unusedVariables false
set_option linter.unusedSimpArgs false

theorem rnew_ok {w : World} {A : Option Addr} {n c : Nat} {l : List Nm} (hn : Hid (n = l.length)) (hN : n ≤ 1000000) (hx : Rd w (· < w.heap.size) A (cs strC l)) (h0 : newE [] l = 0) :
    Calls Try.prog 16 #[.slice A n c] w fun e w' => ∃ T, e = .returned (.tuple #[.pointer (some ⟨T, 0, none⟩), .int .i64 0]) ∧ Hid (RefAt w' (Fresh w w') T l) ∧ Hid (Below w.heap.size w w') := by
  refine (rnew_any hn hN hx).mono ?_
  rintro e w' (⟨-, T, rfl, h, hb⟩ | ⟨h, -⟩)
  · exact ⟨T, rfl, h, hb⟩
  · exact absurd h0 h
theorem rnew_bad {w : World} {A : Option Addr} {n c : Nat} {l : List Nm} (hn : Hid (n = l.length)) (hN : n ≤ 1000000) (hx : Rd w (· < w.heap.size) A (cs strC l)) (k : Nat) (h0 : newE [] l = k) (hk : k ≠ 0) :
    Calls Try.prog 16 #[.slice A n c] w fun e w' => e = .returned (.tuple #[.pointer none, .int .i64 (k : Nat)]) ∧ Hid (Below w.heap.size w w') := by
  refine (rnew_any hn hN hx).mono ?_
  rintro e w' (⟨h, -⟩ | ⟨-, rfl, h⟩)
  · exact absurd (h0 ▸ h) hk
  · rw [h0]; exact ⟨rfl, h⟩
theorem quad_facts {w wr : World} {T S C V : Nat} {M K : List Nm} (h : Quad w wr T S C V M M K) : ∃ (SA VA : Option Addr) (sc vc N P : Nat), Hid (N = M.length) ∧ Hid (P = K.length) ∧ N ≤ 4096 ∧ P ≤ 4096 ∧
    Hid (∀ W, Below wr.heap.size wr W → W.cell? ⟨S, 0, none⟩ = some (.slice SA N sc)) ∧ Hid (∀ W, Below wr.heap.size wr W → Rd W (· < W.heap.size) SA (cs strC M)) ∧
    Hid (∀ W, Below wr.heap.size wr W → W.cell? ⟨V, 0, none⟩ = some (.slice VA P vc)) ∧ Hid (∀ W, Below wr.heap.size wr W → Rd W (· < W.heap.size) VA (cs strC K)) ∧
    Hid (∀ W, Below wr.heap.size wr W → Calls Try.prog 14 #[.pointer (some ⟨T, 0, none⟩)] W (IntPost W (N : Nat))) ∧
    Hid (∀ W, Below wr.heap.size wr W → Calls Try.prog 23 #[.pointer (some ⟨T, 0, none⟩)] W (RowN W N M)) ∧
    Hid (∀ W, Below wr.heap.size wr W → Calls Try.prog 24 #[.pointer (some ⟨T, 0, none⟩)] W (RowN W N (srt M))) ∧
    Hid (∀ W, Below wr.heap.size wr W → Calls Try.prog 25 #[.pointer (some ⟨S, 0, none⟩)] W (RowN W N (srt M))) ∧
    Hid (∀ W, Below wr.heap.size wr W → Calls Try.prog 23 #[.pointer (some ⟨C, 0, none⟩)] W (RowN W P K)) := by
  obtain ⟨X, Y, Z, U, h1, ⟨vs, h2⟩, h3, ⟨vv, h4⟩, _⟩ := h
  obtain ⟨SA, sc, rfl, -, -⟩ := own_form h2.row
  obtain ⟨VA, vc, rfl, -, -⟩ := own_form h4.row
  refine ⟨SA, VA, sc, vc, M.length, K.length, Lib.hid rfl, Lib.hid rfl, h1.good.2.2, h3.good.2.2, Lib.hid (fun W hW => (h2.blk.after hW).cell 0), Lib.hid (fun W hW => (own_rd (own_after h2.row hW)).more (fun b hb => hb.2)),
    Lib.hid (fun W hW => (h4.blk.after hW).cell 0), Lib.hid (fun W hW => (own_rd (own_after h4.row hW)).more (fun b hb => hb.2)), Lib.hid (fun W hW => len_any (h1.after hW)),
    Lib.hid (fun W hW => (all_any (h1.after hW)).mono (fun e w' h => row_n h rfl)), Lib.hid (fun W hW => (sorted_any (h1.after hW)).mono (fun e w' h => row_n h (srt_len M))), Lib.hid (fun W hW => ?_), Lib.hid (fun W hW => (all_any (h3.after hW)).mono (fun e w' h => row_n h rfl))⟩
  exact rsorted_any (X := Y) (RefAt.after ⟨_, h2⟩ hW)
set_option maxRecDepth 100000 in
set_option maxHeartbeats 4000000 in
theorem script_bad (w : World) (A B : Option Addr) (n c m d : Nat) (l q : List Nm) (hn : Hid (n = l.length)) (hN : n ≤ 150) (hr : Rd w (· < w.heap.size) A (cs strC l)) (hs : ∀ x ∈ l, x.length ≤ maxLen) (hM : m ≤ 150) (a : Int) (k : Nat) (hE : newE [] l = k) (hk : k ≠ 0) :
    Calls Try.prog 4 #[.slice A n c, .slice B m d, .int .i64 a] w (BPost w true) := by
  have HR := Lib.hid hr
  have HS := Lib.hid hs
  have h150 : decide ((150 : Int) < (n : Int)) = false := decide_eq_false (by omega)
  have h151 : decide ((150 : Int) < (m : Int)) = false := decide_eq_false (by omega)
  have hn6 : n ≤ 1000000 := by omega
  have HE := Lib.hid hE
  clear hr hs hE
  go_enter Try.func4, Try.ntmps4
  go_wp2_with (first
    | (go_at_call 13; refine (lives_any _).mono ?_; rintro e w1 ⟨rfl, hb1⟩; have B1 := Lib.hid hb1; clear hb1)
    | (go_at_call 15; refine (own_str _ _ _ _ l hn hn6 (HR.out.below B1.out |>.more (fun b hb => Nat.lt_of_lt_of_le hb B1.out.size))).mono ?_; rintro e w2 ⟨A2, c2, rfl, hc2, ho2, hb2⟩; have B2 := Lib.hid (keep_trans B1.out hb2); clear hb2)
    | (go_at_call 9; refine (new_bad hn hn6 (row_read ho2.out (Below.refl _ _)) HS.out k HE.out hk).mono ?_; rintro e w3 ⟨rfl, hb3⟩; have B3 := Lib.hid (keep_trans B2.out hb3.out))
    | (go_at_call 16; refine (rnew_bad hn hn6 (HR.out.below B3.out |>.more (fun b hb => Nat.lt_of_lt_of_le hb B3.out.size)) k HE.out hk).mono ?_; rintro e w4 ⟨rfl, hb4⟩; have B4 := Lib.hid (keep_trans B3.out hb4.out)))
  go_loopw [11] (fun v wr => v = .int .i64 0 ∧ Hid (Below w.heap.size w wr)) (fun _ _ => 0)
  case atStart => exact ⟨rfl, B4⟩
  case round =>
    obtain ⟨rfl, HB⟩ := hrel
    by_cases h0 : 0 < m
    · have c1 : decide ((0 : Int) < (m : Int)) = true := decide_eq_true (by omega)
      have c2 : decide (0 < m) = true := decide_eq_true (by omega)
      go_wp2
      go_ret
      exact ⟨rfl, HB.out⟩
    · have c1 : decide ((0 : Int) < (m : Int)) = false := decide_eq_false (by omega)
      have c2 : decide (0 < m) = false := decide_eq_false (by omega)
      go_wp2
      go_ret
      exact ⟨rfl, HB.out⟩
set_option maxRecDepth 100000 in
set_option maxHeartbeats 4000000 in
theorem script_ok (w : World) (A B : Option Addr) (n c m d : Nat) (l q : List Nm) (hn : Hid (n = l.length)) (hN : n ≤ 150) (hr : Rd w (· < w.heap.size) A (cs strC l)) (hs : ∀ x ∈ l, x.length ≤ maxLen) (hm : Hid (m = q.length)) (hM : m ≤ 150) (hr2 : Rd w (· < w.heap.size) B (cs strC q)) (hs2 : ∀ x ∈ q, x.length ≤ maxLen) (a : Int) (hE : newE [] l = 0) :
    Calls Try.prog 4 #[.slice A n c, .slice B m d, .int .i64 a] w (BPost w true) := by
  have HR := Lib.hid hr
  have HS := Lib.hid hs
  have HR2 := Lib.hid hr2
  have HS2 := Lib.hid hs2
  have h150 : decide ((150 : Int) < (n : Int)) = false := decide_eq_false (by omega)
  have h151 : decide ((150 : Int) < (m : Int)) = false := decide_eq_false (by omega)
  have hn6 : n ≤ 1000000 := by omega
  have HE := Lib.hid hE
  clear hr hs hr2 hs2 hE
  go_enter Try.func4, Try.ntmps4
  go_wp2_with (first
    | (go_at_call 13; refine (lives_any _).mono ?_; rintro e w1 ⟨rfl, hb1⟩; have B1 := Lib.hid hb1; clear hb1)
    | (go_at_call 15; refine (own_str _ _ _ _ l hn hn6 (HR.out.below B1.out |>.more (fun b hb => Nat.lt_of_lt_of_le hb B1.out.size))).mono ?_; rintro e w2 ⟨A2, c2, rfl, hc2, ho2, hb2⟩; have B2 := Lib.hid (keep_trans B1.out hb2); clear hb2)
    | (go_at_call 9; refine (new_ok hn hn6 (row_read ho2.out (Below.refl _ _)) HS.out HE.out).mono ?_; rintro e w3 ⟨T, rfl, ht3, hb3⟩; have B3 := Lib.hid (keep_trans B2.out hb3.out))
    | (go_at_call 16; refine (rnew_ok hn hn6 (HR.out.below B3.out |>.more (fun b hb => Nat.lt_of_lt_of_le hb B3.out.size)) HE.out).mono ?_; rintro e w4 ⟨S, rfl, ht4, hb4⟩; have B4 := Lib.hid (keep_trans B3.out hb4.out)))
  have T4 : Hid (TR w2 w4 T S l l) := Lib.hid (tr_made hb3.out ht3.out (fun k hk => hk.1) ht4.out hb4.out)
  have B24 : Hid (Below w2.heap.size w2 w4) := Lib.hid (keep_trans hb3.out hb4.out)
  clear ht3 ht4 hb3 hb4
  go_loopw [11] (fun v wr => ∃ i : Nat, v = .int .i64 (i : Int) ∧ i ≤ m ∧ Hid (TR w2 wr T S (adds l (q.take i)) (adds l (q.take i))) ∧ Hid (Below w2.heap.size w2 wr)) (fun v _ => m - (intOf v).toNat)
  case atStart => exact ⟨0, rfl, by omega, T4, B24⟩
  case round =>
    obtain ⟨i, rfl, hi, HT, HB⟩ := hrel
    have HBW := Lib.hid (keep_trans B2.out HB.out)
    by_cases hlt : i < m
    · have hi1 : decide ((i : Int) < (m : Int)) = true := decide_eq_true (by omega)
      have hi2 : (i : Int) < (m : Int) := by omega
      obtain ⟨x, hxi⟩ := at_in q hm hlt
      have HXI := Lib.hid hxi
      have hxl : x.length ≤ maxLen := HS2.out x (List.mem_of_getElem? hxi)
      have HNX := Lib.hid (adds_take l q i x hxi)
      obtain ⟨bd, e, hS, x0, -⟩ := rd_at 1 (fun _ => rfl) (by omega) HR2.out hxi
      subst e
      rw [Nat.mul_one] at x0
      have HXC : Hid (∀ W, Below w2.heap.size w2 W → W.cell? (bd.add i) = some (.string ⟨x.toArray⟩)) := Lib.hid (fun W hW => (World.cell?_of_block ((keep_trans B2.out hW).block _ (by rw [block_of_add]; exact hS))).trans x0)
      have hM4 : (adds l (q.take i)).length ≤ 4096 := by
        obtain ⟨X, h1⟩ := HT.out.tab
        exact h1.good.2.2
      generalize adds l (q.take i) = M at HT HNX hM4
      obtain ⟨X, hX⟩ := HT.out.tab
      obtain ⟨Y, hY⟩ := HT.out.ref
      have HX := Lib.hid hX
      have HY := Lib.hid hY
      have c0 := HXC.out _ HB.out
      clear hxi hS x0 hX hY
      go_wp2_with (first
        | (go_at_call 17; refine (clone_any HX.out).mono ?_; rintro e w5 ⟨C, rfl, hN5⟩)
        | (go_at_call 18; refine (rclone_any (HY.out.after hN5.2.out)).mono ?_; rintro e w6 ⟨V, rfl, hV6, hb6⟩
           have Q6 : Hid (Quad w2 w6 T S C V M M M) := Lib.hid (quad_made HT.out hN5.1.out hN5.2.out hV6.out hb6.out)
           have B6 : Hid (Below w2.heap.size w2 w6) := Lib.hid (keep_trans HB.out (keep_trans hN5.2.out hb6.out))
           have c1 := HXC.out _ B6.out)
        | (go_at_call 10; refine (quad_tadd Q6.out B6.out x hxl).mono ?_; rintro e w7 ⟨rfl, Q7, B7⟩; have c2 := HXC.out _ B7.out)
        | (go_at_call 19; refine (quad_sadd Q7.out B7.out x).mono ?_; rintro e w8 ⟨rfl, Q8, B8⟩; have c3 := HXC.out _ B8.out
           obtain ⟨jv, jb, CN1, CN2⟩ := both_num Q8.out.tr x hxl
           obtain ⟨sv, sb, CM1, CM2⟩ := both_name Q8.out.tr a
           obtain ⟨SA, VA, sc, vc, N, P, HN, HP, hN4, hP4, CS, RS, CV, RV, CL, CA, CT, CU, CC⟩ := quad_facts Q8.out
           have HSN : Hid (N = (srt (addL M x)).length) := Lib.hid (by rw [srt_len]; exact HN.out)
           have hN6 : N ≤ 1000000 := (by omega)
           have hP6 : P ≤ 1000000 := (by omega)
           have BB : Hid (Below w8.heap.size w8 w8) := Lib.hid (Below.refl _ _))
        | (go_at_call 11; (with_reducible refine (CN1.out _ BB.out).mono ?_); rintro e wc ⟨rfl, hbR⟩; have BB := Lib.hid (keep_trans BB.out hbR.out); have cx := HXC.out _ (keep_trans B8.out BB.out); have cS := CS.out _ BB.out; have cV := CV.out _ BB.out)
        | (go_at_call 20; (with_reducible refine (CN2.out _ BB.out).mono ?_); rintro e wc ⟨rfl, hbR⟩; have BB := Lib.hid (keep_trans BB.out hbR.out); have cx := HXC.out _ (keep_trans B8.out BB.out); have cS := CS.out _ BB.out; have cV := CV.out _ BB.out)
        | (go_at_call 12; (with_reducible refine (CM1.out _ BB.out).mono ?_); rintro e wc ⟨rfl, hbR⟩; have BB := Lib.hid (keep_trans BB.out hbR.out); have cx := HXC.out _ (keep_trans B8.out BB.out); have cS := CS.out _ BB.out; have cV := CV.out _ BB.out)
        | (go_at_call 21; (with_reducible refine (CM2.out _ BB.out).mono ?_); rintro e wc ⟨rfl, hbR⟩; have BB := Lib.hid (keep_trans BB.out hbR.out); have cx := HXC.out _ (keep_trans B8.out BB.out); have cS := CS.out _ BB.out; have cV := CV.out _ BB.out))
      simp only [List.append_eq, List.cons_append, List.nil_append]
      have KC : Hid (∀ W, Below w8.heap.size w8 W → W.cell? ⟨S, 0, none⟩ = some (.slice SA N sc) ∧ W.cell? ⟨V, 0, none⟩ = some (.slice VA P vc)) := Lib.hid (fun W hW => ⟨CS.out _ hW, CV.out _ hW⟩)
      obtain ⟨wz, rfl⟩ : ∃ wz, wz = wc := ⟨wc, rfl⟩
      go_region_held3 (fun w' => w'.cell? ⟨S, 0, none⟩ = some (.slice SA N sc) ∧ w'.cell? ⟨V, 0, none⟩ = some (.slice VA P vc)) (first | exact KC.out _ R8.out | exact KC.out _ R7.out | exact KC.out _ R6.out | exact KC.out _ R5.out | exact KC.out _ R4.out | exact KC.out _ R3.out | exact KC.out _ R2.out | exact KC.out _ R1.out | exact KC.out _ (below_drew BB.out) | exact KC.out _ (below_drewN BB.out _) | go_keep) (first
        | (go_at_call 22; have _t := R7; refine (same_str _ _ _ P cC vc M HP hP6 (row_read hoC.out (Below.refl _ _)) (RV.out _ R7.out)).mono ?_; rintro e y8 ⟨rfl, hbR⟩; have R8 := Lib.hid (keep_trans R7.out hbR); clear hbR)
        | (go_at_call 23; have _t := R6; refine (CC.out _ R6.out).mono ?_; rintro e y7 ⟨AC, cC, rfl, -, hoC, hbR⟩; have R7 := Lib.hid (keep_trans R6.out hbR.out); clear hbR)
        | (go_at_call 22; have _t := R5; refine (same_str _ _ _ N cT cU (srt (addL M x)) HSN hN6 (row_read hoT.out hbU.out) (row_read hoU.out (Below.refl _ _))).mono ?_; rintro e y6 ⟨rfl, hbR⟩; have R6 := Lib.hid (keep_trans R5.out hbR); clear hbR)
        | (go_at_call 25; have _t := R4; refine (CU.out _ R4.out).mono ?_; rintro e y5 ⟨AU, cU, rfl, -, hoU, hbU⟩; have R5 := Lib.hid (keep_trans R4.out hbU.out))
        | (go_at_call 24; have _t := R3; refine (CT.out _ R3.out).mono ?_; rintro e y4 ⟨AT, cT, rfl, -, hoT, hbR⟩; have R4 := Lib.hid (keep_trans R3.out hbR.out); clear hbR)
        | (go_at_call 22; have _t := R2; refine (same_str _ _ _ N cA sc (addL M x) HN hN6 (row_read hoA.out (Below.refl _ _)) (RS.out _ R2.out)).mono ?_; rintro e y3 ⟨rfl, hbR⟩; have R3 := Lib.hid (keep_trans R2.out hbR); clear hbR)
        | (go_at_call 23; have _t := R1; refine (CA.out _ R1.out).mono ?_; rintro e y2 ⟨AA, cA, rfl, -, hoA, hbR⟩; have R2 := Lib.hid (keep_trans R1.out hbR.out); clear hbR)
        | (go_at_call 14; refine (CL.out _ (by first | exact below_drew BB.out | exact below_drewN BB.out _ | exact BB.out)).mono ?_; rintro e y1 ⟨rfl, hbR⟩; have R1 : Hid (Below w8.heap.size w8 y1) := Lib.hid (keep_trans (by first | exact below_drew BB.out | exact below_drewN BB.out _ | exact BB.out) hbR.out); clear hbR))
      all_goals
        go_wp2
        refine ⟨⟨i + 1, by go_num, by omega, Lib.hid ?_, Lib.hid (keep_trans B8.out R8.out)⟩, by simp [intOf]; omega⟩
        rw [HNX.out]
        exact Q8.out.tr.after R8.out
    · have hi1 : decide ((i : Int) < (m : Int)) = false := decide_eq_false (by omega)
      have hi2 : ¬ ((i : Int) < (m : Int)) := by omega
      go_wp2
      go_ret
      exact ⟨rfl, HBW.out⟩
set_option maxRecDepth 100000 in
set_option maxHeartbeats 1000000 in
theorem script_all (w : World) (A B : Option Addr) (n c m d : Nat) (l q : List Nm) (hn : Hid (n = l.length)) (hr : Rd w (· < w.heap.size) A (cs strC l)) (hs : ∀ x ∈ l, x.length ≤ maxLen) (hm : Hid (m = q.length)) (hr2 : Rd w (· < w.heap.size) B (cs strC q)) (hs2 : ∀ x ∈ q, x.length ≤ maxLen) (a : Int) :
    Calls Try.prog 4 #[.slice A n c, .slice B m d, .int .i64 a] w (BPost w true) := by
  by_cases hN : n ≤ 150
  · by_cases hM : m ≤ 150
    · by_cases hE : newE [] l = 0
      · exact script_ok w A B n c m d l q hn hN hr hs hm hM hr2 hs2 a hE
      · exact script_bad w A B n c m d l q hn hN hr hs hM a _ rfl hE
    · have h150 : decide ((150 : Int) < (n : Int)) = false := decide_eq_false (by omega)
      have h151 : decide ((150 : Int) < (m : Int)) = true := decide_eq_true (by omega)
      clear hr hs hr2 hs2 hN hM
      go_enter Try.func4, Try.ntmps4
      go_wp2_with (go_at_call 13; refine (lives_any _).mono ?_; rintro e w1 ⟨rfl, hb1⟩; have B1 := Lib.hid hb1; clear hb1)
      go_ret
      exact ⟨rfl, B1.out⟩
  · have h150 : decide ((150 : Int) < (n : Int)) = true := decide_eq_true (by omega)
    clear hr hs hr2 hs2 hN
    go_enter Try.func4, Try.ntmps4
    go_wp2_with (go_at_call 13; refine (lives_any _).mono ?_; rintro e w1 ⟨rfl, hb1⟩; have B1 := Lib.hid hb1; clear hb1)
    go_ret
    exact ⟨rfl, B1.out⟩
end Go.Proofs.Ytceamidobdfhbaa.It
