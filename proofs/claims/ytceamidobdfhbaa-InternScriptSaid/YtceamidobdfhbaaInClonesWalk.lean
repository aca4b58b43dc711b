/- Package intern's calls: what each answers of a table as it lies, and what it changes; proved by walking their texts, and by the library's contracts. Conditions: the table lies as TabAt says; a name has at most as many bytes as a string can have. -/
import Derived.Test.YtceamidobdfhbaaInOrderWalk
import Derived.Test.YtceamidobdfhbaaShelf
import Derived.Carry
namespace Go.Proofs.Ytceamidobdfhbaa.It
open Go.ChangeShapes Go.WideShapes Go.ChangeAt Go.RowKit Go.Maps
open Lx Sh
set_option linter.unusedVariables false
set_option linter.unusedSimpArgs false

/-- a table in new memory -/
def One (w wr : World) (T : Nat) (L : List Nm) : Prop := ∃ X, TabAt wr X T L ∧ ∀ k, X k → w.heap.size ≤ k
theorem One.after {w wr w2 : World} {T : Nat} {L : List Nm} (h : One w wr T L) (hb : Below wr.heap.size wr w2) : One w w2 T L := by
  obtain ⟨X, h1, h2⟩ := h; exact ⟨X, h1.after hb, h2⟩
theorem One.fresh {w w2 : World} {T : Nat} {L : List Nm} (h : TabAt w2 (Fresh w w2) T L) : One w w2 T L := ⟨_, h, fun k hk => hk.1⟩
theorem one_ok {w wr : World} {T : Nat} {L : List Nm} (h : One w wr T L) (hb : Below w.heap.size w wr) (x : Nm) (hx : x.length ≤ maxLen) (h0 : addE L x = 0) :
    Calls Try.prog 10 #[.pointer (some ⟨T, 0, none⟩), .string ⟨x.toArray⟩] wr fun e w' => e = .returned (.tuple #[.int .i64 (L.length : Nat), .int .i64 0]) ∧ Hid (One w w' T (L ++ [x])) ∧ Hid (Below w.heap.size w w') := by
  obtain ⟨X, h1, h2⟩ := h
  refine (add_ok h1 x hx h0).mono ?_
  rintro e w' ⟨he, ht, hc⟩
  exact ⟨he, Lib.hid ⟨_, ht.out, grow_from hb h2⟩, Lib.hid (below_ch hb h2 hc.out)⟩
theorem one_not {w wr : World} {T : Nat} {L : List Nm} (h : One w wr T L) (hb : Below w.heap.size w wr) (x : Nm) (hx : x.length ≤ maxLen) (k : Nat) (hk : addE L x = k) (h0 : k ≠ 0) :
    Calls Try.prog 10 #[.pointer (some ⟨T, 0, none⟩), .string ⟨x.toArray⟩] wr fun e w' => e = .returned (.tuple #[.int .i64 0, .int .i64 (k : Nat)]) ∧ Hid (One w w' T L) ∧ Hid (Below w.heap.size w w') := by
  obtain ⟨X, h1, h2⟩ := h
  refine (add_not h1 x hx k hk h0).mono ?_
  rintro e w' ⟨he, ht, hc⟩
  exact ⟨he, Lib.hid ⟨_, ht.out, grow_from hb h2⟩, Lib.hid (below_ch hb h2 hc.out)⟩
theorem one_add {w wr : World} {T : Nat} {L : List Nm} (h : One w wr T L) (hb : Below w.heap.size w wr) (x : Nm) (hx : x.length ≤ maxLen) :
    Calls Try.prog 10 #[.pointer (some ⟨T, 0, none⟩), .string ⟨x.toArray⟩] wr fun e w' => (∃ a b : Nat, e = .returned (.tuple #[.int .i64 (a : Nat), .int .i64 (b : Nat)])) ∧ Hid (One w w' T (addL L x)) ∧ Hid (Below w.heap.size w w') := by
  obtain ⟨X, h1, h2⟩ := h
  refine (add_any h1 x hx).mono ?_
  rintro e w' ⟨he, ht, hc⟩
  exact ⟨⟨_, _, he⟩, Lib.hid ⟨_, ht.out, grow_from hb h2⟩, Lib.hid (below_ch hb h2 hc.out)⟩
theorem rd_pre {w : World} {S : Nat → Prop} {A : Option Addr} {L K : List Nm} (h : Rd w S A (cs strC (L ++ K))) : Rd w S A (cs strC L) := by
  have h2 := h.take (L.length * 1)
  rw [← cs_take strC 1 (fun _ => rfl), List.take_left] at h2
  exact h2
/-- a row of N names in new memory -/
def RowN (w : World) (N : Nat) (L : List Nm) (e : Ending) (w' : World) : Prop :=
  ∃ A c, e = .returned (.slice A N c) ∧ N ≤ c ∧ Hid (w'.ownsRow w.heap.size 9 1 (.slice A N c) N (cs strC L)) ∧ Hid (Below w.heap.size w w')
theorem row_n {w w' : World} {N : Nat} {L : List Nm} {e : Ending} (h : RowNew w L e w') (hN : L.length = N) : RowN w N L e w' := by
  subst hN
  obtain ⟨A, c, rfl, ho, hb⟩ := h
  obtain ⟨A', c', e', hnc, -⟩ := own_form ho.out
  injection e' with e1 e2 e3
  subst e3
  exact ⟨A, c, rfl, hnc, ho, hb⟩
set_option maxRecDepth 100000 in
set_option maxHeartbeats 2000000 in
theorem clones_in (w : World) (A B : Option Addr) (n c m d : Nat) (l q : List Nm) (hn : Hid (n = l.length)) (hN : n ≤ 150) (hr : Rd w (· < w.heap.size) A (cs strC l)) (hs : ∀ x ∈ l, x.length ≤ maxLen)
    (hm : Hid (m = q.length)) (hM : m ≤ 150) (hr2 : Rd w (· < w.heap.size) B (cs strC q)) (hs2 : ∀ x ∈ q, x.length ≤ maxLen) :
    Calls Try.prog 7 #[.slice A n c, .slice B m d] w (BPost w true) := by
  have HR := Lib.hid hr
  have HS := Lib.hid hs
  have HR2 := Lib.hid hr2
  have HS2 := Lib.hid hs2
  have h150 : decide ((150 : Int) < (n : Int)) = false := decide_eq_false (by omega)
  have h151 : decide ((150 : Int) < (m : Int)) = false := decide_eq_false (by omega)
  clear hr hs hr2 hs2
  go_enter Try.func7, Try.ntmps7
  go_wp2_with (first
    | (go_at_call 13; refine (lives_any _).mono ?_; rintro e w1 ⟨rfl, hb1⟩; have B1 := Lib.hid hb1; clear hb1)
    | (go_at_call 9; refine (new_none _).mono ?_; rintro e w3 ⟨T, rfl, ht3, B3⟩; have O3 := Lib.hid (One.fresh ht3.out)))
  go_loopw [7] (fun v wr => ∃ i : Nat, v = .int .i64 (i : Int) ∧ i ≤ n ∧ Hid (One w1 wr T (adds [] (l.take i))) ∧ Hid (Below w1.heap.size w1 wr)) (fun v _ => n - (intOf v).toNat)
  case atStart => exact ⟨0, rfl, by omega, O3, B3⟩
  case round =>
    obtain ⟨i, rfl, hi, HT, HB⟩ := hrel
    have HBW := Lib.hid (B1.out.trans (HB.out.mono B1.out.size))
    by_cases hlt : i < n
    · have hi1 : (i : Int) < (n : Int) := by omega
      obtain ⟨x, hxi⟩ := at_in l hn hlt
      have HXI := Lib.hid hxi
      obtain ⟨ad, e, hS, h0, -⟩ := rd_at 1 (fun _ => rfl) (by omega) (HR.out.below HBW.out) hxi
      subst e
      rw [Nat.mul_one] at h0
      have a0 : wr.cell? (ad.add i) = some (.string ⟨x.toArray⟩) := h0
      have hxl : x.length ≤ maxLen := HS.out x (List.mem_of_getElem? hxi)
      have CA := Lib.hid (one_add HT.out HB.out x hxl)
      clear h0 hxi hS
      go_wp2_with (go_at_call 10; (with_reducible refine CA.out.mono ?_); rintro e w5 ⟨⟨a5, b5, rfl⟩, ht5, hb5⟩)
      refine ⟨⟨i + 1, by go_num, by omega, Lib.hid ?_, hb5⟩, by simp [intOf]; omega⟩
      rw [adds_take [] l i x HXI.out]
      exact ht5.out
    · have hi1 : ¬ ((i : Int) < (n : Int)) := by omega
      have et : l.take i = l := List.take_of_length_le (by rw [← hn.out]; omega)
      rw [et] at HT
      have hLn : (adds [] l).length ≤ 150 := by
        have := adds_len [] l
        rw [← hn.out] at this
        simp at this
        omega
      have HGL : Hid (Good (adds [] l)) := Lib.hid (adds_good good_nil l)
      generalize adds [] l = L at HT hLn HGL
      obtain ⟨wa, rfl⟩ : ∃ wa, wa = wr := ⟨wr, rfl⟩
      obtain ⟨X, hX, hXw⟩ := HT.out
      have HX := Lib.hid hX
      clear hX hXw et
      go_wp2_with (first
        | (go_at_call 23; refine (all_any HX.out).mono ?_; rintro e w5 ⟨A5, c5, rfl, ho5, hb5⟩)
        | (go_at_call 17; refine (clone_any (HX.out.after hb5.out)).mono ?_; rintro e w6 ⟨C, rfl, hN6⟩; have O6 := Lib.hid (One.fresh hN6.1.out); have B6 : Hid (Below w5.heap.size w5 w6) := hN6.2; clear hN6))
      have BW5 : Hid (Below w.heap.size w w5) := Lib.hid (keep_trans HBW.out hb5.out)
      go_loopw [10, 11] (fun v10 v11 wr => ∃ j k : Nat, v11 = .int .i64 (j : Int) ∧ v10 = .int .i64 (k : Int) ∧ j ≤ m ∧ k ≤ j ∧ Hid (L.length + k = (adds L (q.take j)).length) ∧ Hid (One w5 wr C (adds L (q.take j))) ∧ Hid (Below w5.heap.size w5 wr)) (fun _ v _ => m - (intOf v).toNat)
      case atStart => exact ⟨0, 0, rfl, rfl, by omega, by omega, Lib.hid rfl, O6, B6⟩
      case round =>
        obtain ⟨j, k, rfl, rfl, hj, hkj, HK, HT2, HB2⟩ := hrel
        have HBW2 := Lib.hid (keep_trans BW5.out HB2.out)
        by_cases hlt2 : j < m
        · have hj1 : (j : Int) < (m : Int) := by omega
          obtain ⟨x, hxi⟩ := at_in q hm hlt2
          have HXI := Lib.hid hxi
          obtain ⟨ad, e, hS, h0, -⟩ := rd_at 1 (fun _ => rfl) (by omega) (HR2.out.below HBW2.out) hxi
          subst e
          rw [Nat.mul_one] at h0
          have a0 : wr.cell? (ad.add j) = some (.string ⟨x.toArray⟩) := h0
          have hxl : x.length ≤ maxLen := HS2.out x (List.mem_of_getElem? hxi)
          by_cases hE : addE (adds L (q.take j)) x = 0
          · have CA := Lib.hid (one_ok HT2.out HB2.out x hxl hE)
            have HL : Hid (addL (adds L (q.take j)) x = adds L (q.take j) ++ [x]) := Lib.hid (by unfold addL; rw [if_pos hE])
            clear h0 hxi hS hE
            go_wp2_with (go_at_call 10; (with_reducible refine CA.out.mono ?_); rintro e w7 ⟨rfl, ht7, hb7⟩)
            refine ⟨⟨j + 1, k + 1, by go_num, by go_num, by omega, by omega, Lib.hid ?_, Lib.hid ?_, hb7⟩, by simp [intOf]; omega⟩
            · rw [adds_take L q j x HXI.out, HL.out, List.length_append, List.length_singleton, ← HK.out]; omega
            · rw [adds_take L q j x HXI.out, HL.out]; exact ht7.out
          · obtain ⟨b, hb⟩ : ∃ b, addE (adds L (q.take j)) x = b := ⟨_, rfl⟩
            have hb0 : b ≠ 0 := by rw [← hb]; exact hE
            have CA := Lib.hid (one_not HT2.out HB2.out x hxl b hb hb0)
            have HL : Hid (addL (adds L (q.take j)) x = adds L (q.take j)) := Lib.hid (by unfold addL; rw [if_neg hE])
            have hbb : ((b : Int) == 0) = false := beq_eq_false_iff_ne.2 (by omega)
            clear h0 hxi hS hE hb
            go_wp2_with (go_at_call 10; (with_reducible refine CA.out.mono ?_); rintro e w7 ⟨rfl, ht7, hb7⟩)
            refine ⟨⟨j + 1, k, by go_num, rfl, by omega, by omega, Lib.hid ?_, Lib.hid ?_, hb7⟩, by simp [intOf]; omega⟩
            · rw [adds_take L q j x HXI.out, HL.out]; exact HK.out
            · rw [adds_take L q j x HXI.out, HL.out]; exact ht7.out
        · have hj1 : ¬ ((j : Int) < (m : Int)) := by omega
          have et : q.take j = q := List.take_of_length_le (by rw [← hm.out]; omega)
          rw [et] at HT2 HK
          obtain ⟨K, hK⟩ := adds_pre L q
          rw [hK] at HT2 HK
          obtain ⟨wb, rfl⟩ : ∃ wb, wb = wr := ⟨wr, rfl⟩
          have BT : Hid (Below wa.heap.size wa wb) := Lib.hid (keep_trans hb5.out HB2.out)
          have CT : Hid (∀ W, Below wb.heap.size wb W → Calls Try.prog 23 #[.pointer (some ⟨T, 0, none⟩)] W (RowNew W L)) := Lib.hid (fun W hW => all_any (HX.out.after (keep_trans BT.out hW)))
          have LT : Hid (∀ W, Below wb.heap.size wb W → Calls Try.prog 14 #[.pointer (some ⟨T, 0, none⟩)] W (IntPost W (L.length : Nat))) := Lib.hid (fun W hW => len_any (HX.out.after (keep_trans BT.out hW)))
          obtain ⟨Z, hZ, hZw⟩ := HT2.out
          have CC : Hid (∀ W, Below wb.heap.size wb W → Calls Try.prog 23 #[.pointer (some ⟨C, 0, none⟩)] W (RowN W (L.length + k) (L ++ K))) := Lib.hid (fun W hW => (all_any (hZ.after hW)).mono (fun e w' h => row_n h HK.out.symm))
          have hkl : L.length + k = (L ++ K).length := HK.out
          have LC : Hid (∀ W, Below wb.heap.size wb W → Calls Try.prog 14 #[.pointer (some ⟨C, 0, none⟩)] W (IntPost W ((L.length : Int) + (k : Int)))) := Lib.hid (fun W hW => by
            have e : ((L.length : Int) + (k : Int)) = (((L ++ K).length : Nat) : Int) := by omega
            rw [e]; exact len_any (hZ.after hW))
          have hsum : ((L.length + k : Nat) : Int) = (L.length : Int) + (k : Int) := by omega
          have BB : Hid (Below wb.heap.size wb wb) := Lib.hid (Below.refl _ _)
          have hLm : L.length ≤ 1000000 := by omega
          have hLs : ∀ x ∈ L, x.length ≤ maxLen := fun x hx => by
            have := name_short (HGL.out.2.1 x hx)
            have := maxLen_big
            omega
          have HLS := Lib.hid hLs
          have HKL := Lib.hid hkl
          clear hZ hZw hK et hLs hkl hsum
          go_wp2_with (first
            | (go_at_call 23; have _t := CU; (with_reducible refine (CU.out _ BB.out BD.out).mono ?_); rintro e wc ⟨AR, cR, rfl, hoR, hbR⟩; have BB := Lib.hid (keep_trans BB.out hbR.out); try (have BD := Lib.hid (keep_trans BD.out hbR.out)))
            | (go_at_call 23; (with_reducible refine (CT.out _ BB.out).mono ?_); rintro e wc ⟨AR, cR, rfl, hoR, hbR⟩; have BB := Lib.hid (keep_trans BB.out hbR.out); try (have BD := Lib.hid (keep_trans BD.out hbR.out)))
            | (go_at_call 23; (with_reducible refine (CC.out _ BB.out).mono ?_); rintro e wc ⟨AR, cR, rfl, hnc, hoC, hbR⟩; have hcL : L.length ≤ cR := (by omega); have hcLi : (L.length : Int) ≤ (cR : Int) := (by omega); have BB := Lib.hid (keep_trans BB.out hbR.out); try (have BD := Lib.hid (keep_trans BD.out hbR.out)))
            | (go_at_call 9; refine (new_ok (n := L.length) (l := L) (Lib.hid rfl) hLm (row_read hoR.out (Below.refl _ _)) HLS.out (newE_self HGL.out)).mono ?_; rintro e wd ⟨U, rfl, htU, hbU⟩
               have BU := Lib.hid (keep_trans BB.out hbU.out)
               have CU : Hid (∀ W, Below wb.heap.size wb W → Below wd.heap.size wd W → Calls Try.prog 23 #[.pointer (some ⟨U, 0, none⟩)] W (RowNew W L)) := Lib.hid (fun W _ hW => all_any (htU.out.after hW))
               have BB := BU
               have BD : Hid (Below wd.heap.size wd wd) := Lib.hid (Below.refl _ _))
            | (go_at_call 14; (with_reducible refine (LT.out _ BB.out).mono ?_); rintro e wc ⟨rfl, hbR⟩; have BB := Lib.hid (keep_trans BB.out hbR.out); try (have BD := Lib.hid (keep_trans BD.out hbR.out)))
            | (go_at_call 14; (with_reducible refine (LC.out _ BB.out).mono ?_); rintro e wc ⟨rfl, hbR⟩; have BB := Lib.hid (keep_trans BB.out hbR.out); try (have BD := Lib.hid (keep_trans BD.out hbR.out)))
            | (go_at_call 22; have _t := hoC; refine (same_str _ _ _ L.length cR c5 L (Lib.hid rfl) hLm (rd_pre (row_read hoC.out (Below.refl _ _))) (row_read ho5.out (keep_trans HB2.out BB.out))).mono ?_; rintro e wc ⟨rfl, hbR⟩; have HbR := Lib.hid hbR; have BB := Lib.hid (keep_trans BB.out hbR); clear hbR)
            | (go_at_call 22; refine (same_str _ _ _ L.length cR c5 L (Lib.hid rfl) hLm (row_read hoR.out (Below.refl _ _)) (row_read ho5.out (keep_trans HB2.out BB.out))).mono ?_; rintro e wc ⟨rfl, hbR⟩; have HbR := Lib.hid hbR; have BB := Lib.hid (keep_trans BB.out hbR); (try (have BD := Lib.hid (keep_trans BD.out hbR))); clear hbR))
          go_ret
          exact ⟨rfl, keep_trans HBW2.out BB.out⟩
set_option maxRecDepth 100000 in
set_option maxHeartbeats 1000000 in
theorem clones_all (w : World) (A B : Option Addr) (n c m d : Nat) (l q : List Nm) (hn : Hid (n = l.length)) (hr : Rd w (· < w.heap.size) A (cs strC l)) (hs : ∀ x ∈ l, x.length ≤ maxLen)
    (hm : Hid (m = q.length)) (hr2 : Rd w (· < w.heap.size) B (cs strC q)) (hs2 : ∀ x ∈ q, x.length ≤ maxLen) :
    Calls Try.prog 7 #[.slice A n c, .slice B m d] w (BPost w true) := by
  by_cases hN : n ≤ 150
  · by_cases hM : m ≤ 150
    · exact clones_in w A B n c m d l q hn hN hr hs hm hM hr2 hs2
    · have h150 : decide ((150 : Int) < (n : Int)) = false := decide_eq_false (by omega)
      have h151 : decide ((150 : Int) < (m : Int)) = true := decide_eq_true (by omega)
      clear hr hs hr2 hs2 hN hM
      go_enter Try.func7, Try.ntmps7
      go_wp2_with (go_at_call 13; refine (lives_any _).mono ?_; rintro e w1 ⟨rfl, hb1⟩; have B1 := Lib.hid hb1; clear hb1)
      go_ret
      exact ⟨rfl, B1.out⟩
  · have h150 : decide ((150 : Int) < (n : Int)) = true := decide_eq_true (by omega)
    clear hr hs hr2 hs2 hN
    go_enter Try.func7, Try.ntmps7
    go_wp2_with (go_at_call 13; refine (lives_any _).mono ?_; rintro e w1 ⟨rfl, hb1⟩; have B1 := Lib.hid hb1; clear hb1)
    go_ret
    exact ⟨rfl, B1.out⟩
end Go.Proofs.Ytceamidobdfhbaa.It
