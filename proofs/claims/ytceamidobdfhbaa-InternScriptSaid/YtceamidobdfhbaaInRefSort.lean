/- Package intern's calls: what each answers of a table as it lies, and what it changes; proved by walking their texts, and by the library's contracts. Conditions: the table lies as TabAt says; a name has at most as many bytes as a string can have. -/
import Derived.Test.YtceamidobdfhbaaInInsMath
import Derived.Deep.RegionLaw
import Derived.Test.YtceamidobdfhbaaShelf
import Derived.Carry
namespace Go.Proofs.Ytceamidobdfhbaa.It
open Go.ChangeShapes Go.WideShapes Go.ChangeAt Go.RowKit Go.Maps
open Lx Sh
set_option linter.unusedVariables false
set_option linter.unusedSimpArgs false

section
variable (W : World) (ds : Array Value)
theorem e_own1 : Hid ((W.alloc (.cells #[] 9)).ownsRow W.heap.size 9 1 (.slice (some ⟨W.heap.size, 0, none⟩) 0 0) 0 []) := own_empty (Nat.le_refl _)
theorem e_own2 : Hid (((W.alloc (.cells #[] 9)).alloc (.cells ds 9)).ownsRow W.heap.size 9 1 (.slice (some ⟨W.heap.size, 0, none⟩) 0 0) 0 []) := (own_empty (Nat.le_refl _)).alloc _
theorem e_own3 : Hid (((W.alloc (.cells ds 9)).alloc (.cells #[] 9)).ownsRow W.heap.size 9 1 (.slice (some ⟨W.heap.size + 1, 0, none⟩) 0 0) 0 []) := by
  have h := own_empty (w := W.alloc (.cells ds 9)) (base := W.heap.size) (e := 9) (size := 1) (by simp)
  have e : (W.alloc (.cells ds 9)).heap.size = W.heap.size + 1 := by simp
  rw [e] at h
  exact h
theorem e_b1 (q : Nat) : Hid (Below W.heap.size W ((W.drewN q).alloc (.cells ds 9))) := (below_drewN (Below.refl _ _) q).alloc (Nat.le_refl _) _
theorem e_b2 (q : Nat) (es : Array Value) : Hid (Below W.heap.size W (((W.drewN q).alloc (.cells ds 9)).alloc (.cells es 9))) := ((below_drewN (Below.refl _ _) q).alloc (Nat.le_refl _) _).alloc (by simp) _
theorem e_x1 (x : Nm) : Hid (Rd (W.alloc (.cells #[.string ⟨x.toArray⟩] 9)) (fun _ => True) (some ⟨W.heap.size, 0, none⟩) (strC x)) :=
  (lit_at W _ #[.string ⟨x.toArray⟩] 9 (strC x) rfl rfl).more fun _ _ => trivial
theorem e_x2 {wa : World} (x : Nm) (hg : Hid (((W.alloc (.cells #[] 9)).alloc (.cells #[.string ⟨x.toArray⟩] 9)).grownBy wa (Value.ownBlock (.slice (some ⟨W.heap.size, 0, none⟩) 0 0)))) :
    Hid (Rd wa (fun _ => True) (some ⟨W.heap.size + 1, 0, none⟩) (strC x)) := by
  have h := Blk.new (W.alloc (.cells #[] 9)) 9 (strC x)
  have e : (W.alloc (.cells #[] 9)).heap.size = W.heap.size + 1 := by simp
  rw [e] at h
  have h2 := h.grown hg.out (by simp [Value.ownBlock])
  have h3 := h2.rd (S := fun _ => True) trivial 0
  rw [List.drop_zero] at h3
  exact h3
theorem e_x3 {wa : World} (x : Nm) (hg : Hid (((W.alloc (.cells #[.string ⟨x.toArray⟩] 9)).alloc (.cells #[] 9)).grownBy wa (Value.ownBlock (.slice (some ⟨W.heap.size + 1, 0, none⟩) 0 0)))) :
    Hid (Rd wa (fun _ => True) (some ⟨W.heap.size, 0, none⟩) (strC x)) := by
  have h := (Blk.new W 9 (strC x)).alloc (.cells #[] 9)
  have h2 := h.grown hg.out (by simp [Value.ownBlock])
  have h3 := h2.rd (S := fun _ => True) trivial 0
  rw [List.drop_zero] at h3
  exact h3
theorem e_alloc {w0 : World} {B n : Nat} {v : Value} {xs : List Value} (h : Hid (w0.ownsRow B 9 1 v n xs)) : Hid ((w0.alloc (.cells ds 9)).ownsRow B 9 1 v n xs) := h.out.alloc _
end
theorem rd_tk {w : World} {S : Nat → Prop} {A : Option Addr} {O : List Nm} (h : Rd w S A (cs strC O)) (k : Nat) : Rd w S A (cs strC (O.take k)) := by
  have h2 := h.take (k * 1)
  rw [← cs_take strC 1 (fun _ => rfl)] at h2
  exact h2
theorem rd_dp {w : World} {S : Nat → Prop} {A : Option Addr} {O : List Nm} (h : Rd w S A (cs strC O)) (k c : Nat) (hc : O.length ≤ c) : Rd w S (if c = k then A else A.map (·.add k)) (cs strC (O.drop k)) := by
  have h2 := Rd.drop (k := k * 1) (c := c = k) h (fun hl => by rw [cs_length strC 1 (fun _ => rfl)] at hl; omega)
  rw [← cs_drop strC 1 (fun _ => rfl), Nat.mul_one] at h2
  exact h2
theorem sort_next {w wa wr wc : World} {L O : List Nm} {i k m c3 : Nat} {A3 : Option Addr} {x : Nm} {vc : Value} (hm : m = i + 1) (hO : Sorting w wa L i (.slice A3 i c3) O) (hl : i = O.length) (hk : k ≤ i) (hx : L[i]? = some x)
    (h1 : ∀ j z, k ≤ j → O[j]? = some z → leB x z = true) (h2 : ∀ z, 0 < k → O[k - 1]? = some z → leB z x = true) (hb : Below w.heap.size w wr)
    (ho : wc.ownsRow wr.heap.size 9 1 vc m ([] ++ cs strC (O.take k) ++ strC x ++ cs strC (O.drop k))) (hbc : Below wr.heap.size wr wc) :
    ∃ (c : Nat) (A : Option Addr) (O' : List Nm), vc = .slice A (i + 1) c ∧ i + 1 ≤ c ∧ Hid (Sorting w wc L (i + 1) (.slice A (i + 1) c) O') := by
  subst hm
  obtain ⟨A, c, hv, hc, _⟩ := own_form ho
  subst hv
  refine ⟨c, A, O.take k ++ [x] ++ O.drop k, rfl, hc, Lib.hid ⟨?_, ?_, ins_srt (by omega) hO.2.2.1 h1 h2, hb.trans (hbc.mono hb.size)⟩⟩
  · have e : cs strC (O.take k ++ [x] ++ O.drop k) = [] ++ cs strC (O.take k) ++ strC x ++ cs strC (O.drop k) := by simp [cs]
    rw [e]
    exact own_base ho hb.size
  · rw [List.take_add_one, hx]
    exact (ins_perm O x k).trans (List.Perm.append_right _ hO.2.1)
set_option maxRecDepth 100000 in
set_option maxHeartbeats 4000000 in
theorem rsorted_any {w : World} {X : Nat → Prop} {T : Nat} {L : List Nm} (h : RefAt w X T L) :
    Calls Try.prog 25 #[.pointer (some ⟨T, 0, none⟩)] w (RowN w L.length (srt L)) := by
  obtain ⟨v, h⟩ := h
  obtain ⟨B, d, rfl, hnd, hrd⟩ := own_form h.row
  have hlen : L.length ≤ 4096 := h.good.2.2
  obtain ⟨n, hn⟩ : ∃ n, n = L.length := ⟨_, rfl⟩
  have HN : Hid (n = L.length) := Lib.hid hn
  rw [← hn] at hlen
  have C0 : Hid (∀ W, Below w.heap.size w W → W.cell? ⟨T, 0, none⟩ = some (.slice B n d)) := Lib.hid (fun W hW => by rw [hn]; exact (h.blk.after hW).cell 0)
  have HR := Lib.hid hrd
  rw [← hn] at hnd ⊢
  have c0 := C0.out _ (Below.refl _ _)
  clear h hrd hn
  go_enter Try.func25, Try.ntmps25
  go_wp2
  go_loopw [3, 4] (fun v3 v4 wr => ∃ (i c3 : Nat) (A3 : Option Addr) (O : List Nm), v4 = .int .i64 (i : Int) ∧ v3 = .slice A3 i c3 ∧ i ≤ n ∧ i ≤ c3 ∧ Hid (Sorting w wr L i (.slice A3 i c3) O)) (fun _ v _ => n - (intOf v).toNat)
  case atStart => exact ⟨0, 0, none, [], rfl, rfl, by omega, by omega, Lib.hid ⟨World.ownsRow_nil _ _ _ _, by simp, List.Pairwise.nil, Below.refl _ _⟩⟩
  case round =>
    obtain ⟨i, c3, A3, O, rfl, rfl, hi, hic, HO⟩ := hrel
    have HB := Lib.hid HO.out.2.2.2
    have c0 := C0.out _ HB.out
    by_cases hlt : i < n
    · have hi1 : (i : Int) < (n : Int) := by omega
      obtain ⟨x, hxi⟩ := at_in L HN hlt
      have HXI := Lib.hid hxi
      obtain ⟨xd, e, hSx, x0, -⟩ := rd_at 1 (fun _ => rfl) (by omega) (HR.out.keep (fun b hb => HB.out.block b hb.2)) hxi
      subst e
      rw [Nat.mul_one] at x0
      have HOL : Hid (i = O.length) := Lib.hid (by
        have := HO.out.2.1.length_eq
        rw [this, List.length_take, ← HN.out]; omega)
      have HXC : Hid (∀ W, Below wr.heap.size wr W → W.cell? (xd.add i) = some (.string ⟨x.toArray⟩)) := Lib.hid (fun W hW => (World.cell?_of_block (hW.block _ (by rw [block_of_add]; have := HB.out.size; have := hSx.2; omega))).trans x0)
      have HRO : Hid (Rd wr (· < wr.heap.size) A3 (cs strC O)) := Lib.hid ((own_rd HO.out.1).more (fun b hb => hb.2))
      clear hxi hSx x0
      obtain ⟨wa, rfl⟩ : ∃ wa, wa = wr := ⟨wr, rfl⟩
      go_wp2
      go_loopw [5] (fun v5 wr => ∃ k : Nat, v5 = .int .i64 (k : Int) ∧ k ≤ i ∧ Hid (∀ j z, k ≤ j → O[j]? = some z → leB x z = true) ∧ Hid (Below wa.heap.size wa wr)) (fun v _ => (intOf v).toNat)
      case atStart => exact ⟨i, rfl, Nat.le_refl _, Lib.hid (fun j z hj hz => by
        have := (List.getElem?_eq_some_iff.1 hz).1
        have := HOL.out
        omega), Lib.hid (Below.refl _ _)⟩
      case round =>
        obtain ⟨k, rfl, hk, HK, HB2⟩ := hrel
        have HBW := Lib.hid (keep_trans HB.out HB2.out)
        have c0 := C0.out _ HBW.out
        have x0 := HXC.out _ HB2.out
        by_cases hk0 : 0 < k
        · obtain ⟨P, eP⟩ : ∃ P, k = P + 1 := ⟨k - 1, by omega⟩
          obtain ⟨z, hz⟩ := at_in O (k := P) HOL (by omega)
          have HZ := Lib.hid hz
          obtain ⟨sd, e', hSs, g0, -⟩ := rd_at 1 (fun _ => rfl) (by omega) (HRO.out.below HB2.out) hz
          subst e'
          rw [Nat.mul_one] at g0
          have z0 : wr.cell? (sd.add P) = some (.string ⟨z.toArray⟩) := g0
          have c1 : decide ((0 : Int) < (k : Int)) = true := decide_eq_true (by omega)
          have c1n : decide (0 < k) = true := decide_eq_true (by omega)
          have c2 : (k : Int) - 1 = (P : Int) := by omega
          have c3' : IntKind.i64.wrap (P : Int) = (P : Int) := IntWalk.i64_in _ (by omega)
          have c4 : (P : Int) < (i : Int) := by omega
          have EP := Lib.hid eP
          clear hz hSs g0 eP
          rcases gt_cases z x with ⟨hgt, hle⟩ | ⟨hgt, hle⟩
          · have hgt2 : (!(Op.bytesLess (⟨z.toArray⟩ : ByteArray).toList (⟨x.toArray⟩ : ByteArray).toList || ((⟨z.toArray⟩ : ByteArray).toList == (⟨x.toArray⟩ : ByteArray).toList))) = true := by rw [toList_arr, ByteArray.toList_eq, ByteArray.toList_eq]; exact hgt
            have HLE := Lib.hid hle
            clear hle
            go_wp2
            go_quiet (fail)
            go_wp2
            refine ⟨⟨P, rfl, by omega, Lib.hid (fun j u hj hu => ?_), Lib.hid (below_drewN HB2.out _)⟩, by simp [intOf]; have := EP.out; omega⟩
            by_cases ej : j = P
            · subst ej
              have := HZ.out
              rw [hu] at this
              have e := Option.some.inj this
              subst e
              exact HLE.out
            · exact HK.out j u (by have := EP.out; omega) hu
          · have hgt2 : (!(Op.bytesLess (⟨z.toArray⟩ : ByteArray).toList (⟨x.toArray⟩ : ByteArray).toList || ((⟨z.toArray⟩ : ByteArray).toList == (⟨x.toArray⟩ : ByteArray).toList))) = false := by rw [toList_arr, ByteArray.toList_eq, ByteArray.toList_eq]; exact hgt
            have HLO : Hid (∀ u, 0 < k → O[k - 1]? = some u → leB u x = true) := Lib.hid (fun u _ hu => by
              have e : k - 1 = P := by have := EP.out; omega
              rw [e, HZ.out] at hu
              rw [← Option.some.inj hu]; exact hle)
            clear hle
            go_wp2
            go_quiet (fail)
            go_wp2
            obtain ⟨A4, hA4⟩ : ∃ A4, A4 = some sd := ⟨_, rfl⟩
            rw [← hA4] at HRO HO ⊢
            clear hA4
            have HROr : Hid (Rd wr (· < wr.heap.size) A4 (cs strC O)) := Lib.hid ((HRO.out.below HB2.out).more (fun b hb => by have := HB2.out.size; omega))
            have H1 : Hid (∀ W, Below wr.heap.size wr W → Hid (Rd W (· < wr.heap.size) A4 (cs strC (O.take k)))) := Lib.hid (fun W h => Lib.hid ((rd_tk HROr.out k).below h))
            obtain ⟨AR, hAR⟩ : ∃ AR, (if c3 = k then A4 else Option.map (fun x => x.add k) A4) = AR := ⟨_, rfl⟩
            have H2 : Hid (∀ W, Below wr.heap.size wr W → Hid (Rd W (· < wr.heap.size) AR (cs strC (O.drop k)))) := Lib.hid (fun W h => Lib.hid (by rw [← hAR]; exact (rd_dp HROr.out k c3 (by rw [← HOL.out]; exact hic)).below h))
            have L1 : Hid ((cs strC (O.take k)).length = k * 1) := Lib.hid (by rw [cs_length strC 1 (fun _ => rfl), List.length_take, ← HOL.out, Nat.min_eq_left hk])
            have L2 : Hid ((strC x).length = 1 * 1) := Lib.hid rfl
            have L3 : Hid ((cs strC (O.drop k)).length = (i - k) * 1) := Lib.hid (by rw [cs_length strC 1 (fun _ => rfl), List.length_drop, ← HOL.out])
            have hkc : k ≤ c3 := by omega
            have z1 : ∀ q ds, ((wr.drewN q).alloc (.cells ds 9)).cell? ⟨T, 0, none⟩ = some (.slice (some xd) n d) := fun q ds => C0.out _ (HBW.out.trans ((e_b1 wr ds q).out.mono HBW.out.size))
            have z2 : ∀ q ds, ((wr.drewN q).alloc (.cells ds 9)).cell? (xd.add i) = some (.string ⟨x.toArray⟩) := fun q ds => HXC.out _ (keep_trans HB2.out (e_b1 wr ds q).out)
            go_region_law (first
              | (refine step_append_rd (by rfl) (.tmp 36) (.tmp 39) 26 (by rfl) wr.heap.size 9 _ 1 16 Try.underlying26 info_Str rfl (by omega) (by omega) _ 0 [] (by rfl) (by first | exact e_own1 _ | exact e_own2 _ _ | exact e_own3 _ _) _ A4 k c3 (cs strC (O.take k)) (by rfl) L1 (H1.out _ (by first | exact (e_b1 _ _ _).out | exact (e_b2 _ _ _ _).out)) (cs_each str_one _) (by omega) (by first | (simp; done) | (simp; omega)) ?_; intro va w5 hoa hba hga; have ba : Hid (Below wr.heap.size wr w5) := (by first | exact (e_b1 _ _ _).out.trans hba.out | exact (e_b2 _ _ _ _).out.trans hba.out); have ya0 := C0.out _ (HBW.out.trans (ba.out.mono HBW.out.size)); have ya1 := HXC.out _ (keep_trans HB2.out ba.out))
              | (refine step_append_rd (by rfl) (.tmp 40) (.tmp 48) 26 (by rfl) wr.heap.size 9 _ 1 16 Try.underlying26 info_Str rfl (by omega) (by omega) va (0 + k) ([] ++ cs strC (O.take k)) (by rfl) (by first | exact hoa | exact e_alloc _ hoa) _ _ 1 1 (strC x) (by rfl) L2 (by first | exact e_x1 _ _ | exact e_x2 (wr.drewN (nq + 1)) _ hga | exact e_x3 (wr.drewN (nq + 1)) _ hga) (str_one x) (by omega) (by first | exact ba.out.size | exact Nat.le_trans ba.out.size (by simp)) ?_; intro vb w6 hob hbb hgb; have bb : Hid (Below wr.heap.size wr w6) := (by first | exact ba.out.trans hbb.out | exact (ba.out.alloc ba.out.size _).trans hbb.out))
              | (refine step_append_rd (by rfl) (.tmp 49) (.tmp 52) 26 (by rfl) wr.heap.size 9 _ 1 16 Try.underlying26 info_Str rfl (by omega) (by omega) vb (0 + k + 1) ([] ++ cs strC (O.take k) ++ strC x) (by rfl) hob _ AR (i - k) (c3 - k) (cs strC (O.drop k)) (by rfl) L3 (H2.out _ bb.out) (cs_each str_one _) (by omega) bb.out.size ?_; intro vc w7 hoc hbc hgc; have bc : Hid (Below wr.heap.size wr w7) := bb.out.trans hbc.out)
              | fail)
            all_goals
              obtain ⟨c9, A9, O9, e9, hc9, HS9⟩ := sort_next (m := 0 + k + 1 + (i - k)) (by omega) HO.out HOL.out hk HXI.out HK.out HLO.out HBW.out hoc.out bc.out
              subst e9
              go_wp2
              exact ⟨⟨i + 1, c9, A9, O9, by go_num, rfl, by omega, hc9, HS9⟩, by simp [intOf]; omega⟩
        · have c1 : decide ((0 : Int) < (k : Int)) = false := decide_eq_false (by omega)
          have c1n : decide (0 < k) = false := decide_eq_false (by omega)
          have HLO : Hid (∀ u, 0 < k → O[k - 1]? = some u → leB u x = true) := Lib.hid (fun u h0 => absurd h0 hk0)
          go_wp2
          go_quiet (fail)
          go_wp2
          have HROr : Hid (Rd wr (· < wr.heap.size) A3 (cs strC O)) := Lib.hid ((HRO.out.below HB2.out).more (fun b hb => by have := HB2.out.size; omega))
          have H1 : Hid (∀ W, Below wr.heap.size wr W → Hid (Rd W (· < wr.heap.size) A3 (cs strC (O.take k)))) := Lib.hid (fun W h => Lib.hid ((rd_tk HROr.out k).below h))
          obtain ⟨AR, hAR⟩ : ∃ AR, (if c3 = k then A3 else Option.map (fun x => x.add k) A3) = AR := ⟨_, rfl⟩
          have H2 : Hid (∀ W, Below wr.heap.size wr W → Hid (Rd W (· < wr.heap.size) AR (cs strC (O.drop k)))) := Lib.hid (fun W h => Lib.hid (by rw [← hAR]; exact (rd_dp HROr.out k c3 (by rw [← HOL.out]; exact hic)).below h))
          have L1 : Hid ((cs strC (O.take k)).length = k * 1) := Lib.hid (by rw [cs_length strC 1 (fun _ => rfl), List.length_take, ← HOL.out, Nat.min_eq_left hk])
          have L2 : Hid ((strC x).length = 1 * 1) := Lib.hid rfl
          have L3 : Hid ((cs strC (O.drop k)).length = (i - k) * 1) := Lib.hid (by rw [cs_length strC 1 (fun _ => rfl), List.length_drop, ← HOL.out])
          have hkc : k ≤ c3 := by omega
          have z1 : ∀ q ds, ((wr.drewN q).alloc (.cells ds 9)).cell? ⟨T, 0, none⟩ = some (.slice (some xd) n d) := fun q ds => C0.out _ (HBW.out.trans ((e_b1 wr ds q).out.mono HBW.out.size))
          have z2 : ∀ q ds, ((wr.drewN q).alloc (.cells ds 9)).cell? (xd.add i) = some (.string ⟨x.toArray⟩) := fun q ds => HXC.out _ (keep_trans HB2.out (e_b1 wr ds q).out)
          go_region_law (first
            | (refine step_append_rd (by rfl) (.tmp 36) (.tmp 39) 26 (by rfl) wr.heap.size 9 _ 1 16 Try.underlying26 info_Str rfl (by omega) (by omega) _ 0 [] (by rfl) (by first | exact e_own1 _ | exact e_own2 _ _ | exact e_own3 _ _) _ A3 k c3 (cs strC (O.take k)) (by rfl) L1 (H1.out _ (by first | exact (e_b1 _ _ _).out | exact (e_b2 _ _ _ _).out)) (cs_each str_one _) (by omega) (by first | (simp; done) | (simp; omega)) ?_; intro va w5 hoa hba hga; have ba : Hid (Below wr.heap.size wr w5) := (by first | exact (e_b1 _ _ _).out.trans hba.out | exact (e_b2 _ _ _ _).out.trans hba.out); have ya0 := C0.out _ (HBW.out.trans (ba.out.mono HBW.out.size)); have ya1 := HXC.out _ (keep_trans HB2.out ba.out))
            | (refine step_append_rd (by rfl) (.tmp 40) (.tmp 48) 26 (by rfl) wr.heap.size 9 _ 1 16 Try.underlying26 info_Str rfl (by omega) (by omega) va (0 + k) ([] ++ cs strC (O.take k)) (by rfl) (by first | exact hoa | exact e_alloc _ hoa) _ _ 1 1 (strC x) (by rfl) L2 (by first | exact e_x1 _ _ | exact e_x2 (wr.drewN (nq + 1)) _ hga | exact e_x3 (wr.drewN (nq + 1)) _ hga) (str_one x) (by omega) (by first | exact ba.out.size | exact Nat.le_trans ba.out.size (by simp)) ?_; intro vb w6 hob hbb hgb; have bb : Hid (Below wr.heap.size wr w6) := (by first | exact ba.out.trans hbb.out | exact (ba.out.alloc ba.out.size _).trans hbb.out))
            | (refine step_append_rd (by rfl) (.tmp 49) (.tmp 52) 26 (by rfl) wr.heap.size 9 _ 1 16 Try.underlying26 info_Str rfl (by omega) (by omega) vb (0 + k + 1) ([] ++ cs strC (O.take k) ++ strC x) (by rfl) hob _ AR (i - k) (c3 - k) (cs strC (O.drop k)) (by rfl) L3 (H2.out _ bb.out) (cs_each str_one _) (by omega) bb.out.size ?_; intro vc w7 hoc hbc hgc; have bc : Hid (Below wr.heap.size wr w7) := bb.out.trans hbc.out)
            | fail)
          all_goals
            obtain ⟨c9, A9, O9, e9, hc9, HS9⟩ := sort_next (m := 0 + k + 1 + (i - k)) (by omega) HO.out HOL.out hk HXI.out HK.out HLO.out HBW.out hoc.out bc.out
            subst e9
            go_wp2
            exact ⟨⟨i + 1, c9, A9, O9, by go_num, rfl, by omega, hc9, HS9⟩, by simp [intOf]; omega⟩
    · have hi1 : ¬ ((i : Int) < (n : Int)) := by omega
      obtain rfl : i = n := by omega
      have et : L.take i = L := List.take_of_length_le (by rw [← HN.out]; exact Nat.le_refl _)
      have eS : O = srt L := by
        rw [← srt_self HO.out.2.2.1]
        have hp := HO.out.2.1
        rw [et] at hp
        exact srt_perm hp
      have HOS := HO.out.1
      rw [eS] at HOS
      have HW := Lib.hid HOS
      clear et eS HOS
      go_wp2
      go_ret
      exact ⟨A3, c3, rfl, hic, HW, HB⟩
end Go.Proofs.Ytceamidobdfhbaa.It
