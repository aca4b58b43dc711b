/- The law BitsetRules, walked: at any width and any rows, at every world in which the library's table lies, it answers true. -/
import Derived.Test.YtffphlbbophjfaaDoorBitHas
import Derived.Test.YtffphlbbophjfaaDoorBitPick
import Derived.Test.YtffphlbbophjfaaDoorBitRulesMath
namespace Go.Proofs.YtffphlbbophjfaaDoor.Bs
open Go.ChangeShapes Go.WideShapes Go.ChangeAt Go.RowKit
set_option linter.unusedVariables false

def InK (zs : List Int) : Prop := ∀ x ∈ zs, -9223372036854775808 ≤ x ∧ x ≤ 9223372036854775807
theorem InK.at_ {zs : List Int} (h : InK zs) {k : Nat} (hk : k < zs.length) : -9223372036854775808 ≤ zs.getD k 0 ∧ zs.getD k 0 ≤ 9223372036854775807 :=
  h _ (by rw [List.getD_eq_getElem?_getD, List.getElem?_eq_getElem hk]; exact List.getElem_mem hk)
/-- both sets and both maps, while the rows are gone through -/
def R1Rel (W : World) (B g C h bi bo N len : Nat) (v : Value) (wr : World) : Prop :=
  ∃ (k : Nat) (f : Fs), v = .int .i64 k ∧ k ≤ len ∧ Hid (SetAt wr B g N f ∧ SetAt wr C h N fEmpty ∧ MapAt wr bi k f ∧ MapAt wr bo 0 fEmpty ∧ Below W.heap.size W wr)
def R2Rel (W : World) (B g C h bi bo N n1 len : Nat) (f : Fs) (v : Value) (wr : World) : Prop :=
  ∃ (k : Nat) (f2 : Fs), v = .int .i64 k ∧ k ≤ len ∧ Hid (SetAt wr B g N f ∧ SetAt wr C h N f2 ∧ MapAt wr bi n1 f ∧ MapAt wr bo k f2 ∧ Below W.heap.size W wr)
def R3Rel (W : World) (B g C h O1 o1 O2 o2 O3 o3 O4 o4 bi bo N n1 n2 : Nat) (f f2 : Fs) (v : Value) (wr : World) : Prop :=
  ∃ k : Nat, v = .int .i64 k ∧ k ≤ N ∧ Hid (SetAt wr O1 o1 N (fOr f f2) ∧ SetAt wr O2 o2 N (fAnd f f2) ∧ SetAt wr O3 o3 N (fMinus f f2) ∧ SetAt wr B g N f ∧ SetAt wr C h N f2 ∧ SetAt wr O4 o4 N f ∧ MapAt wr bi n1 f ∧ MapAt wr bo n2 f2 ∧ Below W.heap.size W wr)
def R4Rel (W : World) (B g C h O1 o1 O2 o2 O3 o3 O4 o4 N n3 c3 : Nat) (f f2 : Fs) (A : Option Addr) (v23 v25 : Value) (wr : World) : Prop :=
  ∃ i d : Nat, v23 = .int .i64 (nxt f N d) ∧ v25 = .int .i64 i ∧ i ≤ n3 ∧ d ≤ N ∧ Hid (i = (lst f d).length ∧ SetAt wr O1 o1 N (fOr f f2) ∧ SetAt wr O2 o2 N (fAnd f f2) ∧ SetAt wr O3 o3 N (fMinus f f2) ∧ SetAt wr B g N f ∧ SetAt wr C h N f2 ∧ SetAt wr O4 o4 N (fAnd f f2) ∧ Rd wr (· < wr.heap.size) A (ic (lst f N)) ∧ Below W.heap.size W wr)
theorem count_as {w : World} {B g n : Nat} {f : Fs} (h : SetAt w B g n f) (x : Nat) (hx : x = cnt f n) : Calls Tryd.prog 31 #[.pointer (some ⟨B, 0, none⟩)] w (IntPost w x) := by
  rw [hx]; exact count_any h
theorem next_as {w : World} {B g n : Nat} {f : Fs} (h : SetAt w B g n f) (hE : Env w) (i : Int) (y : Int) (hy : y = nxt f n i.toNat) : Calls Tryd.prog 14 #[.pointer (some ⟨B, 0, none⟩), .int .i64 i] w (IntPost w y) := by
  rw [hy]; exact next_any h hE i
set_option maxHeartbeats 16000000 in
set_option maxRecDepth 100000 in
theorem rules_all (W : World) (hE : Env W) (n : Int) (bn : -9223372036854775808 ≤ n ∧ n ≤ 9223372036854775807) (A1 A2 : Option Addr) (l1 c1 l2 c2 : Nat) (zs ys : List Int)
    (hl1 : Hid (l1 = zs.length)) (hr1 : Rd W (· < W.heap.size) A1 (ic zs)) (hb1 : InK zs) (hl2 : Hid (l2 = ys.length)) (hr2 : Rd W (· < W.heap.size) A2 (ic ys)) (hb2 : InK ys) :
    Calls Tryd.prog 6 #[.int .i64 n, .slice A1 l1 c1, .slice A2 l2 c2] W (BoolPost W true) := by
  have HE := Lib.hid hE
  have HR1 := Lib.hid hr1
  have HR2 := Lib.hid hr2
  have HB1 := Lib.hid hb1
  have HB2 := Lib.hid hb2
  have HBN := Lib.hid bn
  clear hE hr1 hr2 hb1 hb2 bn
  by_cases hbig : 150 < l1 ∨ 150 < l2
  · by_cases hbig1 : 150 < l1
    · clear hbig
      go_enter Tryd.func6, Tryd.ntmps6
      go_wp2_with fail
      refine (lives_any _ HE.out).mono ?_
      rintro e w1 ⟨rfl, hb1⟩
      have hb1 := Lib.hid hb1
      go_wp2
      go_ret
      exact ⟨rfl, hb1.out⟩
    · have hbig2 : 150 < l2 := by omega
      clear hbig
      go_enter Tryd.func6, Tryd.ntmps6
      go_wp2_with fail
      refine (lives_any _ HE.out).mono ?_
      rintro e w1 ⟨rfl, hb1⟩
      have hb1 := Lib.hid hb1
      go_wp2
      go_ret
      exact ⟨rfl, hb1.out⟩
  · have hs1 : ¬ 150 < l1 := by omega
    have hs2 : ¬ 150 < l2 := by omega
    have hmm := @run_makeMap Tryd.prog
    clear hbig
    go_enter Tryd.func6, Tryd.ntmps6
    go_wp2_with fail
    refine (lives_any _ HE.out).mono ?_
    rintro e w1 ⟨rfl, hb1⟩
    have hb1 := Lib.hid hb1
    go_wp2_with fail
    refine (pick_any n 300 w1 HBN.out.1 HBN.out.2 (by omega) (by omega)).mono ?_
    rintro e w2 ⟨N0, rfl, hN, rfl⟩
    have hN0 : N0 < 300 := by have := hN.out; omega
    clear hN
    obtain ⟨N, hNN⟩ : ∃ N, N = 1 + N0 := ⟨_, rfl⟩
    have eN : (1 : Int) + (N0 : Int) = (N : Int) := by omega
    have hN1 : 1 ≤ N := by omega
    have hN2 : N ≤ 300 := by omega
    clear hNN hN0
    go_wp2_with fail
    refine (new_any N _ (by omega)).mono ?_
    rintro e w3 ⟨B, g, rfl, hB, hg, hs3, q3⟩
    go_wp2_with fail
    refine (new_any N _ (by omega)).mono ?_
    rintro e w4 ⟨C, h, rfl, hC, hh, ht4, q4⟩
    have hgh : g < h := by have := hs3.lt; omega
    have hgB : W.heap.size ≤ g := Nat.le_trans hb1.out.size hg
    have hsz4 : W.heap.size ≤ w4.heap.size := (keep_trans (keep_trans hb1.out q3) q4).size
    have HI : Hid (R1Rel W B g C h w4.heap.size (w4.heap.size + 1) N l1 (.int .i64 0) ((w4.alloc (.map #[] 0)).alloc (.map #[] 0))) := Lib.hid (by
      have k1 : Below w4.heap.size w4 (w4.alloc (.map #[] 0)) := keep_alloc (Below.refl _ _) _
      have k2 : Below (w4.alloc (.map #[] 0)).heap.size (w4.alloc (.map #[] 0)) ((w4.alloc (.map #[] 0)).alloc (.map #[] 0)) := keep_alloc (Below.refl _ _) _
      have m2 := MapAt.made (w4.alloc (.map #[] 0))
      rw [show (w4.alloc (.map #[] 0)).heap.size = w4.heap.size + 1 by simp] at m2
      exact ⟨0, fEmpty, rfl, by omega, Lib.hid ⟨((hs3.after q4).after k1).after k2, (ht4.after k1).after k2, (MapAt.made w4).after k2, m2, keep_trans (keep_trans (keep_trans (keep_trans hb1.out q3) q4) k1) k2⟩⟩)
    have hhB : W.heap.size ≤ h := Nat.le_trans (keep_trans hb1.out q3).size hh
    have HSZ := Lib.hid hsz4
    clear hs3 q3 ht4 q4 hB hg hC hh hb1 hsz4
    go_wp2
    go_loopw [13] (fun v wr => R1Rel W B g C h w4.heap.size (w4.heap.size + 1) N l1 v wr) (fun v _ => l1 - (intOf v).toNat)
    case atStart => exact HI.out
    case round =>
      obtain ⟨k, f, rfl, hk, hst⟩ := hrel
      clear HI
      by_cases hlt : k < l1
      · have hkz : k < zs.length := by rw [← hl1.out]; exact hlt
        obtain ⟨ad, rfl, hS, hc⟩ := (HR1.out.below2 hst.out.2.2.2.2).at_ (k := k) hkz
        have hx0 := hc k hkz
        have HXB := Lib.hid (HB1.out.at_ hkz)
        obtain ⟨x, hx⟩ : ∃ x, x = zs.getD k 0 := ⟨_, rfl⟩
        rw [← hx] at hx0 HXB
        clear hc hS hx hkz
        go_wp2_with fail
        refine (pick_eq x N wr HXB.out.1 HXB.out.2 (by omega) (by omega)).mono ?_
        rintro e w5 ⟨rfl, rfl⟩
        have hjN : pk x N < N := by have := pk_lt (k := x) (m := N) (by omega); omega
        obtain ⟨j, hj⟩ : ∃ j, j = pk x N := ⟨_, rfl⟩
        rw [← hj] at hjN ⊢
        obtain ⟨p, hp⟩ : ∃ p, p = f j := ⟨_, rfl⟩
        have P1 := Lib.hid (put_any hst.out.1 (j : Int) (!p) 0 (fPut f j) (by rw [if_pos (by omega), hp]; rfl) (by rw [if_pos (by omega)]) (by rw [if_pos (by omega)]; rfl))
        have HP := Lib.hid hp
        clear hj hp hx0 HXB
        go_wp2_with fail
        refine P1.out.mono ?_
        rintro e w5 ⟨rfl, hs5, hw5⟩
        have hm5 := hst.out.2.2.1.far hw5
        have hk5 := hm5.look j (by omega)
        obtain ⟨w6, hu6, hm6, hg6⟩ := hm5.store (by omega) j (by omega)
        obtain ⟨c, hcc⟩ : ∃ c, c = bI (f j) := ⟨_, rfl⟩
        rw [← hcc] at hk5
        have hcp : (c != 0) = p := by rw [hcc, HP.out]; exact bI_ne _
        have hpp : ((!p) == p) = false := by cases p <;> rfl
        have HN : Hid (R1Rel W B g C h w4.heap.size (w4.heap.size + 1) N l1 (.int .i64 ((k : Int) + 1)) w6) := Lib.hid
          ⟨k + 1, fPut f j, by simp, by omega, Lib.hid ⟨hs5.map hm5 hg6, (hst.out.2.1.far hw5 (by omega)).map hm5 hg6, hm6, (hst.out.2.2.2.1.far hw5).other hg6 (by omega), below_map (wr_below hst.out.2.2.2.2 hw5 hgB) hg6 HSZ.out⟩⟩
        clear hst hs5 hw5 hm5 hm6 hg6 P1 hcc HP
        go_wp2
        go_roundw
        case rel => exact HN.out
        case measure => simp [intOf]; omega
      · have hkl : k = l1 := by omega
        subst hkl
        have HI : Hid (R2Rel W B g C h w4.heap.size (w4.heap.size + 1) N k l2 f (.int .i64 0) wr) := Lib.hid ⟨0, fEmpty, rfl, by omega, hst⟩
        clear hst hk
        go_wp2
        go_loopw [17] (fun v wr => R2Rel W B g C h w4.heap.size (w4.heap.size + 1) N k l2 f v wr) (fun v _ => l2 - (intOf v).toNat)
        case atStart => exact HI.out
        case round =>
          obtain ⟨k2, f2, rfl, hk, hst⟩ := hrel
          clear HI
          rename World => wr2
          by_cases hlt2 : k2 < l2
          · have hkz : k2 < ys.length := by rw [← hl2.out]; exact hlt2
            obtain ⟨ad, rfl, hS, hc⟩ := (HR2.out.below2 hst.out.2.2.2.2).at_ (k := k2) hkz
            have hx0 := hc k2 hkz
            have HXB := Lib.hid (HB2.out.at_ hkz)
            obtain ⟨x, hx⟩ : ∃ x, x = ys.getD k2 0 := ⟨_, rfl⟩
            rw [← hx] at hx0 HXB
            have HAD : Hid (∀ w', Below W.heap.size wr2 w' → w'.cell? (ad.add k2) = some (.int .i64 x)) := Lib.hid fun w' hb' => by
              rw [← hx0]; exact World.cell?_of_block (hb'.block _ (by rw [block_of_add]; exact hS))
            have hjN : pk x N < N := by have := pk_lt (k := x) (m := N) (by omega); omega
            obtain ⟨j, hj⟩ : ∃ j, j = pk x N := ⟨_, rfl⟩
            have PK : Hid (∀ w, Calls Tryd.prog 19 #[.int .i64 x, .int .i64 N] w (PkPost j w)) := Lib.hid fun w => by rw [hj]; exact pick_eq x N w HXB.out.1 HXB.out.2 (by omega) (by omega)
            rw [← hj] at hjN
            have P1 := Lib.hid (put_any hst.out.2.1 (j : Int) (!f2 j) 0 (fPut f2 j) (by rw [if_pos (by omega)]; rfl) (by rw [if_pos (by omega)]) (by rw [if_pos (by omega)]; rfl))
            clear hc hS hx hkz hj HXB
            go_wp2_with fail
            refine (PK.out _).mono ?_
            rintro e w5 ⟨rfl, rfl⟩
            go_wp2_with fail
            refine P1.out.mono ?_
            rintro e w5 ⟨rfl, hs5, hw5⟩
            have hx5 := HAD.out w5 (Wr.below (Below.refl _ _) hw5 hst.out.2.2.2.2.size hhB)
            have hm5 := hst.out.2.2.2.1.far hw5
            obtain ⟨w6, hu6, hm6, hg6⟩ := hm5.store (by omega) j (by omega)
            have HN : Hid (R2Rel W B g C h w4.heap.size (w4.heap.size + 1) N k l2 f (.int .i64 ((k2 : Int) + 1)) w6) := Lib.hid
              ⟨k2 + 1, fPut f2 j, by simp, by omega, Lib.hid ⟨(hst.out.1.far hw5 (by omega)).map hm5 hg6, hs5.map hm5 hg6, (hst.out.2.2.1.far hw5).other hg6 (by omega), hm6, below_map (wr_below hst.out.2.2.2.2 hw5 hhB) hg6 (by have := HSZ.out; omega)⟩⟩
            clear hst hs5 hw5 hm5 hm6 hg6 P1 HAD hx0
            go_wp2_with fail
            refine (PK.out _).mono ?_
            rintro e w7 ⟨rfl, rfl⟩
            go_wp2
            go_roundw
            case rel => exact HN.out
            case measure => simp [intOf]; omega
          · have hkl : k2 = l2 := by omega
            subst hkl
            have sa0 := Lib.hid hst.out.1
            have sb0 := Lib.hid hst.out.2.1
            have mi0 := Lib.hid hst.out.2.2.1
            have mo0 := Lib.hid hst.out.2.2.2.1
            have HB0 := Lib.hid hst.out.2.2.2.2
            clear hst hk
            go_wp2_with fail
            refine (clone_any sa0.out).mono ?_
            rintro e w1000 ⟨O1, o1, rfl, hO, ho, hz, hq⟩
            have lt_o1 : h < o1 := by have := sb0.out.lt; omega
            have ge_o1 : W.heap.size ≤ o1 := Nat.le_trans HB0.out.size ho
            have hz := Lib.hid hz
            have sa1 := Lib.hid (sa0.out.after hq)
            have sb1 := Lib.hid (sb0.out.after hq)
            have mi1 := Lib.hid (mi0.out.after hq)
            have mo1 := Lib.hid (mo0.out.after hq)
            have HB1 := Lib.hid (keep_trans HB0.out hq)
            clear sa0 sb0 mi0 mo0 HB0 hq hO ho
            have so1 := hz
            clear hz
            go_wp2_with fail
            refine (clone_any sa1.out).mono ?_
            rintro e w1001 ⟨O2, o2, rfl, hO, ho, hz, hq⟩
            have lt_o2 : o1 < o2 := by have := so1.out.lt; omega
            have ge_o2 : W.heap.size ≤ o2 := Nat.le_trans HB1.out.size ho
            have hz := Lib.hid hz
            have sa2 := Lib.hid (sa1.out.after hq)
            have sb2 := Lib.hid (sb1.out.after hq)
            have so2 := Lib.hid (so1.out.after hq)
            have mi2 := Lib.hid (mi1.out.after hq)
            have mo2 := Lib.hid (mo1.out.after hq)
            have HB2 := Lib.hid (keep_trans HB1.out hq)
            clear sa1 sb1 so1 mi1 mo1 HB1 hq hO ho
            have sn2 := hz
            clear hz
            go_wp2_with fail
            refine (clone_any sa2.out).mono ?_
            rintro e w1002 ⟨O3, o3, rfl, hO, ho, hz, hq⟩
            have lt_o3 : o2 < o3 := by have := sn2.out.lt; omega
            have ge_o3 : W.heap.size ≤ o3 := Nat.le_trans HB2.out.size ho
            have hz := Lib.hid hz
            have sa3 := Lib.hid (sa2.out.after hq)
            have sb3 := Lib.hid (sb2.out.after hq)
            have so3 := Lib.hid (so2.out.after hq)
            have sn3 := Lib.hid (sn2.out.after hq)
            have mi3 := Lib.hid (mi2.out.after hq)
            have mo3 := Lib.hid (mo2.out.after hq)
            have HB3 := Lib.hid (keep_trans HB2.out hq)
            clear sa2 sb2 so2 sn2 mi2 mo2 HB2 hq hO ho
            have sm3 := hz
            clear hz
            go_wp2_with fail
            refine (clone_any sa3.out).mono ?_
            rintro e w1003 ⟨O4, o4, rfl, hO, ho, hz, hq⟩
            have lt_o4 : o3 < o4 := by have := sm3.out.lt; omega
            have ge_o4 : W.heap.size ≤ o4 := Nat.le_trans HB3.out.size ho
            have hz := Lib.hid hz
            have sa4 := Lib.hid (sa3.out.after hq)
            have sb4 := Lib.hid (sb3.out.after hq)
            have so4 := Lib.hid (so3.out.after hq)
            have sn4 := Lib.hid (sn3.out.after hq)
            have sm4 := Lib.hid (sm3.out.after hq)
            have mi4 := Lib.hid (mi3.out.after hq)
            have mo4 := Lib.hid (mo3.out.after hq)
            have HB4 := Lib.hid (keep_trans HB3.out hq)
            clear sa3 sb3 so3 sn3 sm3 mi3 mo3 HB3 hq hO ho
            have sk4 := hz
            clear hz
            go_wp2_with fail
            refine (or_any so4.out sb4.out 0 (fOr f f2) (by rw [if_pos rfl]) (by rw [if_pos rfl])).mono ?_
            rintro e w1004 ⟨rfl, hz, hw⟩
            have sa5 := Lib.hid (sa4.out.far hw (by omega))
            have sb5 := Lib.hid (sb4.out.far hw (by omega))
            have so5 := Lib.hid hz
            have sn5 := Lib.hid (sn4.out.far hw (by omega))
            have sm5 := Lib.hid (sm4.out.far hw (by omega))
            have sk5 := Lib.hid (sk4.out.far hw (by omega))
            have mi5 := Lib.hid (mi4.out.far hw)
            have mo5 := Lib.hid (mo4.out.far hw)
            have HB5 := Lib.hid (wr_below HB4.out hw ge_o1)
            clear sa4 sb4 so4 sn4 sm4 sk4 mi4 mo4 HB4 hz hw
            go_wp2_with fail
            refine (and_any sn5.out sb5.out 0 (fAnd f f2) (by rw [if_pos rfl]) (by rw [if_pos rfl])).mono ?_
            rintro e w1005 ⟨rfl, hz, hw⟩
            have sa6 := Lib.hid (sa5.out.far hw (by omega))
            have sb6 := Lib.hid (sb5.out.far hw (by omega))
            have so6 := Lib.hid (so5.out.far hw (by omega))
            have sn6 := Lib.hid hz
            have sm6 := Lib.hid (sm5.out.far hw (by omega))
            have sk6 := Lib.hid (sk5.out.far hw (by omega))
            have mi6 := Lib.hid (mi5.out.far hw)
            have mo6 := Lib.hid (mo5.out.far hw)
            have HB6 := Lib.hid (wr_below HB5.out hw ge_o2)
            clear sa5 sb5 so5 sn5 sm5 sk5 mi5 mo5 HB5 hz hw
            go_wp2_with fail
            refine (minus_any sm6.out sb6.out 0 (fMinus f f2) (by rw [if_pos rfl]) (by rw [if_pos rfl])).mono ?_
            rintro e w1006 ⟨rfl, hz, hw⟩
            have sa7 := Lib.hid (sa6.out.far hw (by omega))
            have sb7 := Lib.hid (sb6.out.far hw (by omega))
            have so7 := Lib.hid (so6.out.far hw (by omega))
            have sn7 := Lib.hid (sn6.out.far hw (by omega))
            have sm7 := Lib.hid hz
            have sk7 := Lib.hid (sk6.out.far hw (by omega))
            have mi7 := Lib.hid (mi6.out.far hw)
            have mo7 := Lib.hid (mo6.out.far hw)
            have HB7 := Lib.hid (wr_below HB6.out hw ge_o3)
            clear sa6 sb6 so6 sn6 sm6 sk6 mi6 mo6 HB6 hz hw
            have HI : Hid (R3Rel W B g C h O1 o1 O2 o2 O3 o3 O4 o4 w4.heap.size (w4.heap.size + 1) N k k2 f f2 (.int .i64 0) w1006) := Lib.hid ⟨0, rfl, by omega, Lib.hid ⟨so7.out, sn7.out, sm7.out, sa7.out, sb7.out, sk7.out, mi7.out, mo7.out, HB7.out⟩⟩
            clear sa7 sb7 so7 sn7 sm7 sk7 mi7 mo7 HB7
            go_wp2
            go_loopw [22] (fun v wr => R3Rel W B g C h O1 o1 O2 o2 O3 o3 O4 o4 w4.heap.size (w4.heap.size + 1) N k k2 f f2 v wr) (fun v _ => N - (intOf v).toNat)
            case atStart => exact HI.out
            case round =>
              obtain ⟨k3, rfl, hk, hst⟩ := hrel
              clear HI
              rename World => wr3
              by_cases hlt3 : k3 < N
              · have L1 : ∀ m, (Instr.lookup 52 (.map (some w4.heap.size)) (.int .i64 k3) false).run Tryd.prog (wr3.drewN m) = .ok (.int .i64 (bI (f k3))) (wr3.drewN m) := fun m => (hst.out.2.2.2.2.2.2.1.after (below_drewN (Below.refl _ _) m)).look k3 (by omega)
                have L2 : ∀ m, (Instr.lookup 52 (.map (some (w4.heap.size + 1))) (.int .i64 k3) false).run Tryd.prog (wr3.drewN m) = .ok (.int .i64 (bI (f2 k3))) (wr3.drewN m) := fun m => (hst.out.2.2.2.2.2.2.2.1.after (below_drewN (Below.refl _ _) m)).look k3 (by omega)
                have hi : (k3 : Int) < (N : Int) := by omega
                have HN : Hid (∀ m, R3Rel W B g C h O1 o1 O2 o2 O3 o3 O4 o4 w4.heap.size (w4.heap.size + 1) N k k2 f f2 (.int .i64 ((k3 : Int) + 1)) (wr3.drewN m)) := Lib.hid fun m => ⟨k3 + 1, by simp, by omega, Lib.hid (by
                  obtain ⟨a1, a2, a3, a4, a5, a6, a7, a8, a9⟩ := hst.out
                  have hb := below_drewN (Below.refl wr3.heap.size wr3) m
                  exact ⟨a1.after hb, a2.after hb, a3.after hb, a4.after hb, a5.after hb, a6.after hb, a7.after hb, a8.after hb, below_drewN a9 m⟩)⟩
                cases hp : f k3 <;> cases hq : f2 k3
                · rw [hp] at L1
                  rw [hq] at L2
                  change ∀ m, (Instr.lookup 52 (.map (some w4.heap.size)) (.int .i64 k3) false).run Tryd.prog (wr3.drewN m) = .ok (.int .i64 0) (wr3.drewN m) at L1
                  change ∀ m, (Instr.lookup 52 (.map (some (w4.heap.size + 1))) (.int .i64 k3) false).run Tryd.prog (wr3.drewN m) = .ok (.int .i64 0) (wr3.drewN m) at L2
                  have H1 := Lib.hid (has_quiet hst.out.1 k3 hlt3 false (by simp [fOr, hp, hq]))
                  have H2 := Lib.hid (has_quiet hst.out.2.1 k3 hlt3 false (by simp [fAnd, hp, hq]))
                  have H3 := Lib.hid (has_quiet hst.out.2.2.1 k3 hlt3 false (by simp [fMinus, hp, hq]))
                  have H4 := Lib.hid (has_quiet hst.out.2.2.2.1 k3 hlt3 false (by simp [hp]))
                  clear hp hq hst
                  go_wp2
                  go_quiet ((first | (go_at_call 17; (with_reducible exact H1.out _)) | (go_at_call 17; (with_reducible exact H2.out _)) | (go_at_call 17; (with_reducible exact H3.out _)) | (go_at_call 17; (with_reducible exact H4.out _)) | fail))
                  go_wp2
                  go_roundw
                  case rel => exact HN.out _
                  case measure => simp [intOf]; omega
                · rw [hp] at L1
                  rw [hq] at L2
                  change ∀ m, (Instr.lookup 52 (.map (some w4.heap.size)) (.int .i64 k3) false).run Tryd.prog (wr3.drewN m) = .ok (.int .i64 0) (wr3.drewN m) at L1
                  change ∀ m, (Instr.lookup 52 (.map (some (w4.heap.size + 1))) (.int .i64 k3) false).run Tryd.prog (wr3.drewN m) = .ok (.int .i64 1) (wr3.drewN m) at L2
                  have H1 := Lib.hid (has_quiet hst.out.1 k3 hlt3 true (by simp [fOr, hp, hq]))
                  have H2 := Lib.hid (has_quiet hst.out.2.1 k3 hlt3 false (by simp [fAnd, hp, hq]))
                  have H3 := Lib.hid (has_quiet hst.out.2.2.1 k3 hlt3 false (by simp [fMinus, hp, hq]))
                  have H4 := Lib.hid (has_quiet hst.out.2.2.2.1 k3 hlt3 false (by simp [hp]))
                  clear hp hq hst
                  go_wp2
                  go_quiet ((first | (go_at_call 17; (with_reducible exact H1.out _)) | (go_at_call 17; (with_reducible exact H2.out _)) | (go_at_call 17; (with_reducible exact H3.out _)) | (go_at_call 17; (with_reducible exact H4.out _)) | fail))
                  go_wp2
                  go_roundw
                  case rel => exact HN.out _
                  case measure => simp [intOf]; omega
                · rw [hp] at L1
                  rw [hq] at L2
                  change ∀ m, (Instr.lookup 52 (.map (some w4.heap.size)) (.int .i64 k3) false).run Tryd.prog (wr3.drewN m) = .ok (.int .i64 1) (wr3.drewN m) at L1
                  change ∀ m, (Instr.lookup 52 (.map (some (w4.heap.size + 1))) (.int .i64 k3) false).run Tryd.prog (wr3.drewN m) = .ok (.int .i64 0) (wr3.drewN m) at L2
                  have H1 := Lib.hid (has_quiet hst.out.1 k3 hlt3 true (by simp [fOr, hp, hq]))
                  have H2 := Lib.hid (has_quiet hst.out.2.1 k3 hlt3 false (by simp [fAnd, hp, hq]))
                  have H3 := Lib.hid (has_quiet hst.out.2.2.1 k3 hlt3 true (by simp [fMinus, hp, hq]))
                  have H4 := Lib.hid (has_quiet hst.out.2.2.2.1 k3 hlt3 true (by simp [hp]))
                  clear hp hq hst
                  go_wp2
                  go_quiet ((first | (go_at_call 17; (with_reducible exact H1.out _)) | (go_at_call 17; (with_reducible exact H2.out _)) | (go_at_call 17; (with_reducible exact H3.out _)) | (go_at_call 17; (with_reducible exact H4.out _)) | fail))
                  go_wp2
                  go_roundw
                  case rel => exact HN.out _
                  case measure => simp [intOf]; omega
                · rw [hp] at L1
                  rw [hq] at L2
                  change ∀ m, (Instr.lookup 52 (.map (some w4.heap.size)) (.int .i64 k3) false).run Tryd.prog (wr3.drewN m) = .ok (.int .i64 1) (wr3.drewN m) at L1
                  change ∀ m, (Instr.lookup 52 (.map (some (w4.heap.size + 1))) (.int .i64 k3) false).run Tryd.prog (wr3.drewN m) = .ok (.int .i64 1) (wr3.drewN m) at L2
                  have H1 := Lib.hid (has_quiet hst.out.1 k3 hlt3 true (by simp [fOr, hp, hq]))
                  have H2 := Lib.hid (has_quiet hst.out.2.1 k3 hlt3 true (by simp [fAnd, hp, hq]))
                  have H3 := Lib.hid (has_quiet hst.out.2.2.1 k3 hlt3 false (by simp [fMinus, hp, hq]))
                  have H4 := Lib.hid (has_quiet hst.out.2.2.2.1 k3 hlt3 true (by simp [hp]))
                  clear hp hq hst
                  go_wp2
                  go_quiet ((first | (go_at_call 17; (with_reducible exact H1.out _)) | (go_at_call 17; (with_reducible exact H2.out _)) | (go_at_call 17; (with_reducible exact H3.out _)) | (go_at_call 17; (with_reducible exact H4.out _)) | fail))
                  go_wp2
                  go_roundw
                  case rel => exact HN.out _
                  case measure => simp [intOf]; omega
              · have hkl3 : k3 = N := by omega
                subst hkl3
                obtain ⟨a1, a2, a3, a4, a5, a6, -, -, a9⟩ := hst.out
                have so0 := Lib.hid a1
                have sn0 := Lib.hid a2
                have sm0 := Lib.hid a3
                have sa0 := Lib.hid a4
                have sb0 := Lib.hid a5
                have sk0 := Lib.hid a6
                have HB0 := Lib.hid a9
                clear hst hk a1 a2 a3 a4 a5 a6 a9 hN1
                obtain ⟨x1, hx1⟩ : ∃ x, x = cnt (fOr f f2) k3 := ⟨_, rfl⟩
                have bx1 : x1 ≤ 300 := by have := cnt_le ((fOr f f2)) k3; omega
                have Hx1 := Lib.hid hx1
                obtain ⟨x2, hx2⟩ : ∃ x, x = cnt (fAnd f f2) k3 := ⟨_, rfl⟩
                have bx2 : x2 ≤ 300 := by have := cnt_le ((fAnd f f2)) k3; omega
                have Hx2 := Lib.hid hx2
                obtain ⟨x3, hx3⟩ : ∃ x, x = cnt f k3 := ⟨_, rfl⟩
                have bx3 : x3 ≤ 300 := by have := cnt_le (f) k3; omega
                have Hx3 := Lib.hid hx3
                obtain ⟨x4, hx4⟩ : ∃ x, x = cnt f2 k3 := ⟨_, rfl⟩
                have bx4 : x4 ≤ 300 := by have := cnt_le (f2) k3; omega
                have Hx4 := Lib.hid hx4
                obtain ⟨x5, hx5⟩ : ∃ x, x = cnt (fMinus f f2) k3 := ⟨_, rfl⟩
                have bx5 : x5 ≤ 300 := by have := cnt_le ((fMinus f f2)) k3; omega
                have Hx5 := Lib.hid hx5
                have E1 : ((x1 : Int) + (x2 : Int) != (x3 : Int) + (x4 : Int)) = false := by have := cnt_or_and f f2 k3; simp; omega
                have E2 : ((x5 : Int) + (x2 : Int) != (x3 : Int)) = false := by have := cnt_minus_and f f2 k3; simp; omega
                clear hx1 hx2 hx3 hx4 hx5
                go_wp2_with fail
                refine (count_as so0.out x1 Hx1.out).mono ?_
                rintro e w1000 ⟨rfl, q0⟩
                have so1 := Lib.hid (so0.out.after q0)
                have sn1 := Lib.hid (sn0.out.after q0)
                have sm1 := Lib.hid (sm0.out.after q0)
                have sa1 := Lib.hid (sa0.out.after q0)
                have sb1 := Lib.hid (sb0.out.after q0)
                have sk1 := Lib.hid (sk0.out.after q0)
                have HB1 := Lib.hid (keep_trans HB0.out q0)
                clear so0 sn0 sm0 sa0 sb0 sk0 HB0 q0
                go_wp2_with fail
                refine (count_as sn1.out x2 Hx2.out).mono ?_
                rintro e w1001 ⟨rfl, q1⟩
                have so2 := Lib.hid (so1.out.after q1)
                have sn2 := Lib.hid (sn1.out.after q1)
                have sm2 := Lib.hid (sm1.out.after q1)
                have sa2 := Lib.hid (sa1.out.after q1)
                have sb2 := Lib.hid (sb1.out.after q1)
                have sk2 := Lib.hid (sk1.out.after q1)
                have HB2 := Lib.hid (keep_trans HB1.out q1)
                clear so1 sn1 sm1 sa1 sb1 sk1 HB1 q1
                go_wp2_with fail
                refine (count_as sa2.out x3 Hx3.out).mono ?_
                rintro e w1002 ⟨rfl, q2⟩
                have so3 := Lib.hid (so2.out.after q2)
                have sn3 := Lib.hid (sn2.out.after q2)
                have sm3 := Lib.hid (sm2.out.after q2)
                have sa3 := Lib.hid (sa2.out.after q2)
                have sb3 := Lib.hid (sb2.out.after q2)
                have sk3 := Lib.hid (sk2.out.after q2)
                have HB3 := Lib.hid (keep_trans HB2.out q2)
                clear so2 sn2 sm2 sa2 sb2 sk2 HB2 q2
                go_wp2_with fail
                refine (count_as sb3.out x4 Hx4.out).mono ?_
                rintro e w1003 ⟨rfl, q3⟩
                have so4 := Lib.hid (so3.out.after q3)
                have sn4 := Lib.hid (sn3.out.after q3)
                have sm4 := Lib.hid (sm3.out.after q3)
                have sa4 := Lib.hid (sa3.out.after q3)
                have sb4 := Lib.hid (sb3.out.after q3)
                have sk4 := Lib.hid (sk3.out.after q3)
                have HB4 := Lib.hid (keep_trans HB3.out q3)
                clear so3 sn3 sm3 sa3 sb3 sk3 HB3 q3
                go_wp2_with fail
                refine (count_as sm4.out x5 Hx5.out).mono ?_
                rintro e w1004 ⟨rfl, q4⟩
                have so5 := Lib.hid (so4.out.after q4)
                have sn5 := Lib.hid (sn4.out.after q4)
                have sm5 := Lib.hid (sm4.out.after q4)
                have sa5 := Lib.hid (sa4.out.after q4)
                have sb5 := Lib.hid (sb4.out.after q4)
                have sk5 := Lib.hid (sk4.out.after q4)
                have HB5 := Lib.hid (keep_trans HB4.out q4)
                clear so4 sn4 sm4 sa4 sb4 sk4 HB4 q4
                go_wp2_with fail
                refine (count_as sn5.out x2 Hx2.out).mono ?_
                rintro e w1005 ⟨rfl, q5⟩
                have so6 := Lib.hid (so5.out.after q5)
                have sn6 := Lib.hid (sn5.out.after q5)
                have sm6 := Lib.hid (sm5.out.after q5)
                have sa6 := Lib.hid (sa5.out.after q5)
                have sb6 := Lib.hid (sb5.out.after q5)
                have sk6 := Lib.hid (sk5.out.after q5)
                have HB6 := Lib.hid (keep_trans HB5.out q5)
                clear so5 sn5 sm5 sa5 sb5 sk5 HB5 q5
                go_wp2_with fail
                refine (count_as sa6.out x3 Hx3.out).mono ?_
                rintro e w1006 ⟨rfl, q6⟩
                have so7 := Lib.hid (so6.out.after q6)
                have sn7 := Lib.hid (sn6.out.after q6)
                have sm7 := Lib.hid (sm6.out.after q6)
                have sa7 := Lib.hid (sa6.out.after q6)
                have sb7 := Lib.hid (sb6.out.after q6)
                have sk7 := Lib.hid (sk6.out.after q6)
                have HB7 := Lib.hid (keep_trans HB6.out q6)
                clear so6 sn6 sm6 sa6 sb6 sk6 HB6 q6
                go_wp2_with fail
                refine (minus_any sk7.out sm7.out 0 (fAnd f f2) (by rw [if_pos rfl]) (by rw [if_pos rfl, minus_minus])).mono ?_
                rintro e w1007 ⟨rfl, hz, hw⟩
                have so8 := Lib.hid (so7.out.far hw (by omega))
                have sn8 := Lib.hid (sn7.out.far hw (by omega))
                have sm8 := Lib.hid (sm7.out.far hw (by omega))
                have sa8 := Lib.hid (sa7.out.far hw (by omega))
                have sb8 := Lib.hid (sb7.out.far hw (by omega))
                have sk8 := Lib.hid hz
                have HB8 := Lib.hid (wr_below HB7.out hw ge_o4)
                clear so7 sn7 sm7 sa7 sb7 sk7 HB7 hz hw
                clear E1 E2 bx1 bx2 bx3 bx4 bx5 Hx1 Hx2 Hx3 Hx4 Hx5
                obtain ⟨y0, hy0⟩ : ∃ y : Int, y = nxt f k3 0 := ⟨_, rfl⟩
                have HY0 := Lib.hid hy0
                clear hy0
                go_wp2_with fail
                refine (next_as sa8.out (HE.out.after HB8.out) 0 y0 HY0.out).mono ?_
                rintro e w1008 ⟨rfl, q8⟩
                have so9 := Lib.hid (so8.out.after q8)
                have sn9 := Lib.hid (sn8.out.after q8)
                have sm9 := Lib.hid (sm8.out.after q8)
                have sa9 := Lib.hid (sa8.out.after q8)
                have sb9 := Lib.hid (sb8.out.after q8)
                have sk9 := Lib.hid (sk8.out.after q8)
                have HB9 := Lib.hid (keep_trans HB8.out q8)
                clear so8 sn8 sm8 sa8 sb8 sk8 HB8 q8
                go_wp2_with fail
                refine (list_any sa9.out (HE.out.after HB9.out)).mono ?_
                rintro e wl ⟨A3, n3, c3, rfl, hn3, hc3, hr3, hq⟩
                have hr3 := Lib.hid hr3.old
                have so10 := Lib.hid (so9.out.after hq)
                have sn10 := Lib.hid (sn9.out.after hq)
                have sm10 := Lib.hid (sm9.out.after hq)
                have sa10 := Lib.hid (sa9.out.after hq)
                have sb10 := Lib.hid (sb9.out.after hq)
                have sk10 := Lib.hid (sk9.out.after hq)
                have HB10 := Lib.hid (keep_trans HB9.out hq)
                clear so9 sn9 sm9 sa9 sb9 sk9 HB9 hq
                have hn3b : n3 ≤ 300 := by rw [hn3.out, lst_length]; have := cnt_le f k3; omega
                have HI : Hid (R4Rel W B g C h O1 o1 O2 o2 O3 o3 O4 o4 k3 n3 c3 f f2 A3 (.int .i64 y0) (.int .i64 0) wl) := Lib.hid ⟨0, 0, by rw [HY0.out], rfl, by omega, by omega, Lib.hid ⟨rfl, so10.out, sn10.out, sm10.out, sa10.out, sb10.out, sk10.out, hr3.out, HB10.out⟩⟩
                clear so10 sn10 sm10 sa10 sb10 sk10 HB10 hr3 HY0
                go_wp2
                go_loopw [23, 25] (fun v23 v25 wr => R4Rel W B g C h O1 o1 O2 o2 O3 o3 O4 o4 k3 n3 c3 f f2 A3 v23 v25 wr) (fun _ v _ => n3 - (intOf v).toNat)
                case atStart => exact HI.out
                case round =>
                  obtain ⟨i, d, rfl, rfl, hi, hd, hst⟩ := hrel
                  clear HI
                  rename World => wr4
                  by_cases hlt4 : i < n3
                  · obtain ⟨j, ej, hj, hg, hlen⟩ := lst_next hd hst.out.1 (by rw [← hn3.out]; exact hlt4)
                    obtain ⟨ad, rfl, hS, hc⟩ := (show Rd wr4 (· < wr4.heap.size) A3 (ic (lst f k3)) from hst.out.2.2.2.2.2.2.2.1).at_ (k := i) (by rw [← hn3.out]; exact hlt4)
                    have hx0 := hc i (by rw [← hn3.out]; exact hlt4)
                    rw [hg] at hx0
                    rw [ej]
                    have hi4 : (i : Int) < (n3 : Int) := by omega
                    obtain ⟨y, hy⟩ : ∃ y : Int, y = nxt f k3 (j + 1) := ⟨_, rfl⟩
                    have HY := Lib.hid hy
                    have HNX := Lib.hid (next_as hst.out.2.2.2.2.1 (HE.out.after hst.out.2.2.2.2.2.2.2.2) ((j : Int) + 1) y (by rw [hy]; rfl))
                    have HN : Hid (∀ w', Below wr4.heap.size wr4 w' → R4Rel W B g C h O1 o1 O2 o2 O3 o3 O4 o4 k3 n3 c3 f f2 (some ad) (.int .i64 y) (.int .i64 ((i : Int) + 1)) w') := Lib.hid fun w' hb => by
                      obtain ⟨-, a1, a2, a3, a4, a5, a6, a7, a8⟩ := hst.out
                      exact ⟨i + 1, j + 1, by rw [HY.out], by simp, by omega, by omega, Lib.hid ⟨hlen, a1.after hb, a2.after hb, a3.after hb, a4.after hb, a5.after hb, a6.after hb, a7.later hb, keep_trans a8 hb⟩⟩
                    clear hst hc hS hg hlen ej hy
                    go_wp2_with fail
                    refine HNX.out.mono ?_
                    rintro e w5 ⟨rfl, hq⟩
                    have hq := Lib.hid hq
                    go_wp2
                    go_roundw
                    case rel => exact HN.out _ hq.out
                    case measure => simp [intOf]; omega
                  · have hin : i = n3 := by omega
                    subst hin
                    have ey : nxt f k3 d = -1 := lst_done hd hst.out.1 (by rw [← hn3.out]; exact Nat.le_refl _)
                    rw [ey]
                    obtain ⟨-, a1, a2, a3, a4, a5, a6, -, a8⟩ := hst.out
                    have so100 := Lib.hid a1
                    have sn100 := Lib.hid a2
                    have sm100 := Lib.hid a3
                    have sa100 := Lib.hid a4
                    have sb100 := Lib.hid a5
                    have sk100 := Lib.hid a6
                    have HB100 := Lib.hid a8
                    clear hst hi a1 a2 a3 a4 a5 a6 a8 ey hd
                    go_wp2_with fail
                    refine (or_any sm100.out sn100.out 0 f (by rw [if_pos rfl]) (by rw [if_pos rfl, minus_or_and])).mono ?_
                    rintro e w1100 ⟨rfl, hz, hw⟩
                    have so101 := Lib.hid (so100.out.far hw (by omega))
                    have sn101 := Lib.hid (sn100.out.far hw (by omega))
                    have sm101 := Lib.hid hz
                    have sa101 := Lib.hid (sa100.out.far hw (by omega))
                    have sb101 := Lib.hid (sb100.out.far hw (by omega))
                    have sk101 := Lib.hid (sk100.out.far hw (by omega))
                    have HB101 := Lib.hid (wr_below HB100.out hw ge_o3)
                    clear so100 sn100 sm100 sa100 sb100 sk100 HB100 hz hw
                    go_wp2_with fail
                    refine (same_any sk101.out sn101.out true (by simp [same_self])).mono ?_
                    rintro e w1101 ⟨rfl, q101⟩
                    have so102 := Lib.hid (so101.out.after q101)
                    have sn102 := Lib.hid (sn101.out.after q101)
                    have sm102 := Lib.hid (sm101.out.after q101)
                    have sa102 := Lib.hid (sa101.out.after q101)
                    have sb102 := Lib.hid (sb101.out.after q101)
                    have sk102 := Lib.hid (sk101.out.after q101)
                    have HB102 := Lib.hid (keep_trans HB101.out q101)
                    clear so101 sn101 sm101 sa101 sb101 sk101 HB101 q101
                    go_wp2_with fail
                    refine (same_any sm102.out sa102.out true (by simp [same_self])).mono ?_
                    rintro e w1102 ⟨rfl, q102⟩
                    have so103 := Lib.hid (so102.out.after q102)
                    have sn103 := Lib.hid (sn102.out.after q102)
                    have sm103 := Lib.hid (sm102.out.after q102)
                    have sa103 := Lib.hid (sa102.out.after q102)
                    have sb103 := Lib.hid (sb102.out.after q102)
                    have sk103 := Lib.hid (sk102.out.after q102)
                    have HB103 := Lib.hid (keep_trans HB102.out q102)
                    clear so102 sn102 sm102 sa102 sb102 sk102 HB102 q102
                    go_wp2_with fail
                    refine (or_any sa103.out sa103.out 0 f (by rw [if_pos rfl]) (by rw [if_pos rfl, or_self])).mono ?_
                    rintro e w1103 ⟨rfl, hz, hw⟩
                    have so104 := Lib.hid (so103.out.far hw (by omega))
                    have sn104 := Lib.hid (sn103.out.far hw (by omega))
                    have sm104 := Lib.hid (sm103.out.far hw (by omega))
                    have sa104 := Lib.hid hz
                    have sb104 := Lib.hid (sb103.out.far hw (by omega))
                    have sk104 := Lib.hid (sk103.out.far hw (by omega))
                    have HB104 := Lib.hid (wr_below HB103.out hw hgB)
                    clear so103 sn103 sm103 sa103 sb103 sk103 HB103 hz hw
                    go_wp2_with fail
                    refine (same_any sa104.out sm104.out true (by simp [same_self])).mono ?_
                    rintro e w1104 ⟨rfl, q104⟩
                    have so105 := Lib.hid (so104.out.after q104)
                    have sn105 := Lib.hid (sn104.out.after q104)
                    have sm105 := Lib.hid (sm104.out.after q104)
                    have sa105 := Lib.hid (sa104.out.after q104)
                    have sb105 := Lib.hid (sb104.out.after q104)
                    have sk105 := Lib.hid (sk104.out.after q104)
                    have HB105 := Lib.hid (keep_trans HB104.out q104)
                    clear so104 sn104 sm104 sa104 sb104 sk104 HB104 q104
                    go_wp2_with fail
                    refine (minus_any sa105.out sa105.out 0 fEmpty (by rw [if_pos rfl]) (by rw [if_pos rfl, minus_self])).mono ?_
                    rintro e w1105 ⟨rfl, hz, hw⟩
                    have so106 := Lib.hid (so105.out.far hw (by omega))
                    have sn106 := Lib.hid (sn105.out.far hw (by omega))
                    have sm106 := Lib.hid (sm105.out.far hw (by omega))
                    have sa106 := Lib.hid hz
                    have sb106 := Lib.hid (sb105.out.far hw (by omega))
                    have sk106 := Lib.hid (sk105.out.far hw (by omega))
                    have HB106 := Lib.hid (wr_below HB105.out hw hgB)
                    clear so105 sn105 sm105 sa105 sb105 sk105 HB105 hz hw
                    go_wp2_with fail
                    refine (count_as sa106.out 0 (cnt_empty _).symm).mono ?_
                    rintro e w1106 ⟨rfl, q106⟩
                    have so107 := Lib.hid (so106.out.after q106)
                    have sn107 := Lib.hid (sn106.out.after q106)
                    have sm107 := Lib.hid (sm106.out.after q106)
                    have sa107 := Lib.hid (sa106.out.after q106)
                    have sb107 := Lib.hid (sb106.out.after q106)
                    have sk107 := Lib.hid (sk106.out.after q106)
                    have HB107 := Lib.hid (keep_trans HB106.out q106)
                    clear so106 sn106 sm106 sa106 sb106 sk106 HB106 q106
                    go_wp2
                    go_ret
                    exact ⟨rfl, HB107.out⟩
end Go.Proofs.YtffphlbbophjfaaDoor.Bs
