/- The law BitsetSpreads, walked: at any width and any rows, at every world in which the library's table lies, it answers true. -/
import Derived.Test.YtffphlbbophjfaaDoorBitPtrs
import Derived.Deep.RegionHeld3
namespace Go.Proofs.YtffphlbbophjfaaDoor.Bs
open Go.ChangeShapes Go.WideShapes Go.ChangeAt Go.RowKit
set_option linter.unusedVariables false

def InK3 (zs : List Int) : Prop := ∀ x ∈ zs, -9223372036854775808 ≤ x ∧ x ≤ 9223372036854775807
theorem InK3.at_ {zs : List Int} (h : InK3 zs) {k : Nat} (hk : k < zs.length) : -9223372036854775808 ≤ zs.getD k 0 ∧ zs.getD k 0 ≤ 9223372036854775807 :=
  h _ (by rw [List.getD_eq_getElem?_getD, List.getElem?_eq_getElem hk]; exact List.getElem_mem hk)
/-- one set is filled, all else stands -/
def SpRel (P : World → Prop) (B g N len : Nat) (v : Value) (wr : World) : Prop :=
  ∃ (k : Nat) (f : Fs), v = .int .i64 k ∧ k ≤ len ∧ Hid (SetAt wr B g N f ∧ P wr)
theorem sp_and (f a b : Fs) : fAnd f (fOr a b) = fOr (fAnd f a) (fAnd f b) := by funext i; simp only [fAnd, fOr]; cases f i <;> cases a i <;> cases b i <;> rfl
theorem sp_minus (f a b : Fs) : fMinus f (fOr a b) = fMinus (fMinus f a) b := by funext i; simp only [fMinus, fOr]; cases f i <;> cases a i <;> cases b i <;> rfl
theorem sp_back (f a : Fs) : fOr (fAnd f a) (fMinus f a) = f := by funext i; simp only [fAnd, fOr, fMinus]; cases f i <;> cases a i <;> rfl
theorem sp_cnt (f a : Fs) (n : Nat) : cnt (fAnd f a) n + cnt (fMinus f a) n = cnt f n := by have := cnt_minus_and f a n; omega
theorem and_as (f g r : Fs) (h : fAnd f g = r) (n : Nat) : r = if n = n then fAnd f g else f := by rw [if_pos rfl, h]

set_option maxHeartbeats 16000000 in
set_option maxRecDepth 100000 in
theorem spreads_all (W : World) (hE : Env W) (n : Int) (bn : -9223372036854775808 ≤ n ∧ n ≤ 9223372036854775807) (A1 A2 A3 : Option Addr) (l1 c1 l2 c2 l3 c3 : Nat) (zs1 zs2 zs3 : List Int)
    (hl1 : Hid (l1 = zs1.length)) (hr1 : Rd W (· < W.heap.size) A1 (ic zs1)) (hb1 : InK3 zs1) (hl2 : Hid (l2 = zs2.length)) (hr2 : Rd W (· < W.heap.size) A2 (ic zs2)) (hb2 : InK3 zs2) (hl3 : Hid (l3 = zs3.length)) (hr3 : Rd W (· < W.heap.size) A3 (ic zs3)) (hb3 : InK3 zs3) :
    Calls Tryd.prog 7 #[.int .i64 n, .slice A1 l1 c1, .slice A2 l2 c2, .slice A3 l3 c3] W (BoolPost W true) := by
  have HE := Lib.hid hE
  have HQ1 := Lib.hid hr1
  have HQ2 := Lib.hid hr2
  have HQ3 := Lib.hid hr3
  have HB1a := Lib.hid hb1
  have HB2a := Lib.hid hb2
  have HB3a := Lib.hid hb3
  have HBN := Lib.hid bn
  clear hE hr1 hr2 hr3 hb1 hb2 hb3 bn
  by_cases hs1 : 150 < l1
  · go_enter Tryd.func7, Tryd.ntmps7
    go_wp2_with fail
    refine (lives_any _ HE.out).mono ?_
    rintro e w1 ⟨rfl, hb1⟩
    have hb1 := Lib.hid hb1
    go_wp2
    go_ret
    exact ⟨rfl, hb1.out⟩
  by_cases hs2 : 150 < l2
  · go_enter Tryd.func7, Tryd.ntmps7
    go_wp2_with fail
    refine (lives_any _ HE.out).mono ?_
    rintro e w1 ⟨rfl, hb1⟩
    have hb1 := Lib.hid hb1
    go_wp2
    go_ret
    exact ⟨rfl, hb1.out⟩
  by_cases hs3 : 150 < l3
  · go_enter Tryd.func7, Tryd.ntmps7
    go_wp2_with fail
    refine (lives_any _ HE.out).mono ?_
    rintro e w1 ⟨rfl, hb1⟩
    have hb1 := Lib.hid hb1
    go_wp2
    go_ret
    exact ⟨rfl, hb1.out⟩
  go_enter Tryd.func7, Tryd.ntmps7
  go_wp2_with fail
  refine (lives_any _ HE.out).mono ?_
  rintro e w1 ⟨rfl, hb1⟩
  have hb1 := Lib.hid hb1
  go_wp2_with fail
  refine (pick_any n 300 w1 HBN.out.1 HBN.out.2 (by omega) (by omega)).mono ?_
  rintro e w2 ⟨N0, rfl, hN, rfl⟩
  have hN0 : N0 < 300 := by have := hN.out; omega
  clear hN
  obtain ⟨N, hNN⟩ : ∃ N, N = 1 + N0 := ⟨_, rfl⟩
  have eN : (1 : Int) + (N0 : Int) = (N : Int) := by omega
  have hN1 : 1 ≤ N := by omega
  have hN2 : N ≤ 300 := by omega
  clear hNN hN0
  have HR0 : Hid (Fix (w1.alloc (.cells #[.slice A1 l1 c1, .slice A2 l2 c2, .slice A3 l3 c3] 44)) w1.heap.size 44 [.slice A1 l1 c1, .slice A2 l2 c2, .slice A3 l3 c3]) := Lib.hid ⟨Blk.new w1 44 [.slice A1 l1 c1, .slice A2 l2 c2, .slice A3 l3 c3], by decide⟩
  have HB0 : Hid (Below W.heap.size W (w1.alloc (.cells #[.slice A1 l1 c1, .slice A2 l2 c2, .slice A3 l3 c3] 44))) := Lib.hid (keep_alloc hb1.out _)
  have HO0 : Hid ((w1.alloc (.cells #[.slice A1 l1 c1, .slice A2 l2 c2, .slice A3 l3 c3] 44)).ownsRow W.heap.size 22 1 (.slice none 0 0) 0 []) := Lib.hid (World.ownsRow_nil _ _ _ _)
  clear hb1
  go_wp2
  refine wp_loop_rounds 4 ?_
  rw [rounds_succ]
  go_wp2_with fail
  refine (new_any N _ (by omega)).mono ?_
  rintro e wn0 ⟨B0, g0, rfl, hO, ho, hz, hq⟩
  have ge_g0 : W.heap.size ≤ g0 := Nat.le_trans HB0.out.size ho
  obtain ⟨P, hP⟩ : ∃ P : World → Prop, P = (fun w => Fix w w1.heap.size 44 [.slice A1 l1 c1, .slice A2 l2 c2, .slice A3 l3 c3] ∧ Below W.heap.size W w ∧ w.ownsRow W.heap.size 22 1 (.slice none 0 0) 0 []) := ⟨_, rfl⟩
  have HP := Lib.hid hP
  have HPW : Hid (∀ w w', P w → Wr 61 g0 w w' → P w') := Lib.hid fun w w' h hw => by
    rw [hP] at h ⊢
    obtain ⟨h1, h2, h3⟩ := h
    exact ⟨h1.far hw, Wr.below h2 hw h2.size ge_g0, own_wr h3 hw (by decide)⟩
  have HPF : Hid (∀ w, P w → w.cell? ⟨w1.heap.size, 0, none⟩ = some (.slice A1 l1 c1)) := Lib.hid fun w h => by rw [hP] at h; exact h.1.at_ 0 _ rfl
  have HPB : Hid (∀ w, P w → Below W.heap.size W w) := Lib.hid fun w h => by rw [hP] at h; exact h.2.1
  have HI : Hid (SpRel P B0 g0 N l1 (.int .i64 0) wn0) := Lib.hid ⟨0, fEmpty, rfl, by omega, Lib.hid ⟨hz, by
    rw [hP]
    exact ⟨HR0.out.after hq, keep_trans HB0.out hq, own_after HO0.out hq⟩⟩⟩
  clear hP hz hq hO ho HR0 HB0 HO0
  have c0 := HPF.out wn0 HI.out.choose_spec.choose_spec.2.2.out.2
  go_wp2
  clear c0
  go_loopw [14] (fun v wr => SpRel P B0 g0 N l1 v wr) (fun v _ => l1 - (intOf v).toNat)
  case atStart => exact HI.out
  case round =>
    obtain ⟨k, f0, rfl, hk, hst⟩ := hrel
    clear HI
    have c0 := HPF.out _ hst.out.2
    by_cases hlt : k < l1
    · have hkz : k < zs1.length := by rw [← hl1.out]; exact hlt
      obtain ⟨ad, rfl, hS, hc⟩ := (HQ1.out.below2 (HPB.out _ hst.out.2)).at_ (k := k) hkz
      have hx0 := hc k hkz
      have HXB := Lib.hid (HB1a.out.at_ hkz)
      obtain ⟨x, hx⟩ : ∃ x, x = zs1.getD k 0 := ⟨_, rfl⟩
      rw [← hx] at hx0 HXB
      have hjN : pk x N < N := by have := pk_lt (k := x) (m := N) (by omega); omega
      obtain ⟨j, hj⟩ : ∃ j, j = pk x N := ⟨_, rfl⟩
      have PK : Hid (∀ w, Calls Tryd.prog 19 #[.int .i64 x, .int .i64 N] w (PkPost j w)) := Lib.hid fun w => by rw [hj]; exact pick_eq x N w HXB.out.1 HXB.out.2 (by omega) (by omega)
      rw [← hj] at hjN
      have P1 := Lib.hid (put_any hst.out.1 (j : Int) (!f0 j) 0 (fPut f0 j) (by rw [if_pos (by omega)]; rfl) (by rw [if_pos (by omega)]) (by rw [if_pos (by omega)]; rfl))
      clear hc hS hx hkz hj HXB
      go_wp2_with fail
      refine (PK.out _).mono ?_
      rintro e w5 ⟨rfl, rfl⟩
      go_wp2_with fail
      refine P1.out.mono ?_
      rintro e w5 ⟨rfl, hs5, hw5⟩
      have HN : Hid (SpRel P B0 g0 N l1 (.int .i64 ((k : Int) + 1)) w5) := Lib.hid ⟨k + 1, _, by simp, by omega, Lib.hid ⟨hs5, HPW.out _ _ hst.out.2 hw5⟩⟩
      clear hst hs5 hw5 P1 hx0 c0
      go_wp2
      go_roundw
      case rel => exact HN.out
      case measure => simp [intOf]; omega
    · have hst2 := hst.out.2
      rw [HP.out] at hst2
      obtain ⟨h1, h2, h3⟩ := hst2
      have hs := hst.out.1
      have HO := Lib.hid h3
      have HSZ := h2.size
      rename World => wr0
      have HNX : Hid (∀ w' o, (wr0.alloc o).grownBy w' (.slice none 0 0 : Value).ownBlock → Fix w' w1.heap.size 44 [.slice A1 l1 c1, .slice A2 l2 c2, .slice A3 l3 c3] ∧ Below W.heap.size W w' ∧ SetAt w' B0 g0 N f0) := Lib.hid fun w' o hg =>
        ⟨h1.own (by decide) h3 hg, (keep_alloc h2 o |> fun x => x.grown hg (by have := h2.size; simp; omega) (fun g hv => (h3.lt g hv).1)), hs.own h3 hg⟩
      clear hst h1 h2 h3 hs HPW HPF HPB HP hk
      go_wp2_with (at_builtin; refine wpList_append_val rfl (.tmp 79) (.tmp 81) 54 22 (.pointer none) rfl Tryd.underlying54 info_ptr rfl W.heap.size (.slice none 0 0) 0 [] (.pointer (some ⟨B0, 0, none⟩)) rfl rfl rfl HO (by omega) HSZ ?_; intro V1 wa0 hoa hga)
      obtain ⟨hr, hb, hs⟩ := HNX.out wa0 _ hga.out
      have HR1 := Lib.hid hr
      have HB1 := Lib.hid hb
      have HO1 := hoa
      have s0x1 := Lib.hid hs
      clear HNX hga hoa hr hb hs HO HSZ
      rw [rounds_succ]
      go_wp2_with fail
      refine (new_any N _ (by omega)).mono ?_
      rintro e wn1 ⟨B1, g1, rfl, hO, ho, hz, hq⟩
      have lt_g1 : g0 < g1 := by have := s0x1.out.lt; omega
      have ge_g1 : W.heap.size ≤ g1 := Nat.le_trans HB1.out.size ho
      obtain ⟨P, hP⟩ : ∃ P : World → Prop, P = (fun w => Fix w w1.heap.size 44 [.slice A1 l1 c1, .slice A2 l2 c2, .slice A3 l3 c3] ∧ Below W.heap.size W w ∧ w.ownsRow W.heap.size 22 1 V1 1 [.pointer (some ⟨B0, 0, none⟩)] ∧ SetAt w B0 g0 N f0) := ⟨_, rfl⟩
      have HP := Lib.hid hP
      have HPW : Hid (∀ w w', P w → Wr 61 g1 w w' → P w') := Lib.hid fun w w' h hw => by
        rw [hP] at h ⊢
        obtain ⟨h1, h2, h3, k0⟩ := h
        exact ⟨h1.far hw, Wr.below h2 hw h2.size ge_g1, own_wr h3 hw (by decide), k0.far hw (by omega)⟩
      have HPF : Hid (∀ w, P w → w.cell? ⟨w1.heap.size, 1, none⟩ = some (.slice A2 l2 c2)) := Lib.hid fun w h => by rw [hP] at h; exact h.1.at_ 1 _ rfl
      have HPB : Hid (∀ w, P w → Below W.heap.size W w) := Lib.hid fun w h => by rw [hP] at h; exact h.2.1
      have HI : Hid (SpRel P B1 g1 N l2 (.int .i64 0) wn1) := Lib.hid ⟨0, fEmpty, rfl, by omega, Lib.hid ⟨hz, by
        rw [hP]
        exact ⟨HR1.out.after hq, keep_trans HB1.out hq, own_after HO1.out hq, s0x1.out.after hq⟩⟩⟩
      clear hP hz hq hO ho HR1 HB1 HO1 s0x1
      have c0 := HPF.out wn1 HI.out.choose_spec.choose_spec.2.2.out.2
      go_wp2
      clear c0
      go_loopw [14] (fun v wr => SpRel P B1 g1 N l2 v wr) (fun v _ => l2 - (intOf v).toNat)
      case atStart => exact HI.out
      case round =>
        obtain ⟨k, f1, rfl, hk, hst⟩ := hrel
        clear HI
        have c0 := HPF.out _ hst.out.2
        by_cases hlt : k < l2
        · have hkz : k < zs2.length := by rw [← hl2.out]; exact hlt
          obtain ⟨ad, rfl, hS, hc⟩ := (HQ2.out.below2 (HPB.out _ hst.out.2)).at_ (k := k) hkz
          have hx0 := hc k hkz
          have HXB := Lib.hid (HB2a.out.at_ hkz)
          obtain ⟨x, hx⟩ : ∃ x, x = zs2.getD k 0 := ⟨_, rfl⟩
          rw [← hx] at hx0 HXB
          have hjN : pk x N < N := by have := pk_lt (k := x) (m := N) (by omega); omega
          obtain ⟨j, hj⟩ : ∃ j, j = pk x N := ⟨_, rfl⟩
          have PK : Hid (∀ w, Calls Tryd.prog 19 #[.int .i64 x, .int .i64 N] w (PkPost j w)) := Lib.hid fun w => by rw [hj]; exact pick_eq x N w HXB.out.1 HXB.out.2 (by omega) (by omega)
          rw [← hj] at hjN
          have P1 := Lib.hid (put_any hst.out.1 (j : Int) (!f1 j) 0 (fPut f1 j) (by rw [if_pos (by omega)]; rfl) (by rw [if_pos (by omega)]) (by rw [if_pos (by omega)]; rfl))
          clear hc hS hx hkz hj HXB
          go_wp2_with fail
          refine (PK.out _).mono ?_
          rintro e w5 ⟨rfl, rfl⟩
          go_wp2_with fail
          refine P1.out.mono ?_
          rintro e w5 ⟨rfl, hs5, hw5⟩
          have HN : Hid (SpRel P B1 g1 N l2 (.int .i64 ((k : Int) + 1)) w5) := Lib.hid ⟨k + 1, _, by simp, by omega, Lib.hid ⟨hs5, HPW.out _ _ hst.out.2 hw5⟩⟩
          clear hst hs5 hw5 P1 hx0 c0
          go_wp2
          go_roundw
          case rel => exact HN.out
          case measure => simp [intOf]; omega
        · have hst2 := hst.out.2
          rw [HP.out] at hst2
          obtain ⟨h1, h2, h3, k0⟩ := hst2
          have hs := hst.out.1
          have HO := Lib.hid h3
          have HSZ := h2.size
          rename World => wr1
          have HNX : Hid (∀ w' o, (wr1.alloc o).grownBy w' (V1 : Value).ownBlock → Fix w' w1.heap.size 44 [.slice A1 l1 c1, .slice A2 l2 c2, .slice A3 l3 c3] ∧ Below W.heap.size W w' ∧ SetAt w' B1 g1 N f1 ∧ SetAt w' B0 g0 N f0) := Lib.hid fun w' o hg =>
            ⟨h1.own (by decide) h3 hg, (keep_alloc h2 o |> fun x => x.grown hg (by have := h2.size; simp; omega) (fun g hv => (h3.lt g hv).1)), hs.own h3 hg, k0.own h3 hg⟩
          clear hst h1 h2 h3 hs HPW HPF HPB HP hk k0
          go_wp2_with (at_builtin; refine wpList_append_val rfl (.tmp 79) (.tmp 81) 54 22 (.pointer none) rfl Tryd.underlying54 info_ptr rfl W.heap.size V1 1 [.pointer (some ⟨B0, 0, none⟩)] (.pointer (some ⟨B1, 0, none⟩)) rfl rfl rfl HO (by omega) HSZ ?_; intro V2 wa1 hoa hga)
          obtain ⟨hr, hb, hs, k0⟩ := HNX.out wa1 _ hga.out
          have HR2 := Lib.hid hr
          have HB2 := Lib.hid hb
          have HO2 := hoa
          have s1x2 := Lib.hid hs
          have s0x2 := Lib.hid k0
          clear HNX hga hoa hr hb hs HO HSZ k0
          rw [rounds_succ]
          go_wp2_with fail
          refine (new_any N _ (by omega)).mono ?_
          rintro e wn2 ⟨B2, g2, rfl, hO, ho, hz, hq⟩
          have lt_g2 : g1 < g2 := by have := s1x2.out.lt; omega
          have ge_g2 : W.heap.size ≤ g2 := Nat.le_trans HB2.out.size ho
          obtain ⟨P, hP⟩ : ∃ P : World → Prop, P = (fun w => Fix w w1.heap.size 44 [.slice A1 l1 c1, .slice A2 l2 c2, .slice A3 l3 c3] ∧ Below W.heap.size W w ∧ w.ownsRow W.heap.size 22 1 V2 2 [.pointer (some ⟨B0, 0, none⟩), .pointer (some ⟨B1, 0, none⟩)] ∧ SetAt w B0 g0 N f0 ∧ SetAt w B1 g1 N f1) := ⟨_, rfl⟩
          have HP := Lib.hid hP
          have HPW : Hid (∀ w w', P w → Wr 61 g2 w w' → P w') := Lib.hid fun w w' h hw => by
            rw [hP] at h ⊢
            obtain ⟨h1, h2, h3, k0, k1⟩ := h
            exact ⟨h1.far hw, Wr.below h2 hw h2.size ge_g2, own_wr h3 hw (by decide), k0.far hw (by omega), k1.far hw (by omega)⟩
          have HPF : Hid (∀ w, P w → w.cell? ⟨w1.heap.size, 2, none⟩ = some (.slice A3 l3 c3)) := Lib.hid fun w h => by rw [hP] at h; exact h.1.at_ 2 _ rfl
          have HPB : Hid (∀ w, P w → Below W.heap.size W w) := Lib.hid fun w h => by rw [hP] at h; exact h.2.1
          have HI : Hid (SpRel P B2 g2 N l3 (.int .i64 0) wn2) := Lib.hid ⟨0, fEmpty, rfl, by omega, Lib.hid ⟨hz, by
            rw [hP]
            exact ⟨HR2.out.after hq, keep_trans HB2.out hq, own_after HO2.out hq, s0x2.out.after hq, s1x2.out.after hq⟩⟩⟩
          clear hP hz hq hO ho HR2 HB2 HO2 s0x2 s1x2
          have c0 := HPF.out wn2 HI.out.choose_spec.choose_spec.2.2.out.2
          go_wp2
          clear c0
          go_loopw [14] (fun v wr => SpRel P B2 g2 N l3 v wr) (fun v _ => l3 - (intOf v).toNat)
          case atStart => exact HI.out
          case round =>
            obtain ⟨k, f2, rfl, hk, hst⟩ := hrel
            clear HI
            have c0 := HPF.out _ hst.out.2
            by_cases hlt : k < l3
            · have hkz : k < zs3.length := by rw [← hl3.out]; exact hlt
              obtain ⟨ad, rfl, hS, hc⟩ := (HQ3.out.below2 (HPB.out _ hst.out.2)).at_ (k := k) hkz
              have hx0 := hc k hkz
              have HXB := Lib.hid (HB3a.out.at_ hkz)
              obtain ⟨x, hx⟩ : ∃ x, x = zs3.getD k 0 := ⟨_, rfl⟩
              rw [← hx] at hx0 HXB
              have hjN : pk x N < N := by have := pk_lt (k := x) (m := N) (by omega); omega
              obtain ⟨j, hj⟩ : ∃ j, j = pk x N := ⟨_, rfl⟩
              have PK : Hid (∀ w, Calls Tryd.prog 19 #[.int .i64 x, .int .i64 N] w (PkPost j w)) := Lib.hid fun w => by rw [hj]; exact pick_eq x N w HXB.out.1 HXB.out.2 (by omega) (by omega)
              rw [← hj] at hjN
              have P1 := Lib.hid (put_any hst.out.1 (j : Int) (!f2 j) 0 (fPut f2 j) (by rw [if_pos (by omega)]; rfl) (by rw [if_pos (by omega)]) (by rw [if_pos (by omega)]; rfl))
              clear hc hS hx hkz hj HXB
              go_wp2_with fail
              refine (PK.out _).mono ?_
              rintro e w5 ⟨rfl, rfl⟩
              go_wp2_with fail
              refine P1.out.mono ?_
              rintro e w5 ⟨rfl, hs5, hw5⟩
              have HN : Hid (SpRel P B2 g2 N l3 (.int .i64 ((k : Int) + 1)) w5) := Lib.hid ⟨k + 1, _, by simp, by omega, Lib.hid ⟨hs5, HPW.out _ _ hst.out.2 hw5⟩⟩
              clear hst hs5 hw5 P1 hx0 c0
              go_wp2
              go_roundw
              case rel => exact HN.out
              case measure => simp [intOf]; omega
            · have hst2 := hst.out.2
              rw [HP.out] at hst2
              obtain ⟨h1, h2, h3, k0, k1⟩ := hst2
              have hs := hst.out.1
              have HO := Lib.hid h3
              have HSZ := h2.size
              rename World => wr2
              have HNX : Hid (∀ w' o, (wr2.alloc o).grownBy w' (V2 : Value).ownBlock → Fix w' w1.heap.size 44 [.slice A1 l1 c1, .slice A2 l2 c2, .slice A3 l3 c3] ∧ Below W.heap.size W w' ∧ SetAt w' B2 g2 N f2 ∧ SetAt w' B0 g0 N f0 ∧ SetAt w' B1 g1 N f1) := Lib.hid fun w' o hg =>
                ⟨h1.own (by decide) h3 hg, (keep_alloc h2 o |> fun x => x.grown hg (by have := h2.size; simp; omega) (fun g hv => (h3.lt g hv).1)), hs.own h3 hg, k0.own h3 hg, k1.own h3 hg⟩
              clear hst h1 h2 h3 hs HPW HPF HPB HP hk k0 k1
              go_wp2_with (at_builtin; refine wpList_append_val rfl (.tmp 79) (.tmp 81) 54 22 (.pointer none) rfl Tryd.underlying54 info_ptr rfl W.heap.size V2 2 [.pointer (some ⟨B0, 0, none⟩), .pointer (some ⟨B1, 0, none⟩)] (.pointer (some ⟨B2, 0, none⟩)) rfl rfl rfl HO (by omega) HSZ ?_; intro V3 wa2 hoa hga)
              obtain ⟨hr, hb, hs, k0, k1⟩ := HNX.out wa2 _ hga.out
              have HR3 := Lib.hid hr
              have HB3 := Lib.hid hb
              have HO3 := hoa
              have s2x3 := Lib.hid hs
              have s0x3 := Lib.hid k0
              have s1x3 := Lib.hid k1
              clear HNX hga hoa hr hb hs HO HSZ k0 k1
              rw [rounds_succ]
              obtain ⟨sb, cs, ls, rfl, hfx, hat⟩ := own_fix HO3.out (by omega)
              have p0 : ls[0]? = some (.pointer (some ⟨B0, 0, none⟩)) := by rw [hat 0 (by omega)]; rfl
              have p1 : ls[1]? = some (.pointer (some ⟨B1, 0, none⟩)) := by rw [hat 1 (by omega)]; rfl
              have p2 : ls[2]? = some (.pointer (some ⟨B2, 0, none⟩)) := by rw [hat 2 (by omega)]; rfl
              have p0 := Lib.hid p0
              have p1 := Lib.hid p1
              have p2 := Lib.hid p2
              have fx3 := Lib.hid hfx
              clear hfx hat HO3 HR3 hs1 hs2 hs3 HQ1 HQ2 HQ3 HB1a HB2a HB3a HBN eN hN1
              have c1 := fx3.out.at_ 1 _ p1.out
              go_wp2_with fail
              refine (clone_any s1x3.out).mono ?_
              rintro e w1003 ⟨E, e, rfl, hO, ho, hz, hq⟩
              have lt_e : g2 < e := by have := s2x3.out.lt; omega
              have ge_e : W.heap.size ≤ e := Nat.le_trans HB3.out.size ho
              have hz := Lib.hid hz
              have s0x4 := Lib.hid (s0x3.out.after hq)
              have s1x4 := Lib.hid (s1x3.out.after hq)
              have s2x4 := Lib.hid (s2x3.out.after hq)
              have fx4 := Lib.hid (fx3.out.after hq)
              have HB4 := Lib.hid (keep_trans HB3.out hq)
              clear s0x3 s1x3 s2x3 fx3 HB3 hq hO ho
              have se4 := hz
              clear hz
              clear c1
              have c2 := fx4.out.at_ 2 _ p2.out
              go_wp2_with fail
              refine (or_any se4.out s2x4.out 0 (fOr f1 f2) (by rw [if_pos rfl]) (by rw [if_pos rfl])).mono ?_
              rintro e w1004 ⟨rfl, hz, hw⟩
              have s0x5 := Lib.hid (s0x4.out.far hw (by omega))
              have s1x5 := Lib.hid (s1x4.out.far hw (by omega))
              have s2x5 := Lib.hid (s2x4.out.far hw (by omega))
              have se5 := Lib.hid hz
              have fx5 := Lib.hid (fx4.out.far hw)
              have HB5 := Lib.hid (wr_below HB4.out hw ge_e)
              clear s0x4 s1x4 s2x4 se4 fx4 HB4 hz hw
              clear c2
              have KC : Hid (∀ w', Below w1004.heap.size w1004 w' → w'.cell? ⟨sb, 0, none⟩ = some (.pointer (some ⟨B0, 0, none⟩))) := Lib.hid fun w' hb => (fx5.out.after hb).at_ 0 _ p0.out
              have CL : Hid (∀ w', Below w1004.heap.size w1004 w' → Calls Tryd.prog 29 #[.pointer (some ⟨B0, 0, none⟩)] w' (NewPost w' N f0 fun p => p)) := Lib.hid fun w' hb => clone_any (s0x5.out.after hb)
              go_wp2_with fail
              go_region_held3 (fun w' => w'.cell? ⟨sb, 0, none⟩ = some (.pointer (some ⟨B0, 0, none⟩))) (first | exact KC.out _ Q3.out | exact KC.out _ Q2.out | exact KC.out _ Q1.out | exact KC.out _ (below_drew (Below.refl _ _)) | exact KC.out _ (below_drewN (Below.refl _ _) _) | go_keep) (first | (go_at_call 29; refine (CL.out _ Q2.out).mono ?_; rintro e wc3 ⟨Oc, oc, rfl, hO3, ho3, hz3, hq3⟩; have Q3 := Lib.hid (keep_trans Q2.out hq3); have hz3 := Lib.hid hz3; have hq3 := Lib.hid hq3) | (go_at_call 29; refine (CL.out _ Q1.out).mono ?_; rintro e wc2 ⟨Ob, ob, rfl, hO2, ho2, hz2, hq2⟩; have Q2 := Lib.hid (keep_trans Q1.out hq2); have hz2 := Lib.hid hz2; have hq2 := Lib.hid hq2) | (go_at_call 29; refine (CL.out _ (by first | exact below_drew (Below.refl _ _) | exact below_drewN (Below.refl _ _) _ | exact Below.refl _ _)).mono ?_; rintro e wc1 ⟨Oa, oa, rfl, hO1, ho1, hz1, hq1⟩; have Q1 := Lib.hid (keep_trans (show Below w1004.heap.size w1004 _ from by first | exact below_drew (Below.refl _ _) | exact below_drewN (Below.refl _ _) _ | exact Below.refl _ _) hq1); have hz1 := Lib.hid hz1; have hq1 := Lib.hid hq1))
              have ge1 : w1004.heap.size ≤ oa := ho1
              have lt_oa : e < oa := by have := se5.out.lt; omega
              have ge_oa : W.heap.size ≤ oa := Nat.le_trans HB5.out.size ge1
              have lt_ob : oa < ob := by have := hz1.out.lt; omega
              have ge_ob : W.heap.size ≤ ob := by omega
              have lt_oc : ob < oc := by have := hz2.out.lt; omega
              have ge_oc : W.heap.size ≤ oc := by omega
              clear ge1
              have ta6 := Lib.hid ((hz1.out.after hq2.out).after hq3.out)
              have tb6 := Lib.hid (hz2.out.after hq3.out)
              have tc6 := Lib.hid hz3.out
              have s0x6 := Lib.hid (s0x5.out.after Q3.out)
              have s1x6 := Lib.hid (s1x5.out.after Q3.out)
              have s2x6 := Lib.hid (s2x5.out.after Q3.out)
              have se6 := Lib.hid (se5.out.after Q3.out)
              have fx6 := Lib.hid (fx5.out.after Q3.out)
              have HB6 := Lib.hid (keep_trans HB5.out Q3.out)
              clear s0x5 s1x5 s2x5 se5 fx5 HB5 KC CL Q1 hz1 hq1 hO1 ho1 Q2 hz2 hq2 hO2 ho2 Q3 hz3 hq3 hO3 ho3
              go_wp2_with fail
              refine (and_any ta6.out se6.out 0 (fAnd f0 (fOr f1 f2)) (by rw [if_pos rfl]) (by rw [if_pos rfl])).mono ?_
              rintro e w1006 ⟨rfl, hz, hw⟩
              have s0x7 := Lib.hid (s0x6.out.far hw (by omega))
              have s1x7 := Lib.hid (s1x6.out.far hw (by omega))
              have s2x7 := Lib.hid (s2x6.out.far hw (by omega))
              have se7 := Lib.hid (se6.out.far hw (by omega))
              have ta7 := Lib.hid hz
              have tb7 := Lib.hid (tb6.out.far hw (by omega))
              have tc7 := Lib.hid (tc6.out.far hw (by omega))
              have fx7 := Lib.hid (fx6.out.far hw)
              have HB7 := Lib.hid (wr_below HB6.out hw ge_oa)
              clear s0x6 s1x6 s2x6 se6 ta6 tb6 tc6 fx6 HB6 hz hw
              have c1 := fx7.out.at_ 1 _ p1.out
              go_wp2_with fail
              refine (and_any tb7.out s1x7.out 0 (fAnd f0 f1) (by rw [if_pos rfl]) (by rw [if_pos rfl])).mono ?_
              rintro e w1007 ⟨rfl, hz, hw⟩
              have s0x8 := Lib.hid (s0x7.out.far hw (by omega))
              have s1x8 := Lib.hid (s1x7.out.far hw (by omega))
              have s2x8 := Lib.hid (s2x7.out.far hw (by omega))
              have se8 := Lib.hid (se7.out.far hw (by omega))
              have ta8 := Lib.hid (ta7.out.far hw (by omega))
              have tb8 := Lib.hid hz
              have tc8 := Lib.hid (tc7.out.far hw (by omega))
              have fx8 := Lib.hid (fx7.out.far hw)
              have HB8 := Lib.hid (wr_below HB7.out hw ge_ob)
              clear s0x7 s1x7 s2x7 se7 ta7 tb7 tc7 fx7 HB7 hz hw
              clear c1
              have c2 := fx8.out.at_ 2 _ p2.out
              go_wp2_with fail
              refine (and_any tc8.out s2x8.out 0 (fAnd f0 f2) (by rw [if_pos rfl]) (by rw [if_pos rfl])).mono ?_
              rintro e w1008 ⟨rfl, hz, hw⟩
              have s0x9 := Lib.hid (s0x8.out.far hw (by omega))
              have s1x9 := Lib.hid (s1x8.out.far hw (by omega))
              have s2x9 := Lib.hid (s2x8.out.far hw (by omega))
              have se9 := Lib.hid (se8.out.far hw (by omega))
              have ta9 := Lib.hid (ta8.out.far hw (by omega))
              have tb9 := Lib.hid (tb8.out.far hw (by omega))
              have tc9 := Lib.hid hz
              have fx9 := Lib.hid (fx8.out.far hw)
              have HB9 := Lib.hid (wr_below HB8.out hw ge_oc)
              clear s0x8 s1x8 s2x8 se8 ta8 tb8 tc8 fx8 HB8 hz hw
              clear c2
              go_wp2_with fail
              refine (or_any tb9.out tc9.out 0 (fAnd f0 (fOr f1 f2)) (by rw [if_pos rfl]) (by rw [if_pos rfl, sp_and])).mono ?_
              rintro e w1009 ⟨rfl, hz, hw⟩
              have s0x10 := Lib.hid (s0x9.out.far hw (by omega))
              have s1x10 := Lib.hid (s1x9.out.far hw (by omega))
              have s2x10 := Lib.hid (s2x9.out.far hw (by omega))
              have se10 := Lib.hid (se9.out.far hw (by omega))
              have ta10 := Lib.hid (ta9.out.far hw (by omega))
              have tb10 := Lib.hid hz
              have tc10 := Lib.hid (tc9.out.far hw (by omega))
              have fx10 := Lib.hid (fx9.out.far hw)
              have HB10 := Lib.hid (wr_below HB9.out hw ge_ob)
              clear s0x9 s1x9 s2x9 se9 ta9 tb9 tc9 fx9 HB9 hz hw
              have KC : Hid (∀ w', Below w1009.heap.size w1009 w' → w'.cell? ⟨sb, 0, none⟩ = some (.pointer (some ⟨B0, 0, none⟩))) := Lib.hid fun w' hb => (fx10.out.after hb).at_ 0 _ p0.out
              have CL : Hid (∀ w', Below w1009.heap.size w1009 w' → Calls Tryd.prog 29 #[.pointer (some ⟨B0, 0, none⟩)] w' (NewPost w' N f0 fun p => p)) := Lib.hid fun w' hb => clone_any (s0x10.out.after hb)
              go_wp2_with fail
              go_region_held3 (fun w' => w'.cell? ⟨sb, 0, none⟩ = some (.pointer (some ⟨B0, 0, none⟩))) (first | exact KC.out _ Q2.out | exact KC.out _ Q1.out | exact KC.out _ (below_drew (Below.refl _ _)) | exact KC.out _ (below_drewN (Below.refl _ _) _) | go_keep) (first | (go_at_call 29; refine (CL.out _ Q1.out).mono ?_; rintro e wc2 ⟨Of, of_, rfl, hO2, ho2, hz2, hq2⟩; have Q2 := Lib.hid (keep_trans Q1.out hq2); have hz2 := Lib.hid hz2; have hq2 := Lib.hid hq2) | (go_at_call 29; refine (CL.out _ (by first | exact below_drew (Below.refl _ _) | exact below_drewN (Below.refl _ _) _ | exact Below.refl _ _)).mono ?_; rintro e wc1 ⟨Od, od, rfl, hO1, ho1, hz1, hq1⟩; have Q1 := Lib.hid (keep_trans (show Below w1009.heap.size w1009 _ from by first | exact below_drew (Below.refl _ _) | exact below_drewN (Below.refl _ _) _ | exact Below.refl _ _) hq1); have hz1 := Lib.hid hz1; have hq1 := Lib.hid hq1))
              have ge1 : w1009.heap.size ≤ od := ho1
              have lt_od : oc < od := by have := tc10.out.lt; omega
              have ge_od : W.heap.size ≤ od := Nat.le_trans HB10.out.size ge1
              have lt_of_ : od < of_ := by have := hz1.out.lt; omega
              have ge_of_ : W.heap.size ≤ of_ := by omega
              clear ge1
              have td11 := Lib.hid (hz1.out.after hq2.out)
              have tf11 := Lib.hid hz2.out
              have s0x11 := Lib.hid (s0x10.out.after Q2.out)
              have s1x11 := Lib.hid (s1x10.out.after Q2.out)
              have s2x11 := Lib.hid (s2x10.out.after Q2.out)
              have se11 := Lib.hid (se10.out.after Q2.out)
              have ta11 := Lib.hid (ta10.out.after Q2.out)
              have tb11 := Lib.hid (tb10.out.after Q2.out)
              have tc11 := Lib.hid (tc10.out.after Q2.out)
              have fx11 := Lib.hid (fx10.out.after Q2.out)
              have HB11 := Lib.hid (keep_trans HB10.out Q2.out)
              clear s0x10 s1x10 s2x10 se10 ta10 tb10 tc10 fx10 HB10 KC CL Q1 hz1 hq1 hO1 ho1 Q2 hz2 hq2 hO2 ho2
              go_wp2_with fail
              refine (minus_any td11.out se11.out 0 (fMinus f0 (fOr f1 f2)) (by rw [if_pos rfl]) (by rw [if_pos rfl])).mono ?_
              rintro e w1011 ⟨rfl, hz, hw⟩
              have s0x12 := Lib.hid (s0x11.out.far hw (by omega))
              have s1x12 := Lib.hid (s1x11.out.far hw (by omega))
              have s2x12 := Lib.hid (s2x11.out.far hw (by omega))
              have se12 := Lib.hid (se11.out.far hw (by omega))
              have ta12 := Lib.hid (ta11.out.far hw (by omega))
              have tb12 := Lib.hid (tb11.out.far hw (by omega))
              have tc12 := Lib.hid (tc11.out.far hw (by omega))
              have td12 := Lib.hid hz
              have tf12 := Lib.hid (tf11.out.far hw (by omega))
              have fx12 := Lib.hid (fx11.out.far hw)
              have HB12 := Lib.hid (wr_below HB11.out hw ge_od)
              clear s0x11 s1x11 s2x11 se11 ta11 tb11 tc11 td11 tf11 fx11 HB11 hz hw
              have c1 := fx12.out.at_ 1 _ p1.out
              go_wp2_with fail
              refine (minus_any tf12.out s1x12.out 0 (fMinus f0 f1) (by rw [if_pos rfl]) (by rw [if_pos rfl])).mono ?_
              rintro e w1012 ⟨rfl, hz, hw⟩
              have s0x13 := Lib.hid (s0x12.out.far hw (by omega))
              have s1x13 := Lib.hid (s1x12.out.far hw (by omega))
              have s2x13 := Lib.hid (s2x12.out.far hw (by omega))
              have se13 := Lib.hid (se12.out.far hw (by omega))
              have ta13 := Lib.hid (ta12.out.far hw (by omega))
              have tb13 := Lib.hid (tb12.out.far hw (by omega))
              have tc13 := Lib.hid (tc12.out.far hw (by omega))
              have td13 := Lib.hid (td12.out.far hw (by omega))
              have tf13 := Lib.hid hz
              have fx13 := Lib.hid (fx12.out.far hw)
              have HB13 := Lib.hid (wr_below HB12.out hw ge_of_)
              clear s0x12 s1x12 s2x12 se12 ta12 tb12 tc12 td12 tf12 fx12 HB12 hz hw
              clear c1
              have c2 := fx13.out.at_ 2 _ p2.out
              go_wp2_with fail
              refine (minus_any tf13.out s2x13.out 0 (fMinus f0 (fOr f1 f2)) (by rw [if_pos rfl]) (by rw [if_pos rfl, sp_minus])).mono ?_
              rintro e w1013 ⟨rfl, hz, hw⟩
              have s0x14 := Lib.hid (s0x13.out.far hw (by omega))
              have s1x14 := Lib.hid (s1x13.out.far hw (by omega))
              have s2x14 := Lib.hid (s2x13.out.far hw (by omega))
              have se14 := Lib.hid (se13.out.far hw (by omega))
              have ta14 := Lib.hid (ta13.out.far hw (by omega))
              have tb14 := Lib.hid (tb13.out.far hw (by omega))
              have tc14 := Lib.hid (tc13.out.far hw (by omega))
              have td14 := Lib.hid (td13.out.far hw (by omega))
              have tf14 := Lib.hid hz
              have fx14 := Lib.hid (fx13.out.far hw)
              have HB14 := Lib.hid (wr_below HB13.out hw ge_of_)
              clear s0x13 s1x13 s2x13 se13 ta13 tb13 tc13 td13 tf13 fx13 HB13 hz hw
              clear c2
              go_wp2_with fail
              refine (clone_any ta14.out).mono ?_
              rintro e w1014 ⟨Og, og, rfl, hO, ho, hz, hq⟩
              have lt_og : of_ < og := by have := tf14.out.lt; omega
              have ge_og : W.heap.size ≤ og := Nat.le_trans HB14.out.size ho
              have hz := Lib.hid hz
              have s0x15 := Lib.hid (s0x14.out.after hq)
              have s1x15 := Lib.hid (s1x14.out.after hq)
              have s2x15 := Lib.hid (s2x14.out.after hq)
              have se15 := Lib.hid (se14.out.after hq)
              have ta15 := Lib.hid (ta14.out.after hq)
              have tb15 := Lib.hid (tb14.out.after hq)
              have tc15 := Lib.hid (tc14.out.after hq)
              have td15 := Lib.hid (td14.out.after hq)
              have tf15 := Lib.hid (tf14.out.after hq)
              have fx15 := Lib.hid (fx14.out.after hq)
              have HB15 := Lib.hid (keep_trans HB14.out hq)
              clear s0x14 s1x14 s2x14 se14 ta14 tb14 tc14 td14 tf14 fx14 HB14 hq hO ho
              have tg15 := hz
              clear hz
              go_wp2_with fail
              refine (or_any tg15.out td15.out 0 (f0) (by rw [if_pos rfl]) (by rw [if_pos rfl, sp_back])).mono ?_
              rintro e w1015 ⟨rfl, hz, hw⟩
              have s0x16 := Lib.hid (s0x15.out.far hw (by omega))
              have s1x16 := Lib.hid (s1x15.out.far hw (by omega))
              have s2x16 := Lib.hid (s2x15.out.far hw (by omega))
              have se16 := Lib.hid (se15.out.far hw (by omega))
              have ta16 := Lib.hid (ta15.out.far hw (by omega))
              have tb16 := Lib.hid (tb15.out.far hw (by omega))
              have tc16 := Lib.hid (tc15.out.far hw (by omega))
              have td16 := Lib.hid (td15.out.far hw (by omega))
              have tf16 := Lib.hid (tf15.out.far hw (by omega))
              have tg16 := Lib.hid hz
              have fx16 := Lib.hid (fx15.out.far hw)
              have HB16 := Lib.hid (wr_below HB15.out hw ge_og)
              clear s0x15 s1x15 s2x15 se15 ta15 tb15 tc15 td15 tf15 tg15 fx15 HB15 hz hw
              obtain ⟨x1, hx1⟩ : ∃ x, x = cnt (fAnd f0 (fOr f1 f2)) N := ⟨_, rfl⟩
              obtain ⟨x2, hx2⟩ : ∃ x, x = cnt (fMinus f0 (fOr f1 f2)) N := ⟨_, rfl⟩
              obtain ⟨x3, hx3⟩ : ∃ x, x = cnt f0 N := ⟨_, rfl⟩
              have bx1 : x1 ≤ 300 := by have := cnt_le (fAnd f0 (fOr f1 f2)) N; omega
              have bx2 : x2 ≤ 300 := by have := cnt_le (fMinus f0 (fOr f1 f2)) N; omega
              have ex : (x1 : Int) + (x2 : Int) = (x3 : Int) := by have := sp_cnt f0 (fOr f1 f2) N; omega
              have G1 := Lib.hid (same_quiet ta16.out tb16.out rfl)
              have G2 := Lib.hid (same_quiet td16.out tf16.out rfl)
              have G3 := Lib.hid (same_quiet tg16.out s0x16.out rfl)
              have G4 := Lib.hid (count_quiet ta16.out x1 hx1)
              have G5 := Lib.hid (count_quiet td16.out x2 hx2)
              have G6 := Lib.hid (count_quiet s0x16.out x3 hx3)
              have c0 := fx16.out.at_ 0 _ p0.out
              have HBE := HB16
              clear s0x16 s1x16 s2x16 se16 ta16 tb16 tc16 td16 tf16 tg16 fx16 HB16 hx1 hx2 hx3
              go_wp2
              have e1 : IntKind.i64.wrap ((x1 : Int) + (x2 : Int)) = (x1 : Int) + (x2 : Int) := IntWalk.i64_in _ (by omega)
              have e2 : ((x1 : Int) + (x2 : Int) == (x3 : Int)) = true := by simpa using ex
              clear ex bx1 bx2
              go_quiet ((first | (go_at_call 16; (with_reducible exact G1.out _)) | (go_at_call 16; (with_reducible exact G2.out _)) | (go_at_call 16; (with_reducible exact G3.out _)) | (go_at_call 31; (with_reducible exact G4.out _)) | (go_at_call 31; (with_reducible exact G5.out _)) | (go_at_call 31; (with_reducible exact G6.out _)) | fail))
              clear e1 e2
              go_wp2
              go_ret
              exact ⟨rfl, below_drewN HBE.out _⟩
end Go.Proofs.YtffphlbbophjfaaDoor.Bs
