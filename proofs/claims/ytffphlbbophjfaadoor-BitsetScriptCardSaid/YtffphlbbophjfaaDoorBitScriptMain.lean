/- The law BitsetScript, walked: at any widths and any acts, at every world in which the library's table lies, it answers true. -/
import Derived.Test.YtffphlbbophjfaaDoorBitRefJoin
import Derived.Test.YtffphlbbophjfaaDoorBitPick
import Derived.Test.YtffphlbbophjfaaDoorBitViews
import Derived.Test.YtffphlbbophjfaaDoorBitWrite
import Derived.Deep.DeepCutAuto
import Derived.Deep.CutBlock
import Derived.Deep.RegionHeld3
namespace Go.Proofs.YtffphlbbophjfaaDoor.Bs
open Go.ChangeShapes Go.WideShapes Go.ChangeAt Go.RowKit
set_option linter.unusedVariables false

/-- the program's two sets and the document's, of the same numbers -/
structure St (W w : World) (B g X xh N : Nat) (f : Fs) (C h Y yh M : Nat) (f2 : Fs) : Prop where
  s : SetAt w B g N f
  x : RefAt w X xh N f
  t : SetAt w C h M f2
  y : RefAt w Y yh M f2
  gh : g ≠ h
  xy : xh ≠ yh
  XY : X ≠ Y
  wg : W.heap.size ≤ g
  wh : W.heap.size ≤ h
  wx : W.heap.size ≤ xh
  wy : W.heap.size ≤ yh
  wX : W.heap.size ≤ X
  wY : W.heap.size ≤ Y
  hb : Below W.heap.size W w
  mM : M ≤ 2000
theorem St.after {W w w' : World} {B g X xh N C h Y yh M : Nat} {f f2 : Fs} (s : St W w B g X xh N f C h Y yh M f2) (q : Below w.heap.size w w') : St W w' B g X xh N f C h Y yh M f2 :=
  ⟨s.s.after q, s.x.after q, s.t.after q, s.y.after q, s.gh, s.xy, s.XY, s.wg, s.wh, s.wx, s.wy, s.wX, s.wY, keep_trans s.hb q, s.mM⟩
theorem St.ws {W w w' : World} {B g X xh N C h Y yh M : Nat} {f f2 f' : Fs} (s : St W w B g X xh N f C h Y yh M f2) (z : SetAt w' B g N f') (q : Wr 61 g w w') : SetAt w' B g N f' ∧ RefAt w' X xh N f ∧ SetAt w' C h M f2 ∧ RefAt w' Y yh M f2 ∧ Below W.heap.size W w' :=
  ⟨z, s.x.far q, s.t.far q (Ne.symm s.gh), s.y.far q, wr_below s.hb q s.wg⟩
theorem St.wt {W w w' : World} {B g X xh N C h Y yh M : Nat} {f f2 f' : Fs} (s : St W w B g X xh N f C h Y yh M f2) (z : SetAt w' C h M f') (q : Wr 61 h w w') : SetAt w' B g N f ∧ RefAt w' X xh N f ∧ SetAt w' C h M f' ∧ RefAt w' Y yh M f2 ∧ Below W.heap.size W w' :=
  ⟨s.s.far q s.gh, s.x.far q, z, s.y.far q, wr_below s.hb q s.wh⟩
/-- the program's first set and the document's were written -/
theorem St.s2 {W w w1 w2 : World} {B g X xh N C h Y yh M : Nat} {f f2 f' : Fs} (s : St W w B g X xh N f C h Y yh M f2) (z : SetAt w1 B g N f') (q : Wr 61 g w w1) (r : RefAt w2 X xh N f') (q2 : Wr 4 xh w1 w2) : St W w2 B g X xh N f' C h Y yh M f2 :=
  ⟨z.apart q2 (by decide) (by decide), r, (s.t.far q (Ne.symm s.gh)).apart q2 (by decide) (by decide), (s.y.far q).row q2 (Ne.symm s.xy), s.gh, s.xy, s.XY, s.wg, s.wh, s.wx, s.wy, s.wX, s.wY, wr_below (wr_below s.hb q s.wg) q2 s.wx, s.mM⟩
theorem St.t2 {W w w1 w2 : World} {B g X xh N C h Y yh M : Nat} {f f2 f' : Fs} (s : St W w B g X xh N f C h Y yh M f2) (z : SetAt w1 C h M f') (q : Wr 61 h w w1) (r : RefAt w2 Y yh M f') (q2 : Wr 4 yh w1 w2) : St W w2 B g X xh N f C h Y yh M f' :=
  ⟨(s.s.far q s.gh).apart q2 (by decide) (by decide), (s.x.far q).row q2 s.xy, z.apart q2 (by decide) (by decide), r, s.gh, s.xy, s.XY, s.wg, s.wh, s.wx, s.wy, s.wX, s.wY, wr_below (wr_below s.hb q s.wh) q2 s.wy, s.mM⟩
theorem St.clr {W w w1 w2 : World} {B g X xh xh2 N C h Y yh M : Nat} {f f2 : Fs} (s : St W w B g X xh N f C h Y yh M f2) (z : SetAt w1 B g N fEmpty) (q : Wr 61 g w w1) (hx : w1.heap.size ≤ xh2) (r : RefAt w2 X xh2 N fEmpty) (q2 : Wr 50 X w1 w2) : St W w2 B g X xh2 N fEmpty C h Y yh M f2 :=
  ⟨z.apart q2 (by decide) (by decide), r, (s.t.far q (Ne.symm s.gh)).apart q2 (by decide) (by decide), (s.y.far q).objs q2 (Ne.symm s.XY), s.gh, by have := (s.y.far q).lt; omega, s.XY, s.wg, s.wh, by have := (wr_below s.hb q s.wg).size; omega, s.wy, s.wX, s.wY, wr_below (wr_below s.hb q s.wg) q2 s.wX, s.mM⟩
theorem St.cln {W w w1 w2 : World} {B g X xh N C h Y yh M C2 h2 Y2 yh2 : Nat} {f f2 : Fs} (hN : N ≤ 2000) (s : St W w B g X xh N f C h Y yh M f2) (hC : w.heap.size ≤ C2) (hh : w.heap.size ≤ h2) (z : SetAt w1 C2 h2 N f) (q : Below w.heap.size w w1) (hY : w1.heap.size ≤ Y2) (hy : w1.heap.size ≤ yh2) (r : RefAt w2 Y2 yh2 N f) (q2 : Below w1.heap.size w1 w2) : St W w2 B g X xh N f C2 h2 Y2 yh2 N f := by
  have a1 := s.s.lt
  have a2 := s.x.lt
  have a3 := s.x.ltX
  have a4 := q.size
  have a5 := s.hb.size
  exact ⟨(s.s.after q).after q2, (s.x.after q).after q2, z.after q2, r, by omega, by omega, by omega, s.wg, by omega, s.wx, by omega, s.wX, by omega, keep_trans (keep_trans s.hb q) q2, hN⟩
def ScRel (W : World) (B g X N len : Nat) (v9 v13 v15 : Value) (wr : World) : Prop :=
  ∃ (k C h Y yh M xh : Nat) (f f2 : Fs), v9 = .pointer (some ⟨C, 0, none⟩) ∧ v13 = .pointer (some ⟨Y, 0, none⟩) ∧ v15 = .int .i64 k ∧ k ≤ len ∧ Hid (St W wr B g X xh N f C h Y yh M f2)
theorem ac_rd {w : World} {S : Nat → Prop} {A : Option Addr} {zs : List (Int × Int)} (h : Rd w S A (ac zs)) {k : Nat} (hk : k < zs.length) : ∃ ad, A = some ad ∧ S ad.block ∧ w.cell? (ad.add (k * 2)) = some (.int .i64 (zs.getD k (0, 0)).1) ∧ w.cell? ⟨(ad.add (k * 2)).block, (ad.add (k * 2)).off + 1, none⟩ = some (.int .i64 (zs.getD k (0, 0)).2) := by
  obtain ⟨ad, e, hb, hc⟩ := h (by rw [ac_length]; omega)
  have h2 := ac_at zs k (zs.getD k (0, 0)) (by simp [List.getD_eq_getElem?_getD, List.getElem?_eq_getElem hk])
  refine ⟨ad, e, hb, hc _ _ h2.1, ?_⟩
  rw [← hc _ _ h2.2]
  congr 1
  unfold Addr.add
  by_cases h0 : k * 2 = 0 <;> simp [h0, Nat.add_assoc]

theorem rnext_as {w : World} {X h n : Nat} {f : Fs} (r : RefAt w X h n f) (i y : Int) (hy : y = nxt f n i.toNat) : Calls Tryd.prog 35 #[.pointer (some ⟨X, 0, none⟩), .int .i64 i] w fun e w' => e = .returned (.int .i64 y) ∧ w = w' := by
  rw [hy]; exact rnext_any r i
theorem count_eq {w : World} {B g n : Nat} {f : Fs} (h : SetAt w B g n f) (x : Nat) (hx : x = cnt f n) : Calls Tryd.prog 31 #[.pointer (some ⟨B, 0, none⟩)] w (IntPost w x) := by
  rw [hx]; exact count_any h
theorem next_eq {w : World} {B g n : Nat} {f : Fs} (h : SetAt w B g n f) (hE : Env w) (i : Int) (y : Int) (hy : y = nxt f n i.toNat) : Calls Tryd.prog 14 #[.pointer (some ⟨B, 0, none⟩), .int .i64 i] w (IntPost w y) := by
  rw [hy]; exact next_any h hE i
theorem has_eq {w : World} {B g n : Nat} {f : Fs} (h : SetAt w B g n f) (i : Int) (q : Bool) (hq : q = (decide (0 ≤ i) && f i.toNat)) : Calls Tryd.prog 17 #[.pointer (some ⟨B, 0, none⟩), .int .i64 i] w (BoolPost w q) := by
  rw [hq]; exact has_any h i

set_option maxHeartbeats 16000000 in
set_option maxRecDepth 100000 in
theorem script_main (W : World) (hE : Env W) (N M : Nat) (hN : N ≤ 2000) (hM : M ≤ 2000) (A : Option Addr) (len c : Nat) (zs : List (Int × Int)) (hl : Hid (len = zs.length)) (hr : Rd W (· < W.heap.size) A (ac zs)) (hb : ActsIn zs) (hs1 : ¬ 150 < len) :
    Calls Tryd.prog 4 #[.int .i64 N, .int .i64 M, .slice A len c] W (BoolPost W true) := by
  have HE := Lib.hid hE
  have HQ := Lib.hid hr
  have HBZ := Lib.hid hb
  have hn3 : ¬ (2000 : Int) < N := by omega
  have hm3 : ¬ (2000 : Int) < M := by omega
  clear hE hr hb
  go_enter Tryd.func4, Tryd.ntmps4
  go_wp2_with fail
  refine (lives_any _ HE.out).mono ?_
  rintro e w1 ⟨rfl, hb1⟩
  have hb1 := Lib.hid hb1
  go_wp2_with fail
  refine (new_any N _ (by omega)).mono ?_
  rintro e w2 ⟨B, g, rfl, hB, hg, hz1, q1⟩
  go_wp2_with fail
  refine (new_any M _ (by omega)).mono ?_
  rintro e w3 ⟨C, h, rfl, hC, hh, hz2, q2⟩
  go_wp2_with fail
  refine (rnew_any N _ (by omega)).mono ?_
  rintro e w4 ⟨X, xh, rfl, hX, hxh, hz3, q3⟩
  go_wp2_with fail
  refine (rnew_any M _ (by omega)).mono ?_
  rintro e w5 ⟨Y, yh, rfl, hY, hyh, hz4, q4⟩
  have HI : Hid (ScRel W B g X N len (.pointer (some ⟨C, 0, none⟩)) (.pointer (some ⟨Y, 0, none⟩)) (.int .i64 0) w5) := Lib.hid (by
    have a1 := hb1.out.size
    have a2 := q1.size
    have a3 := q2.size
    have a4 := q3.size
    have b1 := hz1.lt
    have b3 := hz3.lt
    have b4 := hz3.ltX
    exact ⟨0, C, h, Y, yh, M, xh, fEmpty, fEmpty, rfl, rfl, rfl, by omega, Lib.hid ⟨((hz1.after q2).after q3).after q4, hz3.after q4, (hz2.after q3).after q4, hz4, by omega, by omega, by omega, by omega, by omega, by omega, by omega, by omega, by omega, keep_trans (keep_trans (keep_trans (keep_trans hb1.out q1) q2) q3) q4, hM⟩⟩)
  clear hb1 q1 q2 q3 q4 hz1 hz2 hz3 hz4 hB hg hC hh hX hxh hY hyh
  go_wp2
  go_loopw [9, 13, 15] (fun v9 v13 v15 wr => ScRel W B g X N len v9 v13 v15 wr) (fun _ _ v _ => len - (intOf v).toNat)
  case atStart => exact HI.out
  case round =>
    obtain ⟨k, C, h, Y, yh, M, xh, f, f2, rfl, rfl, rfl, hk, hst⟩ := hrel
    clear HI
    by_cases hlt : k < len
    · have hkz : k < zs.length := by rw [← hl.out]; exact hlt
      obtain ⟨ad, rfl, hS, hk0, hk1⟩ := ac_rd (HQ.out.below2 hst.out.hb) hkz
      have HZ := Lib.hid (HBZ.out (zs.getD k (0, 0)) (by rw [List.getD_eq_getElem?_getD, List.getElem?_eq_getElem hkz]; exact List.getElem_mem hkz))
      obtain ⟨a, ha⟩ : ∃ a, a = (zs.getD k (0, 0)).1 := ⟨_, rfl⟩
      obtain ⟨i, hi⟩ : ∃ i, i = (zs.getD k (0, 0)).2 := ⟨_, rfl⟩
      rw [← ha, ← hi] at HZ
      rw [← ha] at hk0
      rw [← hi] at hk1
      have hlt2 : (k : Int) < (len : Int) := by omega
      clear ha hi hS hkz
      go_wp2_with fail
      have k0 : Below wr.heap.size wr (wr.alloc (.cells #[.int .i64 a, .int .i64 i] 39)) := keep_alloc (Below.refl _ _) _
      have st0 := Lib.hid (hst.out.after k0)
      have ab0 := Lib.hid (Blk.new wr 39 [.int .i64 a, .int .i64 i])
      clear k0 hst hk0 hk1
      refine (pick_eq a 9 _ HZ.out.1.1 HZ.out.1.2 (by omega) (by omega)).mono ?_
      rintro e w6 ⟨rfl, rfl⟩
      have st0 : Hid (St W (wr.alloc (.cells #[.int .i64 a, .int .i64 i] 39)) B g X xh N f C h Y yh M f2) := st0
      have ab0 : Hid (Blk (wr.alloc (.cells #[.int .i64 a, .int .i64 i] 39)) wr.heap.size 39 [.int .i64 a, .int .i64 i]) := ab0
      obtain ⟨ab, hab⟩ : ∃ ab, ab = wr.heap.size := ⟨_, rfl⟩
      rw [← hab] at ab0 ⊢
      generalize wr.alloc (.cells #[.int .i64 a, .int .i64 i] 39) = w0 at st0 ab0 ⊢
      have hr9 : pk a 9 < 9 := by have := pk_lt (k := a) (m := 9) (by omega); omega
      obtain ⟨r, hr⟩ : ∃ r, r = pk a 9 := ⟨_, rfl⟩
      rw [← hr] at hr9 ⊢
      clear hab hr HZ
      go_upto_block 2 with (fail)
      go_cut [9, 13, 17] (fun v9 v13 v17 wx => ∃ (C h Y yh M xh : Nat) (f f2 : Fs), v9 = .pointer (some ⟨C, 0, none⟩) ∧ v13 = .pointer (some ⟨Y, 0, none⟩) ∧ v17 = .bool true ∧ Hid (St W wx B g X xh N f C h Y yh M f2 ∧ Blk wx ab 39 [.int .i64 a, .int .i64 i]))
      case first =>
        have ci0 : w0.cell? ⟨ab, 1, none⟩ = some (.int .i64 i) := by simpa using ab0.out.cell 1
        have hrc : r = 0 ∨ r = 1 ∨ r = 2 ∨ r = 3 ∨ r = 4 ∨ r = 5 ∨ r = 6 ∨ r = 7 ∨ r = 8 := by omega
        rcases hrc with rfl | rfl | rfl | rfl | rfl | rfl | rfl | rfl | rfl
        · as_aux_lemma =>
            obtain ⟨t, ht⟩ : ∃ t : Bool, t = if 0 ≤ i ∧ i < N then !f i.toNat else false := ⟨_, rfl⟩
            obtain ⟨e0, he⟩ : ∃ e : Int, e = if 0 ≤ i ∧ i < N then 0 else 2 := ⟨_, rfl⟩
            obtain ⟨f', hf⟩ : ∃ f' : Fs, f' = if 0 ≤ i ∧ i < N then fPut f i.toNat else f := ⟨_, rfl⟩
            have P1 := Lib.hid (put_any st0.out.s i t e0 f' ht he hf)
            have P2 : Hid (∀ w', RefAt w' X xh N f → Calls Tryd.prog 20 #[.pointer (some ⟨X, 0, none⟩), .int .i64 i] w' (RPost t e0 w' X xh N f')) := Lib.hid fun w' hx => rput_any hx i t e0 f' ht he hf
            clear ht he hf
            go_wp2_with fail
            refine P1.out.mono ?_
            rintro e w1a ⟨rfl, hz, hw⟩
            have ab1 := Lib.hid (hw.blk ab0.out (.inr (by decide)))
            have ci1 : w1a.cell? ⟨ab, 1, none⟩ = some (.int .i64 i) := by simpa using ab1.out.cell 1
            have hz := Lib.hid hz
            have hw := Lib.hid hw
            go_wp2_with fail
            refine (P2.out _ (st0.out.x.far hw.out)).mono ?_
            rintro e w2a ⟨rfl, hr2, hw2⟩
            have ab2 := Lib.hid (hw2.blk ab1.out (.inr (by decide)))
            have stE := Lib.hid (st0.out.s2 hz.out hw.out hr2 hw2)
            clear hr2 hw2 hz hw P1 P2 ab1 ci0 ci1
            go_wp2
            go_meet
            exact ⟨C, h, Y, yh, M, xh, f', f2, rfl, rfl, rfl, Lib.hid ⟨stE.out, ab2.out⟩⟩
        · as_aux_lemma =>
            obtain ⟨t, ht⟩ : ∃ t : Bool, t = if 0 ≤ i ∧ i < N then !f i.toNat else false := ⟨_, rfl⟩
            obtain ⟨e0, he⟩ : ∃ e : Int, e = if 0 ≤ i ∧ i < N then 0 else 2 := ⟨_, rfl⟩
            obtain ⟨f', hf⟩ : ∃ f' : Fs, f' = if 0 ≤ i ∧ i < N then fPut f i.toNat else f := ⟨_, rfl⟩
            have P1 := Lib.hid (put_any st0.out.s i t e0 f' ht he hf)
            have P2 : Hid (∀ w', RefAt w' X xh N f → Calls Tryd.prog 20 #[.pointer (some ⟨X, 0, none⟩), .int .i64 i] w' (RPost t e0 w' X xh N f')) := Lib.hid fun w' hx => rput_any hx i t e0 f' ht he hf
            clear ht he hf
            go_wp2_with fail
            refine P1.out.mono ?_
            rintro e w1a ⟨rfl, hz, hw⟩
            have ab1 := Lib.hid (hw.blk ab0.out (.inr (by decide)))
            have ci1 : w1a.cell? ⟨ab, 1, none⟩ = some (.int .i64 i) := by simpa using ab1.out.cell 1
            have hz := Lib.hid hz
            have hw := Lib.hid hw
            go_wp2_with fail
            refine (P2.out _ (st0.out.x.far hw.out)).mono ?_
            rintro e w2a ⟨rfl, hr2, hw2⟩
            have ab2 := Lib.hid (hw2.blk ab1.out (.inr (by decide)))
            have stE := Lib.hid (st0.out.s2 hz.out hw.out hr2 hw2)
            clear hr2 hw2 hz hw P1 P2 ab1 ci0 ci1
            go_wp2
            go_meet
            exact ⟨C, h, Y, yh, M, xh, f', f2, rfl, rfl, rfl, Lib.hid ⟨stE.out, ab2.out⟩⟩
        · as_aux_lemma =>
            obtain ⟨t, ht⟩ : ∃ t : Bool, t = if 0 ≤ i ∧ i < M then !f2 i.toNat else false := ⟨_, rfl⟩
            obtain ⟨e0, he⟩ : ∃ e : Int, e = if 0 ≤ i ∧ i < M then 0 else 2 := ⟨_, rfl⟩
            obtain ⟨f', hf⟩ : ∃ f' : Fs, f' = if 0 ≤ i ∧ i < M then fPut f2 i.toNat else f2 := ⟨_, rfl⟩
            have P1 := Lib.hid (put_any st0.out.t i t e0 f' ht he hf)
            have P2 : Hid (∀ w', RefAt w' Y yh M f2 → Calls Tryd.prog 20 #[.pointer (some ⟨Y, 0, none⟩), .int .i64 i] w' (RPost t e0 w' Y yh M f')) := Lib.hid fun w' hx => rput_any hx i t e0 f' ht he hf
            clear ht he hf
            go_wp2_with fail
            refine P1.out.mono ?_
            rintro e w1a ⟨rfl, hz, hw⟩
            have ab1 := Lib.hid (hw.blk ab0.out (.inr (by decide)))
            have ci1 : w1a.cell? ⟨ab, 1, none⟩ = some (.int .i64 i) := by simpa using ab1.out.cell 1
            have hz := Lib.hid hz
            have hw := Lib.hid hw
            go_wp2_with fail
            refine (P2.out _ (st0.out.y.far hw.out)).mono ?_
            rintro e w2a ⟨rfl, hr2, hw2⟩
            have ab2 := Lib.hid (hw2.blk ab1.out (.inr (by decide)))
            have stE := Lib.hid (st0.out.t2 hz.out hw.out hr2 hw2)
            clear hr2 hw2 hz hw P1 P2 ab1 ci0 ci1
            go_wp2
            go_meet
            exact ⟨C, h, Y, yh, M, xh, f, f', rfl, rfl, rfl, Lib.hid ⟨stE.out, ab2.out⟩⟩
        · as_aux_lemma =>
            obtain ⟨t, ht⟩ : ∃ t : Bool, t = if 0 ≤ i ∧ i < N then f i.toNat else false := ⟨_, rfl⟩
            obtain ⟨e0, he⟩ : ∃ e : Int, e = if 0 ≤ i ∧ i < N then 0 else 2 := ⟨_, rfl⟩
            obtain ⟨f', hf⟩ : ∃ f' : Fs, f' = if 0 ≤ i ∧ i < N then fTake f i.toNat else f := ⟨_, rfl⟩
            have P1 := Lib.hid (take_any st0.out.s i t e0 f' ht he hf)
            have P2 : Hid (∀ w', RefAt w' X xh N f → Calls Tryd.prog 21 #[.pointer (some ⟨X, 0, none⟩), .int .i64 i] w' (RPost t e0 w' X xh N f')) := Lib.hid fun w' hx => rtake_any hx i t e0 f' ht he hf
            clear ht he hf
            go_wp2_with fail
            refine P1.out.mono ?_
            rintro e w1a ⟨rfl, hz, hw⟩
            have ab1 := Lib.hid (hw.blk ab0.out (.inr (by decide)))
            have ci1 : w1a.cell? ⟨ab, 1, none⟩ = some (.int .i64 i) := by simpa using ab1.out.cell 1
            have hz := Lib.hid hz
            have hw := Lib.hid hw
            go_wp2_with fail
            refine (P2.out _ (st0.out.x.far hw.out)).mono ?_
            rintro e w2a ⟨rfl, hr2, hw2⟩
            have ab2 := Lib.hid (hw2.blk ab1.out (.inr (by decide)))
            have stE := Lib.hid (st0.out.s2 hz.out hw.out hr2 hw2)
            clear hr2 hw2 hz hw P1 P2 ab1 ci0 ci1
            go_wp2
            go_meet
            exact ⟨C, h, Y, yh, M, xh, f', f2, rfl, rfl, rfl, Lib.hid ⟨stE.out, ab2.out⟩⟩
        · as_aux_lemma =>
            obtain ⟨e0, he⟩ : ∃ e : Int, e = if N = M then 0 else 2 := ⟨_, rfl⟩
            obtain ⟨f', hf⟩ : ∃ f' : Fs, f' = if N = M then fOr f f2 else f := ⟨_, rfl⟩
            have P1 := Lib.hid (or_any st0.out.s st0.out.t e0 f' he hf)
            have P2 : Hid (∀ w', RefAt w' X xh N f → RefAt w' Y yh M f2 → Calls Tryd.prog 22 #[.pointer (some ⟨X, 0, none⟩), .pointer (some ⟨Y, 0, none⟩)] w' (RJPost w' X xh N e0 f')) := Lib.hid fun w' hx hy => ror_any hx hy st0.out.xy e0 f' he hf
            clear he hf ci0
            go_wp2_with fail
            refine P1.out.mono ?_
            rintro e w1a ⟨rfl, hz, hw⟩
            have ab1 := Lib.hid (hw.blk ab0.out (.inr (by decide)))
            have hz := Lib.hid hz
            have hw := Lib.hid hw
            go_wp2_with fail
            refine (P2.out _ (st0.out.x.far hw.out) (st0.out.y.far hw.out)).mono ?_
            rintro e w2a ⟨rfl, hr2, hw2⟩
            have ab2 := Lib.hid (hw2.blk ab1.out (.inr (by decide)))
            have stE := Lib.hid (st0.out.s2 hz.out hw.out hr2 hw2)
            clear hr2 hw2 hz hw P1 P2 ab1
            go_wp2
            go_meet
            exact ⟨C, h, Y, yh, M, xh, f', f2, rfl, rfl, rfl, Lib.hid ⟨stE.out, ab2.out⟩⟩
        · as_aux_lemma =>
            obtain ⟨e0, he⟩ : ∃ e : Int, e = if N = M then 0 else 2 := ⟨_, rfl⟩
            obtain ⟨f', hf⟩ : ∃ f' : Fs, f' = if N = M then fAnd f f2 else f := ⟨_, rfl⟩
            have P1 := Lib.hid (and_any st0.out.s st0.out.t e0 f' he hf)
            have P2 : Hid (∀ w', RefAt w' X xh N f → RefAt w' Y yh M f2 → Calls Tryd.prog 24 #[.pointer (some ⟨X, 0, none⟩), .pointer (some ⟨Y, 0, none⟩)] w' (RJPost w' X xh N e0 f')) := Lib.hid fun w' hx hy => rand_any hx hy st0.out.xy e0 f' he hf
            clear he hf ci0
            go_wp2_with fail
            refine P1.out.mono ?_
            rintro e w1a ⟨rfl, hz, hw⟩
            have ab1 := Lib.hid (hw.blk ab0.out (.inr (by decide)))
            have hz := Lib.hid hz
            have hw := Lib.hid hw
            go_wp2_with fail
            refine (P2.out _ (st0.out.x.far hw.out) (st0.out.y.far hw.out)).mono ?_
            rintro e w2a ⟨rfl, hr2, hw2⟩
            have ab2 := Lib.hid (hw2.blk ab1.out (.inr (by decide)))
            have stE := Lib.hid (st0.out.s2 hz.out hw.out hr2 hw2)
            clear hr2 hw2 hz hw P1 P2 ab1
            go_wp2
            go_meet
            exact ⟨C, h, Y, yh, M, xh, f', f2, rfl, rfl, rfl, Lib.hid ⟨stE.out, ab2.out⟩⟩
        · as_aux_lemma =>
            obtain ⟨e0, he⟩ : ∃ e : Int, e = if N = M then 0 else 2 := ⟨_, rfl⟩
            obtain ⟨f', hf⟩ : ∃ f' : Fs, f' = if N = M then fMinus f f2 else f := ⟨_, rfl⟩
            have P1 := Lib.hid (minus_any st0.out.s st0.out.t e0 f' he hf)
            have P2 : Hid (∀ w', RefAt w' X xh N f → RefAt w' Y yh M f2 → Calls Tryd.prog 26 #[.pointer (some ⟨X, 0, none⟩), .pointer (some ⟨Y, 0, none⟩)] w' (RJPost w' X xh N e0 f')) := Lib.hid fun w' hx hy => rminus_any hx hy e0 f' he hf
            clear he hf ci0
            go_wp2_with fail
            refine P1.out.mono ?_
            rintro e w1a ⟨rfl, hz, hw⟩
            have ab1 := Lib.hid (hw.blk ab0.out (.inr (by decide)))
            have hz := Lib.hid hz
            have hw := Lib.hid hw
            go_wp2_with fail
            refine (P2.out _ (st0.out.x.far hw.out) (st0.out.y.far hw.out)).mono ?_
            rintro e w2a ⟨rfl, hr2, hw2⟩
            have ab2 := Lib.hid (hw2.blk ab1.out (.inr (by decide)))
            have stE := Lib.hid (st0.out.s2 hz.out hw.out hr2 hw2)
            clear hr2 hw2 hz hw P1 P2 ab1
            go_wp2
            go_meet
            exact ⟨C, h, Y, yh, M, xh, f', f2, rfl, rfl, rfl, Lib.hid ⟨stE.out, ab2.out⟩⟩
        · as_aux_lemma =>
            clear ci0
            go_wp2_with fail
            refine (clear_any st0.out.s).mono ?_
            rintro e w1a ⟨rfl, hz, hw⟩
            have ab1 := Lib.hid (hw.blk ab0.out (.inr (by decide)))
            have hz := Lib.hid hz
            have hw := Lib.hid hw
            go_wp2_with fail
            refine (rclear_any (st0.out.x.far hw.out)).mono ?_
            rintro e w2a ⟨rfl, xh2, hx2, hr2, hw2⟩
            have ab2 := Lib.hid (hw2.blk ab1.out (.inr (by decide)))
            have stE := Lib.hid (st0.out.clr hz.out hw.out hx2 hr2 hw2)
            clear hx2 hr2 hw2 hz hw ab1
            go_wp2
            go_meet
            exact ⟨C, h, Y, yh, M, xh2, fEmpty, f2, rfl, rfl, rfl, Lib.hid ⟨stE.out, ab2.out⟩⟩
        · as_aux_lemma =>
            clear ci0
            go_wp2_with fail
            refine (clone_any st0.out.s).mono ?_
            rintro e w1a ⟨C2, h2, rfl, hC2, hh2, hz, hw⟩
            have ab1 := Lib.hid (ab0.out.after hw)
            have hz := Lib.hid hz
            have hw := Lib.hid hw
            go_wp2_with fail
            refine (rclone_any (st0.out.x.after hw.out)).mono ?_
            rintro e w2a ⟨Y2, yh2, rfl, hY2, hy2, hr2, hw2⟩
            have ab2 := Lib.hid (ab1.out.after hw2)
            have stE := Lib.hid (St.cln hN st0.out hC2 hh2 hz.out hw.out hY2 hy2 hr2 hw2)
            clear hC2 hh2 hY2 hy2 hr2 hw2 hz hw ab1
            go_wp2
            go_meet
            exact ⟨C2, h2, Y2, yh2, N, xh, f, f, rfl, rfl, rfl, Lib.hid ⟨stE.out, ab2.out⟩⟩
      case rest =>
        as_aux_lemma =>
          obtain ⟨C, h, Y, yh, M, xh, f, f2, rfl, rfl, rfl, hst⟩ := hcut
          clear st0 ab0
          have st := Lib.hid hst.out.1
          have abk := Lib.hid hst.out.2
          clear hst
          obtain ⟨x1, hx1⟩ : ∃ x, x = cnt f N := ⟨_, rfl⟩
          have bx1 : x1 ≤ 2000 := by have := cnt_le f N; omega
          obtain ⟨y, hy⟩ : ∃ y : Int, y = nxt f N i.toNat := ⟨_, rfl⟩
          obtain ⟨q, hq⟩ : ∃ q : Bool, q = (decide (0 ≤ i) && f i.toNat) := ⟨_, rfl⟩
          obtain ⟨q2, hq2⟩ : ∃ q : Bool, q = (decide (N = M) && same f f2 N) := ⟨_, rfl⟩
          obtain ⟨Ax, cx, hxc, -⟩ := st.out.x.head
          have C1 : Hid (∀ w', Below wc.heap.size wc w' → Calls Tryd.prog 31 #[.pointer (some ⟨B, 0, none⟩)] w' (IntPost w' x1)) := Lib.hid fun w' hb => count_eq (st.out.after hb).s x1 hx1
          have C2 : Hid (∀ w', Below wc.heap.size wc w' → Calls Tryd.prog 32 #[.pointer (some ⟨X, 0, none⟩)] w' (NumsNew w' (lst f N))) := Lib.hid fun w' hb => rlist_any (st.out.after hb).x
          have C3 : Hid (∀ w', Below wc.heap.size wc w' → Calls Tryd.prog 34 #[.pointer (some ⟨B, 0, none⟩)] w' (NumsNew w' (lst f N))) := Lib.hid fun w' hb => list_any (st.out.after hb).s (HE.out.after (st.out.after hb).hb)
          have C6 : Hid (∀ w', Below wc.heap.size wc w' → Calls Tryd.prog 34 #[.pointer (some ⟨C, 0, none⟩)] w' (NumsNew w' (lst f2 M))) := Lib.hid fun w' hb => list_any (st.out.after hb).t (HE.out.after (st.out.after hb).hb)
          have C7 : Hid (∀ w', Below wc.heap.size wc w' → Calls Tryd.prog 32 #[.pointer (some ⟨Y, 0, none⟩)] w' (NumsNew w' (lst f2 M))) := Lib.hid fun w' hb => rlist_any (st.out.after hb).y
          have C9 : Hid (∀ w', Below wc.heap.size wc w' → Calls Tryd.prog 14 #[.pointer (some ⟨B, 0, none⟩), .int .i64 i] w' (IntPost w' y)) := Lib.hid fun w' hb => next_eq (st.out.after hb).s (HE.out.after (st.out.after hb).hb) i y hy
          have C10 : Hid (∀ w', Below wc.heap.size wc w' → Calls Tryd.prog 35 #[.pointer (some ⟨X, 0, none⟩), .int .i64 i] w' (fun e w2 => e = .returned (.int .i64 y) ∧ w' = w2)) := Lib.hid fun w' hb => rnext_as (st.out.after hb).x i y hy
          have C11 : Hid (∀ w', Below wc.heap.size wc w' → Calls Tryd.prog 17 #[.pointer (some ⟨B, 0, none⟩), .int .i64 i] w' (BoolPost w' q)) := Lib.hid fun w' hb => has_eq (st.out.after hb).s i q hq
          have C12 : Hid (∀ w', Below wc.heap.size wc w' → Calls Tryd.prog 36 #[.pointer (some ⟨X, 0, none⟩), .int .i64 i] w' (fun e w2 => e = .returned (.bool q) ∧ w' = w2)) := Lib.hid fun w' hb => rhas_any (st.out.after hb).x i q hq
          have C13 : Hid (∀ w', Below wc.heap.size wc w' → Calls Tryd.prog 16 #[.pointer (some ⟨B, 0, none⟩), .pointer (some ⟨C, 0, none⟩)] w' (BoolPost w' q2)) := Lib.hid fun w' hb => same_any (st.out.after hb).s (st.out.after hb).t q2 hq2
          have C14 : Hid (∀ w', Below wc.heap.size wc w' → Calls Tryd.prog 37 #[.pointer (some ⟨X, 0, none⟩), .pointer (some ⟨Y, 0, none⟩)] w' (BoolPost w' q2)) := Lib.hid fun w' hb => rsame_any (st.out.after hb).x (st.out.after hb).y q2 hq2
          have C15 : Hid (∀ w', Below wc.heap.size wc w' → Calls Tryd.prog 15 #[.pointer (some ⟨B, 0, none⟩)] w' (fun e w2 => e = .returned (.int .i64 N) ∧ w' = w2)) := Lib.hid fun w' hb => width_cell w' B N (st.out.after hb).s.self.1 (st.out.after hb).s.self.2
          have bM : (lst f2 M).length ≤ 1000000 := by rw [lst_length]; have := cnt_le f2 M; have := st.out.mM; omega
          have bN : (lst f N).length = x1 := by rw [lst_length, hx1]
          have HBM : Hid (∀ n, n = (lst f2 M).length → n ≤ 1000000) := Lib.hid fun n h => by omega
          have HBNN : Hid (∀ n, n = (lst f N).length → n ≤ 1000000) := Lib.hid fun n h => by omega
          have HE2 : Hid (∀ n : Nat, n = (lst f N).length → ((x1 : Int) != (n : Int)) = false) := Lib.hid fun n h => by rw [h, bN]; simp
          have KC : Hid (∀ w', Below wc.heap.size wc w' → w'.cell? ⟨ab, 1, none⟩ = some (.int .i64 i) ∧ w'.cell? ⟨X, 0, none⟩ = some (.slice Ax N cx)) := Lib.hid fun w' hb => ⟨by simpa using (abk.out.after hb).cell 1, (World.cell?_of_block (hb.block X st.out.x.ltX)).trans hxc⟩
          have HNX : Hid (∀ w', Below wc.heap.size wc w' → ScRel W B g X N len (.pointer (some ⟨C, 0, none⟩)) (.pointer (some ⟨Y, 0, none⟩)) (.int .i64 ((k : Int) + 1)) w') := Lib.hid fun w' hb => ⟨k + 1, C, h, Y, yh, M, xh, f, f2, rfl, rfl, by simp, by omega, Lib.hid (st.out.after hb)⟩
          clear st abk hx1 hy hq hq2 hxc bM bN
          go_wp2_with fail
          simp only [List.append_eq, List.cons_append, List.nil_append]
          go_region_held3 (fun w' => w'.cell? ⟨ab, 1, none⟩ = some (.int .i64 i) ∧ w'.cell? ⟨X, 0, none⟩ = some (.slice Ax N cx)) (first | exact KC.out _ Q14.out | exact KC.out _ Q13.out | exact KC.out _ Q11.out | exact KC.out _ Q9.out | exact KC.out _ Q8.out | exact KC.out _ Q7.out | exact KC.out _ Q6.out | exact KC.out _ Q5.out | exact KC.out _ Q4.out | exact KC.out _ Q3.out | exact KC.out _ Q2.out | exact KC.out _ Q1.out | exact KC.out _ (below_drew (Below.refl _ _)) | exact KC.out _ (below_drewN (Below.refl _ _) _) | go_keep) (first | (go_at_call 15; refine (C15.out _ Q14.out).mono ?_; rintro e wk15 ⟨rfl, rfl⟩; skip) | (go_at_call 37; refine (C14.out _ Q13.out).mono ?_; rintro e wk14 ⟨rfl, hq⟩; have Q14 := Lib.hid (keep_trans Q13.out hq)) | (go_at_call 16; refine (C13.out _ Q11.out).mono ?_; rintro e wk13 ⟨rfl, hq⟩; have Q13 := Lib.hid (keep_trans Q11.out hq)) | (go_at_call 36; refine (C12.out _ Q11.out).mono ?_; rintro e wk12 ⟨rfl, rfl⟩; skip) | (go_at_call 17; refine (C11.out _ Q9.out).mono ?_; rintro e wk11 ⟨rfl, hq⟩; have Q11 := Lib.hid (keep_trans Q9.out hq)) | (go_at_call 35; refine (C10.out _ Q9.out).mono ?_; rintro e wk10 ⟨rfl, rfl⟩; skip) | (go_at_call 14; refine (C9.out _ Q8.out).mono ?_; rintro e wk9 ⟨rfl, hq⟩; have Q9 := Lib.hid (keep_trans Q8.out hq)) | (go_at_call 33; refine (same2_int hn6 hn7 rfl (HBM.out _ hn6.out) R6b.out R7.out).mono ?_; rintro e wk8 ⟨rfl, hq⟩; have Q8 := Lib.hid (keep_trans Q7.out hq)) | (go_at_call 32; refine (C7.out _ Q6.out).mono ?_; rintro e wk7 ⟨A7, n7, c7, rfl, hn7, hc7, hr7, hq⟩; have R7 := Lib.hid hr7.old; have R6b := Lib.hid (R6.out.later hq); have Q7 := Lib.hid (keep_trans Q6.out hq)) | (go_at_call 34; refine (C6.out _ Q5.out).mono ?_; rintro e wk6 ⟨A6, n6, c6, rfl, hn6, hc6, hr6, hq⟩; have R6 := Lib.hid hr6.old; have Q6 := Lib.hid (keep_trans Q5.out hq)) | (go_at_call 33; refine (same2_int hn3 hn4 rfl (HBNN.out _ hn3.out) R3b.out R4.out).mono ?_; rintro e wk5 ⟨rfl, hq⟩; have Q5 := Lib.hid (keep_trans Q4.out hq)) | (go_at_call 32; refine (C2.out _ Q3.out).mono ?_; rintro e wk4 ⟨A4, n4, c4, rfl, hn4, hc4, hr4, hq⟩; have R4 := Lib.hid hr4.old; have R3b := Lib.hid (R3.out.later hq); have Q4 := Lib.hid (keep_trans Q3.out hq)) | (go_at_call 34; refine (C3.out _ Q2.out).mono ?_; rintro e wk3 ⟨A3, n3, c3, rfl, hn3, hc3, hr3, hq⟩; have R3 := Lib.hid hr3.old; have Q3 := Lib.hid (keep_trans Q2.out hq)) | (go_at_call 32; refine (C2.out _ Q1.out).mono ?_; rintro e wk2 ⟨A2, n2, c2, rfl, hn2, hc2, hr2, hq⟩; have e2 := HE2.out n2 hn2.out; have Q2 := Lib.hid (keep_trans Q1.out hq)) | (go_at_call 31; refine (C1.out _ (by first | exact below_drew (Below.refl _ _) | exact below_drewN (Below.refl _ _) _ | exact Below.refl _ _)).mono ?_; rintro e wk1 ⟨rfl, hq⟩; have Q1 := Lib.hid (keep_trans (show Below wc.heap.size wc _ from (by first | exact below_drew (Below.refl _ _) | exact below_drewN (Below.refl _ _) _ | exact Below.refl _ _)) hq)))
          go_wp2
          go_roundw
          case rel => exact HNX.out _ Q14.out
          case measure => simp [intOf]; omega
    · have HB := Lib.hid hst.out.hb
      have hi : ¬ (k : Int) < (len : Int) := by omega
      clear hst
      go_wp2
      go_ret
      exact ⟨rfl, HB.out⟩
end Go.Proofs.YtffphlbbophjfaaDoor.Bs
