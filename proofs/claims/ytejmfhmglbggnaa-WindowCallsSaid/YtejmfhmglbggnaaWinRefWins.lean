/- The document's Wins of chapter 8 at any times and horizon, proved by walking its text. Conditions: numbers are int64. -/
import Derived.RangeFuncBox
import Derived.RangeFuncLeaves
import Derived.Shelf.Abstract
import Derived.OwnWalkIn
import Derived.TacticsInMore
import Derived.LoopNIn
import Derived.LoopIn
import Derived.BigRegionIn
import Derived.RangeFuncNested
import Derived.RangeFuncCalls
import Derived.Shelf.RegionOpen
import Derived.Sort.QuietIn
import Derived.StillTail
import Derived.StillTactics
import Derived.Maps.AppendAt
import Derived.Lib.SliceRun
import Derived.RangeFuncNested
import Derived.Test.YtejmfhmglbggnaaWinRefCk
import Derived.IntWalk
import Derived.ChangeSlices
import Derived.Deep.SlicePairs
import Derived.Deep.Strs
import Derived.ChangeArms
import Derived.Carry
import Derived.OpenShut
import Derived.Lib.QuietBelow
import Derived.Deep.QuietTactic
import Derived.Test.YtejmfhmglbggnaaWinRefJoin
namespace Go.Proofs.Ytejmfhmglbggnaa.Wn
open Go.ChangeShapes Go.WideShapes Go.ChangeAt Go.RowKit Go.Deep Go.Sort
set_option linter.unusedVariables false
set_option linter.unusedSimpArgs false
attribute [local go_sem] Oper.semAt_some

theorem tcells {W : World} {g : Nat} {t : TypeId} {a b c : Value} (h : Blk W g t [a, b, c]) : W.cell? ⟨g, 0, none⟩ = some a ∧ W.cell? ⟨g, 1, none⟩ = some b ∧ W.cell? ⟨g, 2, none⟩ = some c := ⟨h.cell 0, h.cell 1, h.cell 2⟩
theorem WinsE.no2 {w w' : World} {l : List Win} {x y : Int} (hb : Below w.heap.size w w') (hl : l = []) (hx : y = x) : WinsE w l x (.returned (.tuple #[.slice none 0 0, .int .i64 y])) w' := WinsE.no hb hl hx

set_option maxRecDepth 100000 in
set_option maxHeartbeats 8000000 in
theorem refwins_any (t : Tm) (h : Int) (w : World) : Calls Try.prog 18 #[.agg #[.int .i64 t.f, .int .i64 t.e, .int .i64 t.l], .int .i64 h] w (WinsE w (wn t h) (we t h)) := by
  have BS := Lib.hid (Blk.new w 27 [.int .i64 t.f, .int .i64 t.e, .int .i64 t.l])
  have HB := Lib.hid ((Below.refl w.heap.size w).alloc (Nat.le_refl _) (.cells #[.int .i64 t.f, .int .i64 t.e, .int .i64 t.l] 27))
  have C1 := Lib.hid (refcheck_any t)
  by_cases hc : ck t = 0
  · rw [hc] at C1
    by_cases hh : tick h = true
    · have C2 := Lib.hid (refcheck_b (x := h) (b := 0) (by rw [if_pos hh]))
      have C3 := Lib.hid (refcount_ok t h hc hh)
      by_cases hn : 256 < cn t h
      · have HE : Hid (we t h = 3) := Lib.hid (by unfold we; rw [if_neg (by omega), if_neg (by simp [hh]), if_pos hn])
        have HL : Hid (wn t h = []) := Lib.hid (by unfold wn; rw [if_neg (by rw [HE.out]; omega)])
        obtain ⟨f, s, l⟩ := t
        dsimp only at C1 C3 BS HB ⊢
        obtain ⟨k, hk⟩ : ∃ k, k = cn ⟨f, s, l⟩ h := ⟨_, rfl⟩
        rw [← hk] at C3 hn
        clear hk hc hh
        go_enter Try.func18, Try.ntmps18
        go_wp2_with (first | (go_at_call 20; (with_reducible refine (C1.out _).mono ?_); rintro e1 w1 ⟨rfl, hb⟩; have BS := Lib.hid (BS.out.after hb); have HB := Lib.hid (below_then HB.out hb HB.out.size); clear hb; obtain ⟨t0, t1, t2⟩ := tcells BS.out) | (go_at_call 39; (with_reducible refine (C2.out _).mono ?_); rintro e1 w1 ⟨rfl, rfl⟩) | (go_at_call 40; (with_reducible refine (C3.out _).mono ?_); rintro e1 w1 ⟨rfl, rfl⟩) | fail)
        go_ret2
        exact WinsE.no2 HB.out HL.out HE.out.symm
      · have HE : Hid (we t h = 0) := Lib.hid (by unfold we; rw [if_neg (by omega), if_neg (by simp [hh]), if_neg hn])
        have HF := Lib.hid (first_at HE.out)
        have hk0 := cn_nonneg (h := h) hc
        obtain ⟨k, hk⟩ : ∃ k : Nat, cn t h = k := ⟨(cn t h).toNat, (Int.toNat_of_nonneg hk0).symm⟩
        have HWN : Hid (wn t h = jn (ws t k)) := Lib.hid (by unfold wn; rw [if_pos HE.out, hk]; rfl)
        have hck := ck_ok hc
        have HF2 : Hid (∀ i : Nat, i < k → 0 ≤ t.f + t.e * i ∧ t.f + t.e * i ≤ 1099511627776) := Lib.hid fun i hi => (HF.out i (by rw [hk]; simpa using hi)).2.2
        rw [hk] at C3 hn
        clear hk hk0 HF
        obtain ⟨f, s, l⟩ := t
        dsimp only at C1 C3 BS HB hck HF2 ⊢
        clear hc hh
        go_enter Try.func18, Try.ntmps18
        go_wp2_with (first | (go_at_call 20; (with_reducible refine (C1.out _).mono ?_); rintro e1 w1 ⟨rfl, hb⟩; have BS := Lib.hid (BS.out.after hb); have HB := Lib.hid (below_then HB.out hb HB.out.size); clear hb; obtain ⟨t0, t1, t2⟩ := tcells BS.out) | (go_at_call 39; (with_reducible refine (C2.out _).mono ?_); rintro e1 w1 ⟨rfl, rfl⟩) | (go_at_call 40; (with_reducible refine (C3.out _).mono ?_); rintro e1 w1 ⟨rfl, rfl⟩) | fail)
        go_loopw [8, 9] (fun v8 v9 wr => ∃ i : Nat, v9 = .int .i64 i ∧ i ≤ k ∧ Hid (wr.ownsRow (w.heap.size + 1) 31 2 v8 i (kc (ws ⟨f, s, l⟩ i))) ∧ Hid (Blk wr w.heap.size 27 [.int .i64 f, .int .i64 s, .int .i64 l]) ∧ Hid (Below w.heap.size w wr)) (fun _ v _ => k - (intOf v).toNat)
        case atStart => exact ⟨0, rfl, by omega, Lib.hid (World.ownsRow_nil _ _ _ _), BS, HB⟩
        case round =>
          clear BS HB t0 t1 t2
          obtain ⟨i, rfl, hi, HO, BS, HB⟩ := hrel
          obtain ⟨t0, t1, t2⟩ := tcells BS.out
          by_cases hlt : i < k
          · have hii : (i : Int) < (k : Int) := by omega
            obtain ⟨y0, y1⟩ := HF2.out i hlt
            have z0 : 0 ≤ (i : Int) * s := Int.mul_nonneg (by omega) (by omega)
            have z1 : f + (i : Int) * s ≤ 1099511627776 := by rw [Int.mul_comm]; exact y1
            have HJ : Hid (ws ⟨f, s, l⟩ (i + 1) = ws ⟨f, s, l⟩ i ++ [(f + (i : Int) * s, f + (i : Int) * s + l)]) := Lib.hid (by rw [ws_succ]; simp only [Int.mul_comm])
            obtain ⟨A3, c3, hv3, _, _⟩ := own_form HO.out
            subst hv3
            clear y0 y1
            go_wp2_with (at_builtin; refine stop ?_)
            unfold Stop
            refine wpList_append_rd rfl (.tmp 40) (.tmp 47) 22 rfl (w.heap.size + 1) 31 _ 2 16 Try.underlying22 info_win rfl (by omega) (by omega) _ i (kc (ws ⟨f, s, l⟩ i)) rfl (HO.out.alloc _) (fun _ => True) (some ⟨wr.heap.size, 0, none⟩) 1 1 [.int .i64 (f + (i : Int) * s), .int .i64 (f + (i : Int) * s + l)] rfl rfl (fun _ => ⟨_, rfl, trivial, cells_two wr _ _ _⟩) (by simp [Value.oneCell']) (by omega) (by have := BS.out.lt; simp; omega) ?_
            intro v' w1 hown hbel
            obtain ⟨g', cap', rfl⟩ := ownsRow_succ hown.out
            have HB1 := Lib.hid ((HB.out.alloc (by have := HB.out.size; exact this) _).trans (hbel.out.mono (Nat.le_succ _)))
            have BS1 : Hid (Blk w1 w.heap.size 27 [.int .i64 f, .int .i64 s, .int .i64 l]) := Lib.hid ((BS.out.alloc _).below hbel.out (Nat.lt_succ_self _))
            clear hbel
            go_wp2
            go_roundw
            case rel => exact ⟨i + 1, by go_num, by omega, by show World.ownsRow _ _ _ _ _ _ _; rw [HJ.out, kc_append]; exact hown.out, BS1, HB1⟩
            case measure => simp [intOf]; omega
          · obtain rfl : i = k := by omega
            obtain ⟨A3, c3, hv3, hc3, hr3⟩ := own_form HO.out
            subst hv3
            have CJ := Lib.hid (refjoined_any wr A3 i c3 (ws ⟨f, s, l⟩ i) (by show _ = _; rw [ws_length]) (by omega) (hr3.more fun b hb => hb.2))
            clear hr3
            go_wp2_with (go_at_call 41; refine CJ.out.mono ?_; rintro e5 w5 ⟨A5, n5, c5, rfl, hn5, hc5, hr5, hb5⟩)
            go_ret2
            rw [HE.out, HWN.out]
            exact ⟨A5, n5, c5, rfl, hn5, hc5, hr5.grow HB.out.size, below_then HB.out hb5 HB.out.size⟩
    · have C2 := Lib.hid (refcheck_b (x := h) (b := 9) (by rw [if_neg hh]))
      have HE : Hid (we t h = 9) := Lib.hid (by unfold we; rw [if_neg (by omega), if_pos (by simpa using hh)])
      have HL : Hid (wn t h = []) := Lib.hid (by unfold wn; rw [if_neg (by rw [HE.out]; omega)])
      obtain ⟨f, s, l⟩ := t
      dsimp only at C1 BS HB ⊢
      clear hc hh
      go_enter Try.func18, Try.ntmps18
      go_wp2_with (first | (go_at_call 20; (with_reducible refine (C1.out _).mono ?_); rintro e1 w1 ⟨rfl, hb⟩; have BS := Lib.hid (BS.out.after hb); have HB := Lib.hid (below_then HB.out hb HB.out.size); clear hb; obtain ⟨t0, t1, t2⟩ := tcells BS.out) | (go_at_call 39; (with_reducible refine (C2.out _).mono ?_); rintro e1 w1 ⟨rfl, rfl⟩) | (go_at_call 40; (with_reducible refine (C3.out _).mono ?_); rintro e1 w1 ⟨rfl, rfl⟩) | fail)
      go_ret2
      exact WinsE.no2 HB.out HL.out HE.out.symm
  · have HE : Hid (we t h = ck t) := Lib.hid (by unfold we; rw [if_pos hc])
    have HL : Hid (wn t h = []) := Lib.hid (by unfold wn; rw [if_neg (by rw [HE.out]; exact hc)])
    obtain ⟨f, s, l⟩ := t
    dsimp only at C1 BS HB ⊢
    obtain ⟨k, hk⟩ : ∃ k, k = ck ⟨f, s, l⟩ := ⟨_, rfl⟩
    have HK := Lib.hid hk
    rw [← hk] at C1 hc
    have hkn : (k == 0) = false := by simpa using hc
    clear hk
    go_enter Try.func18, Try.ntmps18
    go_wp2_with (first | (go_at_call 20; (with_reducible refine (C1.out _).mono ?_); rintro e1 w1 ⟨rfl, hb⟩; have BS := Lib.hid (BS.out.after hb); have HB := Lib.hid (below_then HB.out hb HB.out.size); clear hb; obtain ⟨t0, t1, t2⟩ := tcells BS.out) | (go_at_call 39; (with_reducible refine (C2.out _).mono ?_); rintro e1 w1 ⟨rfl, rfl⟩) | (go_at_call 40; (with_reducible refine (C3.out _).mono ?_); rintro e1 w1 ⟨rfl, rfl⟩) | fail)
    go_ret2
    exact WinsE.no2 HB.out HL.out (by rw [HE.out, HK.out])
end Go.Proofs.Ytejmfhmglbggnaa.Wn
