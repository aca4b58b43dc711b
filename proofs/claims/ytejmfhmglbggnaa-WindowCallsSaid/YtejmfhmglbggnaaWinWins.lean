/- Contract of window.Wins. No conditions but that the horizon and the times are int64. -/
import Derived.RangeFuncBox
import Derived.RangeFuncLeaves
import Derived.Shelf.Abstract
import Derived.OwnWalkIn
import Derived.TacticsInMore
import Derived.LoopNIn
import Derived.LoopIn
import Derived.BigRegionIn
import Derived.RangeFuncNested
import Derived.RangeFuncCalls
import Derived.Shelf.RegionOpen
import Derived.Sort.QuietIn
import Derived.StillTail
import Derived.StillTactics
import Derived.Maps.AppendAt
import Derived.Lib.SliceRun
import Derived.Test.YtejmfhmglbggnaaWinUnion
import Derived.IntWalk
import Derived.Test.YtejmfhmglbggnaaWinCheck
namespace Go.Proofs.Ytejmfhmglbggnaa.Wn
open Go.ChangeShapes Go.WideShapes Go.ChangeAt Go.RowKit Go.Shelf
set_option linter.unusedVariables false
set_option linter.unusedSimpArgs false
attribute [local go_sem] Oper.semAt_some

/-- Wins tells its row, in memory of its own, and its error -/
def WinsE (w : World) (l : List Win) (x : Int) (e : Ending) (w' : World) : Prop :=
  ∃ (A : Option Addr) (n c : Nat), e = .returned (.tuple #[.slice A n c, .int .i64 x]) ∧ Hid (n = l.length) ∧ n ≤ c ∧ Rd w' (fun b => w.heap.size ≤ b ∧ b < w'.heap.size) A (kc l) ∧ Below w.heap.size w w'
theorem WinsE.no {w w' : World} {l : List Win} {x y : Int} (hb : Below w.heap.size w w') (hl : l = []) (hx : y = x) : WinsE w l x (.returned (.tuple #[.slice none 0 0, .int .i64 y])) w' := by
  subst hl; subst hx
  exact ⟨none, 0, 0, rfl, Lib.hid rfl, Nat.le_refl _, Rd.none_, hb⟩

theorem first_at {t : Tm} {h : Int} (hw : we t h = 0) : ∀ i : Nat, i < (cn t h).toNat → Tk.atV t.f t.e i = t.f + t.e * i ∧ Tk.atE t.f t.e i = 0 ∧ 0 ≤ t.f + t.e * i ∧ t.f + t.e * i ≤ 1099511627776 := by
  intro i hi
  obtain ⟨hc, hh, hn⟩ := we_ok hw
  have hk := ck_ok hc
  have hn0 := cn_nonneg (h := h) hc
  have hle := cn_at hc (h := h) (i := i) (by omega)
  have ht := (tick_iff h).1 hh
  have h0 : 0 ≤ t.e * (i : Int) := Int.mul_nonneg (by omega) (by omega)
  by_cases he : t.e = 0
  · have hi0 : i = 0 := by
      have : cn t h ≤ 1 := by unfold cn; simp only [he, if_true]; split <;> omega
      omega
    subst hi0
    simp [Tk.atV, Tk.atE, he]; omega
  · have e1 : (0 ≤ t.f ∧ t.f ≤ 1099511627776) ∧ (0 ≤ t.e ∧ t.e ≤ 1099511627776) ∧ 0 ≤ (i : Int) := ⟨by omega, by omega, by omega⟩
    refine ⟨?_, ?_, by omega, by omega⟩
    · unfold Tk.atV; rw [if_pos e1, if_neg he, if_pos (by omega)]
    · unfold Tk.atE; rw [if_pos e1, if_neg he, if_pos (by omega)]
theorem count_cn {t : Tm} {h : Int} (hc : ck t = 0) (hh : tick h = true) : Tk.countV t.f t.e h = cn t h := by
  have hk := ck_ok hc
  have ht := (tick_iff h).1 hh
  unfold Tk.countV cn
  by_cases h1 : t.f > h
  · rw [if_neg (by omega), if_pos h1]
  · rw [if_pos ⟨⟨by omega, by omega⟩, ⟨by omega, by omega⟩, ⟨by omega, by omega⟩, by omega⟩, if_neg h1]

/-- joined behind the iterator that has just been made -/
theorem joined_first (w : World) (t : Tm) (h : Int) (hw : we t h = 0) :
    Calls Try.prog 33 #[.func (.func 44) #[] #[.pointer (some ⟨w.heap.size + 1, 0, none⟩), .pointer (some ⟨w.heap.size, 0, none⟩)]]
      ((w.alloc (.cells #[.int .i64 t.f, .int .i64 t.e, .int .i64 t.l] 27)).alloc (.cells #[.int .i64 (cn t h)] 2)) (WinsNew w (wn t h)) := by
  obtain ⟨hc, hh, hn⟩ := we_ok hw
  have hk := ck_ok hc
  have hn0 := cn_nonneg (h := h) hc
  obtain ⟨W, hW⟩ : ∃ W, W = (w.alloc (.cells #[.int .i64 t.f, .int .i64 t.e, .int .i64 t.l] 27)).alloc (.cells #[.int .i64 (cn t h)] 2) := ⟨_, rfl⟩
  have hb : Below w.heap.size w W := by rw [hW]; exact ((Below.refl _ w).alloc (Nat.le_refl _) _).alloc (by simp) _
  have hs : W.heap.size = w.heap.size + 2 := by rw [hW]; simp
  have b0 : Blk W w.heap.size 27 [.int .i64 t.f, .int .i64 t.e, .int .i64 t.l] := by rw [hW]; exact (Blk.new w _ [.int .i64 t.f, .int .i64 t.e, .int .i64 t.l]).alloc _
  have b1 : Blk W (w.heap.size + 1) 2 [.int .i64 ((cn t h).toNat : Int)] := by
    rw [hW, Int.toNat_of_nonneg hn0]
    have := Blk.new (w.alloc (.cells #[.int .i64 t.f, .int .i64 t.e, .int .i64 t.l] 27)) 2 [.int .i64 (cn t h)]
    rwa [World.size_alloc] at this
  rw [← hW]
  have e1 : wn t h = jn (ws t (cn t h).toNat) := by rw [wn, if_pos hw]
  rw [e1]
  refine (callsIn_wide.1 (joined_in _ _ w.heap.size w.heap.size 2 (ws t (cn t h).toNat) W (enters_of Try.func44 (by kernel_rfl) rfl) (fun W' hW' => ?_) (by omega) (by omega) (by rw [ws_length]; omega))).mono fun e w' h => WinsNew.after h hb
  have := first_stops w.heap.size w.heap.size t.f t.e t.l (cn t h).toNat (by omega) ⟨by omega, by omega⟩ (Lib.hid (first_at hw)) W' (b0.below hW' b0.lt) (b1.below hW' b1.lt)
  rw [ws_length]
  exact this

set_option maxHeartbeats 1000000 in
theorem wins_any (t : Tm) (h : Int) (w : World) : Calls Try.prog 9 #[tv t, .int .i64 h] w (WinsE w (wn t h) (we t h)) := by
  have HBA : Hid (Below w.heap.size w (w.alloc (.cells #[.int .i64 t.f, .int .i64 t.e, .int .i64 t.l] 27))) := Lib.hid ((Below.refl _ w).alloc (Nat.le_refl _) _)
  have C1 : Hid (∀ W, Calls Try.prog 19 #[.agg #[.int .i64 t.f, .int .i64 t.e, .int .i64 t.l]] W fun e w' => e = .returned (.int .i64 (ck t)) ∧ Below W.heap.size W w') := Lib.hid fun W => check_any t W
  have bT := Blk.new w 27 [.int .i64 t.f, .int .i64 t.e, .int .i64 t.l]
  have HT : Hid (∀ W, Below (w.alloc (.cells #[.int .i64 t.f, .int .i64 t.e, .int .i64 t.l] 27)).heap.size (w.alloc (.cells #[.int .i64 t.f, .int .i64 t.e, .int .i64 t.l] 27)) W → W.cell? ⟨w.heap.size, 0, none⟩ = some (.int .i64 t.f) ∧ W.cell? ⟨w.heap.size, 1, none⟩ = some (.int .i64 t.e) ∧ W.cell? ⟨w.heap.size, 2, none⟩ = some (.int .i64 t.l)) := Lib.hid fun W hW => by
    have hb := bT.after hW
    exact ⟨hb.cell 0, hb.cell 1, hb.cell 2⟩
  have HJF : Hid (∀ W, Below w.heap.size w W → we t h = 0 → Calls Try.prog 33 #[.func (.func 44) #[] #[.pointer (some ⟨W.heap.size + 1, 0, none⟩), .pointer (some ⟨W.heap.size, 0, none⟩)]]
      ((W.alloc (.cells #[.int .i64 t.f, .int .i64 t.e, .int .i64 t.l] 27)).alloc (.cells #[.int .i64 (cn t h)] 2)) (WinsNew w (wn t h))) := Lib.hid fun W hW h0 => (joined_first W t h h0).mono fun e w' h => WinsNew.after h hW
  clear bT
  show Calls Try.prog 9 #[.agg #[.int .i64 t.f, .int .i64 t.e, .int .i64 t.l], .int .i64 h] w _
  by_cases hc : ck t = 0
  · rw [hc] at C1
    have hfst : ∀ W, Calls Try.prog 34 _ W _ := fun W => first_any t.f t.e t.l (cn t h) W
    have HF := Lib.hid hfst
    clear hfst
    by_cases hh : tick h = true
    · have h' := (tick_iff h).1 hh
      have hcv := count_cn hc hh
      have CC : Hid (∀ W, Calls Try.prog 32 #[.int .i64 t.f, .int .i64 t.e, .int .i64 h] W fun e w' => e = .returned (.int .i64 (cn t h)) ∧ W = w') := Lib.hid fun W => by
        have := Tk.count_any t.f t.e h W; rw [hcv] at this; exact this
      clear hcv
      by_cases hn : 256 < cn t h
      · have HE : Hid (we t h = 3) := Lib.hid (by unfold we; rw [if_neg (by omega), if_neg (by simp [hh]), if_pos hn])
        have HL : Hid (wn t h = []) := Lib.hid (by unfold wn; rw [if_neg (by rw [HE.out]; omega)])
        obtain ⟨f, s, l⟩ := t
        dsimp only at C1 HT CC HF HJF HBA
        obtain ⟨k, hk⟩ : ∃ k, k = cn ⟨f, s, l⟩ h := ⟨_, rfl⟩
        rw [← hk] at CC hn
        clear HF HJF hk
        go_enter Try.func9, Try.ntmps9
        go_wp2_with (first | (go_at_call 19; with_reducible refine (C1.out _).mono ?_; rintro e w1 ⟨rfl, hb1⟩; obtain ⟨t0, t1, t2⟩ := HT.out w1 hb1) | (go_at_call 31; with_reducible refine (Tk.check_ok h w1 h'.1 h'.2).mono ?_; rintro e w2 ⟨rfl, rfl⟩) | (go_at_call 32; with_reducible refine (CC.out _).mono ?_; rintro e w3 ⟨rfl, rfl⟩) | fail)
        go_ret2
        exact WinsE.no (below_then HBA.out hb1 HBA.out.size) HL.out HE.out.symm
      · have HE : Hid (we t h = 0) := Lib.hid (by unfold we; rw [if_neg (by omega), if_neg (by simp [hh]), if_neg hn])
        have HJ : Hid (∀ W, Below w.heap.size w W → _) := Lib.hid fun W hW => HJF.out W hW HE.out
        obtain ⟨f, s, l⟩ := t
        dsimp only at C1 HT CC HF HJ HBA
        obtain ⟨k, hk⟩ : ∃ k, k = cn ⟨f, s, l⟩ h := ⟨_, rfl⟩
        rw [← hk] at CC hn HF HJ
        clear HJF hk
        go_enter Try.func9, Try.ntmps9
        go_wp2_with (first | (go_at_call 19; with_reducible refine (C1.out _).mono ?_; rintro e w1 ⟨rfl, hb1⟩; obtain ⟨t0, t1, t2⟩ := HT.out w1 hb1; have hb2 := below_then HBA.out hb1 HBA.out.size) | (go_at_call 31; with_reducible refine (Tk.check_ok h w1 h'.1 h'.2).mono ?_; rintro e w2 ⟨rfl, rfl⟩) | (go_at_call 32; with_reducible refine (CC.out _).mono ?_; rintro e w3 ⟨rfl, rfl⟩) | (go_at_call 34; with_reducible refine (HF.out _).mono ?_; rintro e w4 ⟨rfl, rfl⟩) | (go_at_call 33; refine (HJ.out _ hb2).mono ?_; rintro e w5 ⟨A5, n5, c5, rfl, hn5, hc5, hr5, hb5⟩) | fail)
        go_ret2
        exact ⟨A5, n5, c5, by rw [HE.out]; rfl, hn5, hc5, hr5, hb5⟩
    · have h' : h < 0 ∨ 1099511627776 < h := by
        have h2 : ¬ (0 ≤ h ∧ h ≤ 1099511627776) := fun h' => hh ((tick_iff h).2 h')
        omega
      have HE : Hid (we t h = 9) := Lib.hid (by unfold we; rw [if_neg (by omega), if_pos (by simpa using hh)])
      have HL : Hid (wn t h = []) := Lib.hid (by unfold wn; rw [if_neg (by rw [HE.out]; omega)])
      obtain ⟨f, s, l⟩ := t
      dsimp only at C1 HT HF HJF HBA
      clear HF HJF
      go_enter Try.func9, Try.ntmps9
      go_wp2_with (first | (go_at_call 19; with_reducible refine (C1.out _).mono ?_; rintro e w1 ⟨rfl, hb1⟩) | (go_at_call 31; with_reducible refine (Tk.check_bad h w1 h').mono ?_; rintro e w2 ⟨rfl, rfl⟩) | fail)
      go_ret2
      exact WinsE.no (below_then HBA.out hb1 HBA.out.size) HL.out HE.out.symm
  · have HE : Hid (we t h = ck t) := Lib.hid (by unfold we; rw [if_pos hc])
    have HL : Hid (wn t h = []) := Lib.hid (by unfold wn; rw [if_neg (by rw [HE.out]; exact hc)])
    obtain ⟨f, s, l⟩ := t
    dsimp only at C1 HT HJF HBA
    obtain ⟨k, hk⟩ : ∃ k, k = ck ⟨f, s, l⟩ := ⟨_, rfl⟩
    have HK := Lib.hid hk
    rw [← hk] at C1 hc
    have hkn : (k == 0) = false := by simpa using hc
    clear HJF hk
    go_enter Try.func9, Try.ntmps9
    go_wp2_with (first | (go_at_call 19; with_reducible refine (C1.out _).mono ?_; rintro e w1 ⟨rfl, hb1⟩) | fail)
    go_ret2
    exact WinsE.no (below_then HBA.out hb1 HBA.out.size) HL.out (by rw [HE.out, HK.out])
end Go.Proofs.Ytejmfhmglbggnaa.Wn
