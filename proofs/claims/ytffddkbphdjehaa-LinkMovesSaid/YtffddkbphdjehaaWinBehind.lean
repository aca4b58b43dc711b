/- Package window's iterator of the windows that end behind a tick: it hands over each in its order, until it is told to stop. Conditions: the rows hold fewer than a million windows. -/
import Derived.RangeFuncBox
import Derived.RangeFuncLeaves
import Derived.Shelf.Abstract
import Derived.OwnWalkIn
import Derived.TacticsInMore
import Derived.LoopNIn
import Derived.LoopIn
import Derived.Maps.AppendAt
import Derived.Lib.SliceRun
import Derived.Test.YtffddkbphdjehaaWinFirst
import Derived.IntWalk
namespace Go.Proofs.Ytffddkbphdjehaa.Wn
open Go.ChangeShapes Go.WideShapes Go.ChangeAt Go.RowKit Go.Shelf
set_option linter.unusedVariables false
set_option linter.unusedSimpArgs false
attribute [local go_sem] Oper.semAt_some

/-- a window of a row -/
abbrev Of (zs : List Win) := {p : Win // p ∈ zs}
def enco {zs : List Win} (x : Of zs) : Array Value := encw x.1
/-- where the iterator stands: what it has handed over -/
def BsRel (w0 : World) (B : Nat) (A : Option Addr) (n c : Nat) (zs : List Win) (x0 : Int) (J : List (Of zs) → World → Prop) (v8 : Value) (wr : World) : Prop :=
  ∃ (k : Nat) (pre : List (Of zs)), v8 = .int .i64 k ∧ k ≤ n ∧ Hid (pre.map Subtype.val = bh x0 (zs.take k)) ∧ Hid (J pre wr) ∧ Hid (Below w0.heap.size w0 wr) ∧ Hid (Blk wr (B + 1) 2 [.int .i64 x0])
theorem bh_take (x : Int) (zs : List Win) (k : Nat) (hk : k < zs.length) : bh x (zs.take (k + 1)) = bh x (zs.take k) ++ if x < (zs.getD k (0, 0)).2 then [zs.getD k (0, 0)] else [] := by
  have e : zs.getD k (0, 0) = zs[k] := by simp [List.getD_eq_getElem?_getD, List.getElem?_eq_getElem hk]
  rw [List.take_add_one, List.getElem?_eq_getElem hk, e]
  show (zs.take k ++ [zs[k]]).filter _ = _
  rw [List.filter_append]
  show _ = (zs.take k).filter _ ++ _
  congr 1
  simp [List.filter_cons]
theorem bh_take_lt (x : Int) (zs : List Win) (k : Nat) (hk : k < zs.length) (h : x < (zs.getD k (0, 0)).2) : (bh x (zs.take k)).length < (bh x zs).length := by
  have h1 : bh x zs = bh x (zs.take (k + 1)) ++ bh x (zs.drop (k + 1)) := by
    unfold bh; rw [← List.filter_append, List.take_append_drop]
  rw [h1, bh_take x zs k hk, if_pos h]
  simp

set_option maxRecDepth 100000 in
set_option maxHeartbeats 2000000 in
theorem behind1_in (l B : Nat) (w0 : World) (A : Option Addr) (n c : Nat) (zs : List Win) (x0 : Int) (hn : Hid (n = zs.length)) (hN : n ≤ 1000000) (hx : Rd w0 (· < w0.heap.size) A (kc zs)) (hB0 : w0.heap.size ≤ B)
    (J Jx : List (Of zs) → World → Prop) (W : World) (hJ : AbidesFrom W.heap.size J)
    (hY : ∀ pre x W1, J pre W1 → pre.length < (bh x0 zs).length → YieldAt Fence.wide 4 Try.prog l (enco x) W1 fun e W' =>
      (e = .returned (.bool true) ∧ J (pre ++ [x]) W' ∧ KpB w0.heap.size B 2 W1 W') ∨ (e = .returned (.bool false) ∧ Jx (pre ++ [x]) W'))
    (hb : Below w0.heap.size w0 W) (hR : Blk W B 69 [.slice A n c]) (hX : Blk W (B + 1) 2 [.int .i64 x0]) (h0 : J [] W) :
    CallsIn Fence.wide 5 Try.prog 41 #[.func (.yield l) #[] #[], .pointer (some ⟨B, 0, none⟩), .pointer (some ⟨B + 1, 0, none⟩)] W fun e W' => (∃ v, e = .returned v) ∧
      ((∃ pre : List (Of zs), pre.map Subtype.val = bh x0 zs ∧ J pre W') ∨ (∃ pre : List (Of zs), (∃ rest, pre.map Subtype.val ++ rest = bh x0 zs) ∧ Jx pre W')) := by
  have HX := Lib.hid hx
  have hr0 := hR.cell 0
  simp only [List.getElem?_cons_zero] at hr0
  refine callsIn_of_wp Try.func41 rfl trivial ?_ rfl
  simp only [Try.ntmps41, List.size_toArray, List.length_cons, List.length_nil, Nat.reduceAdd, Nat.reduceSub, Array.replicate_succ, Array.replicate_zero, List.push_toArray, List.append_toArray, List.nil_append, List.cons_append]
  gi_wp2
  clear hr0 hx
  gi_loopw [8] (fun v8 wr => BsRel w0 B A n c zs x0 J v8 wr) (fun v _ => n - (intOf v).toNat)
  case atStart => exact ⟨0, [], rfl, by omega, Lib.hid rfl, h0, hb, hX⟩
  case round =>
    obtain ⟨k, pre, rfl, hk, hP, hJs, hbw, hXb⟩ := hrel
    by_cases hlt : k < n
    · have hkl : k < zs.length := by rw [← hn.out]; exact hlt
      obtain ⟨ad, rfl, hS, hca⟩ := (HX.out.below2 hbw.out).key2 (k := k) hkl
      obtain ⟨ha0, ha1⟩ := hca k hkl
      have hT := bh_take x0 zs k hkl
      have hL := bh_take_lt x0 zs k hkl
      have hmm : zs.getD k (0, 0) ∈ zs := by simp [List.getD_eq_getElem?_getD, List.getElem?_eq_getElem hkl]
      obtain ⟨p, hp⟩ : ∃ p, p = zs.getD k (0, 0) := ⟨_, rfl⟩
      rw [← hp] at ha0 ha1 hT hL hmm
      have hi : (k : Int) < (n : Int) := by omega
      obtain ⟨p1, p2⟩ := p
      dsimp only at ha0 ha1 hT hL
      have HT := Lib.hid hT
      have x0c := (hXb.out.alloc (.cells #[.int .i64 p1, .int .i64 p2] 41)).cell 0
      simp only [List.getElem?_cons_zero] at x0c
      have HJA := Lib.hid (J_alloc hJ hJs.out (.cells #[.int .i64 p1, .int .i64 p2] 41))
      have HBX := Lib.hid (hbw.out.alloc hbw.out.size (.cells #[.int .i64 p1, .int .i64 p2] 41))
      have HXA := Lib.hid (hXb.out.alloc (.cells #[.int .i64 p1, .int .i64 p2] 41))
      clear hT hca hp hJs hbw hXb
      by_cases c1 : x0 < p2
      · obtain ⟨fn, tmps, assign, body, hy, hR2⟩ := hY _ ⟨(p1, p2), hmm⟩ _ HJA.out (by have := congrArg List.length hP.out; rw [List.length_map] at this; rw [this]; exact hL c1)
        dsimp only [enco, encw] at hy
        have HE : Hid ((pre ++ [(⟨(p1, p2), hmm⟩ : Of zs)]).map Subtype.val = bh x0 (zs.take (k + 1))) := Lib.hid (by rw [HT.out, if_pos c1, List.map_append, hP.out]; rfl)
        clear hL HT
        gi_wp2
        refine hR2.mono ?_
        clear hR2 hy
        rintro e W3 (⟨rfl, hJ3, hk3⟩ | ⟨rfl, hJx3⟩)
        · have HJ3 := Lib.hid hJ3
          have HK3 := Lib.hid hk3
          clear hJ3 hk3
          gi_wp2
          go_roundw
          case rel => exact ⟨k + 1, _, by go_num, by omega, HE, HJ3, HBX.out.trans HK3.out.1, HK3.out.blk (by omega) (by omega) HXA.out⟩
          case measure => simp [intOf]; omega
        · have HJ3 := Lib.hid hJx3
          clear hJx3
          gi_wp2
          refine bodyPost_ret (results_none rfl _ _ _) rfl ?_
          exact ⟨⟨_, rfl⟩, .inr ⟨_, ⟨bh x0 (zs.drop (k + 1)), by rw [HE.out]; unfold bh; rw [← List.filter_append, List.take_append_drop]⟩, HJ3.out⟩⟩
      · have HE : Hid (pre.map Subtype.val = bh x0 (zs.take (k + 1))) := Lib.hid (by rw [HT.out, if_neg c1, List.append_nil]; exact hP.out)
        clear hL HT
        gi_wp2
        refine ⟨fun _ h => (by cases h), ?_⟩
        gi_wp2
        go_roundw
        case rel => exact ⟨k + 1, pre, by go_num, by omega, HE, HJA, HBX.out, HXA.out⟩
        case measure => simp [intOf]; omega
    · obtain rfl : k = n := by omega
      have hki : ¬ (k : Int) < (k : Int) := by omega
      have HE : Hid (pre.map Subtype.val = bh x0 zs) := Lib.hid (by rw [hP.out, hn.out, List.take_length])
      gi_wp2
      go_end0
      exact ⟨⟨_, rfl⟩, .inl ⟨pre, HE.out, hJs.out⟩⟩

/-- the iterator's contract -/
theorem behind_stops (B : Nat) (w0 : World) (A : Option Addr) (n c : Nat) (zs : List Win) (x0 : Int) (hn : Hid (n = zs.length)) (hN : n ≤ 1000000) (hx : Rd w0 (· < w0.heap.size) A (kc zs)) (hB0 : w0.heap.size ≤ B)
    (w : World) (hb : Below w0.heap.size w0 w) (hR : Blk w B 69 [.slice A n c]) (hX : Blk w (B + 1) 2 [.int .i64 x0]) :
    SeqStopsK Fence.wide 5 Try.prog 41 #[.pointer (some ⟨B, 0, none⟩), .pointer (some ⟨B + 1, 0, none⟩)] (enco (zs := zs)) (KpB w0.heap.size B 2) (fun ys => ys.map Subtype.val = bh x0 zs) (fun pre => ∃ rest, pre.map Subtype.val ++ rest = bh x0 zs) (bh x0 zs).length w := fun l J Jx W hW hJ _ hY h0 =>
  (behind1_in l B w0 A n c zs x0 hn hN hx hB0 J Jx W hJ hY (hb.trans (hW.mono hb.size)) (hR.below hW hR.lt) (hX.below hW hX.lt) h0).mono fun e W' ⟨he, hj⟩ => ⟨he, hj⟩

/-- making the iterator lays its two boxes -/
theorem behind_any (A : Option Addr) (n c : Nat) (x : Int) (w : World) :
    Calls Try.prog 38 #[.slice A n c, .int .i64 x] w fun e w' => e = .returned (.func (.func 41) #[] #[.pointer (some ⟨w.heap.size, 0, none⟩), .pointer (some ⟨w.heap.size + 1, 0, none⟩)]) ∧ w' = (w.alloc (.cells #[.slice A n c] 69)).alloc (.cells #[.int .i64 x] 2) := by
  go_enter Try.func38, Try.ntmps38
  go_wp2
  go_ret
  exact ⟨rfl, rfl⟩
end Go.Proofs.Ytffddkbphdjehaa.Wn
