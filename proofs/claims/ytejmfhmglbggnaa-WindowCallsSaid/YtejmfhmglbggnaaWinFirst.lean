/- Package window's iterator of the windows of times: it hands over each in its order, whatever a round does with it that leaves alone what lay and the iterator's own boxes. No conditions but that the ticks are ticks. -/
import Derived.RangeFuncBox
import Derived.RangeFuncLeaves
import Derived.Shelf.Abstract
import Derived.OwnWalkIn
import Derived.TacticsInMore
import Derived.LoopNIn
import Derived.LoopIn
import Derived.Maps.AppendAt
import Derived.Lib.SliceRun
import Derived.Test.YtejmfhmglbggnaaWinSmall
import Derived.IntWalk
namespace Go.Proofs.Ytejmfhmglbggnaa.Wn
open Go.ChangeShapes Go.WideShapes Go.ChangeAt Go.RowKit Go.Shelf
set_option linter.unusedVariables false
set_option linter.unusedSimpArgs false
attribute [local go_sem] Oper.semAt_some

/-- a window as it is handed over -/
def encw (x : Win) : Array Value := #[.agg #[.int .i64 x.1, .int .i64 x.2]]
/-- what a round leaves alone: what lay below n0, and the m blocks from B on -/
def KpB (n0 B m : Nat) (W W' : World) : Prop := Below n0 W W' ∧ ∀ b, B ≤ b → b < B + m → W'.heap[b]? = W.heap[b]?
theorem KpB.t {n0 B m : Nat} {X Y Z : World} (h : KpB n0 B m X Y) (k : KpB n0 B m Y Z) : KpB n0 B m X Z := ⟨h.1.trans k.1, fun b h1 h2 => (k.2 b h1 h2).trans (h.2 b h1 h2)⟩
theorem KpB.blk {n0 B m : Nat} {X Y : World} (h : KpB n0 B m X Y) {b : Nat} (h1 : B ≤ b) (h2 : b < B + m) {t : TypeId} {l : List Value} (hb : Blk X b t l) : Blk Y b t l := (h.2 b h1 h2).trans hb
theorem KpB.of_below {n0 B m n : Nat} {X Y : World} (h : Below n X Y) (h0 : n0 ≤ n) (hB : B + m ≤ n) : KpB n0 B m X Y := ⟨h.mono h0, fun b _ h2 => h.block b (by omega)⟩
theorem below_grow {X Y : World} (h : Below X.heap.size X Y) : X.grownBy Y none := ⟨h.os, h.tape, h.output, h.size, fun k hk _ => h.block k hk⟩
theorem J_alloc {α : Type} {B : Nat} {J : List α → World → Prop} (hJ : AbidesFrom B J) {pre : List α} {wr : World} (h : J pre wr) (o : Obj) : J pre (wr.alloc o) :=
  hJ pre wr (wr.alloc o) none h (World.grownBy_alloc wr o none) (by simp)
theorem J_below {α : Type} {B : Nat} {J : List α → World → Prop} (hJ : AbidesFrom B J) {pre : List α} {wr wr' : World} (h : J pre wr) (hb : Below wr.heap.size wr wr') : J pre wr' :=
  hJ pre wr wr' none h (below_grow hb) (by simp)

def FsRel (n0 B : Nat) (f s d : Int) (cnt : Nat) (J : List Win → World → Prop) (v8 : Value) (wr : World) : Prop :=
  ∃ k : Nat, v8 = .int .i64 k ∧ k ≤ cnt ∧ Hid (J (ws ⟨f, s, d⟩ k) wr) ∧ Hid (Blk wr B 27 [.int .i64 f, .int .i64 s, .int .i64 d])

set_option maxRecDepth 100000 in
set_option maxHeartbeats 2000000 in
theorem first1_in (l B n0 : Nat) (f s d : Int) (cnt : Nat) (hcnt : cnt ≤ 1000000) (hd : 1 ≤ d ∧ d ≤ 1099511627776)
    (hat : Hid (∀ i : Nat, i < cnt → Tk.atV f s i = f + s * i ∧ Tk.atE f s i = 0 ∧ 0 ≤ f + s * i ∧ f + s * i ≤ 1099511627776))
    (J Jx : List Win → World → Prop) (W : World) (hJ : AbidesFrom W.heap.size J)
    (hY : ∀ pre x W1, J pre W1 → pre.length < cnt → YieldAt Fence.wide 4 Try.prog l (encw x) W1 fun e W' =>
      (e = .returned (.bool true) ∧ J (pre ++ [x]) W' ∧ KpB n0 B 2 W1 W') ∨ (e = .returned (.bool false) ∧ Jx (pre ++ [x]) W'))
    (hT : Blk W B 27 [.int .i64 f, .int .i64 s, .int .i64 d]) (hN : Blk W (B + 1) 2 [.int .i64 cnt]) (h0 : J [] W) :
    CallsIn Fence.wide 5 Try.prog 44 #[.func (.yield l) #[] #[], .pointer (some ⟨B + 1, 0, none⟩), .pointer (some ⟨B, 0, none⟩)] W fun e W' => (∃ v, e = .returned v) ∧
      (J (ws ⟨f, s, d⟩ cnt) W' ∨ (∃ pre : List Win, Jx pre W')) := by
  have hn0 := hN.cell 0
  simp only [List.getElem?_cons_zero] at hn0
  refine callsIn_of_wp Try.func44 rfl trivial ?_ rfl
  simp only [Try.ntmps44, List.size_toArray, List.length_cons, List.length_nil, Nat.reduceAdd, Nat.reduceSub, Array.replicate_succ, Array.replicate_zero, List.push_toArray, List.append_toArray, List.nil_append, List.cons_append]
  gi_wp2
  clear hn0
  gi_loopw [8] (fun v8 wr => FsRel n0 B f s d cnt J v8 wr) (fun v _ => cnt - (intOf v).toNat)
  case atStart => exact ⟨0, rfl, by omega, h0, hT⟩
  case round =>
    obtain ⟨k, rfl, hk, hJs, hTb⟩ := hrel
    by_cases hlt : k < cnt
    · obtain ⟨e1, e2, e3, e4⟩ := hat.out k hlt
      have a0 := hTb.out.cell 0
      have a1 := hTb.out.cell 1
      simp only [List.getElem?_cons_zero, List.getElem?_cons_succ] at a0 a1
      have hi : (k : Int) < (cnt : Int) := by omega
      have CT : Hid (CallsIn Fence.wide 4 Try.prog 45 #[.int .i64 f, .int .i64 s, .int .i64 k] wr fun e w1 => e = .returned (.tuple #[.int .i64 (f + s * k), .int .i64 0]) ∧ Below wr.heap.size wr w1) := Lib.hid (callsIn_wide.2 ((Tk.at_any f s k wr (by omega)).mono fun e w1 h => by
        obtain ⟨h1, h2⟩ := h
        rw [e1, e2] at h1
        exact ⟨h1, h2⟩))
      obtain ⟨x, hx⟩ : ∃ x, x = f + s * (k : Int) := ⟨_, rfl⟩
      have HX := Lib.hid hx
      rw [← hx] at CT e3 e4
      clear hx e1 e2
      gi_wp2_with (refine ⟨trivial, ?_⟩; gi_at_call 45; refine CT.out.mono ?_; rintro e w1 ⟨rfl, hb1⟩; have a2 := (hTb.out.after hb1).cell 2; simp only [List.getElem?_cons_zero, List.getElem?_cons_succ] at a2; obtain ⟨fn, tmps, assign, body, hy, hR⟩ := hY _ (x, x + d) w1 (J_below hJ hJs.out hb1) (by rw [ws_length]; exact hlt); dsimp only [encw] at hy)
      refine hR.mono ?_
      have HB1 := Lib.hid hb1
      have HW : Hid (ws ⟨f, s, d⟩ k ++ [(x, x + d)] = ws ⟨f, s, d⟩ (k + 1)) := Lib.hid (by rw [ws_succ]; simp only [HX.out])
      clear hR hy a0 a1 a2 hb1
      rintro e W3 (⟨rfl, hJ3, hk3⟩ | ⟨rfl, hJx3⟩)
      · have HJ3 := Lib.hid hJ3
        have HK3 := Lib.hid hk3
        clear hJ3 hk3
        gi_wp2
        go_roundw
        case rel => exact ⟨k + 1, by go_num, by omega, by show _; rw [← HW.out]; exact HJ3.out, HK3.out.blk (Nat.le_refl _) (by omega) (hTb.out.after HB1.out)⟩
        case measure => simp [intOf]; omega
      · have HJ3 := Lib.hid hJx3
        clear hJx3
        gi_wp2
        refine bodyPost_ret (results_none rfl _ _ _) rfl ?_
        exact ⟨⟨_, rfl⟩, .inr ⟨_, HJ3.out⟩⟩
    · obtain rfl : k = cnt := by omega
      have hki : ¬ (k : Int) < (k : Int) := by omega
      gi_wp2
      go_end0
      exact ⟨⟨_, rfl⟩, .inl hJs.out⟩

/-- the iterator's contract -/
theorem first_stops (B n0 : Nat) (f s d : Int) (cnt : Nat) (hcnt : cnt ≤ 1000000) (hd : 1 ≤ d ∧ d ≤ 1099511627776)
    (hat : Hid (∀ i : Nat, i < cnt → Tk.atV f s i = f + s * i ∧ Tk.atE f s i = 0 ∧ 0 ≤ f + s * i ∧ f + s * i ≤ 1099511627776))
    (w : World) (hT : Blk w B 27 [.int .i64 f, .int .i64 s, .int .i64 d]) (hN : Blk w (B + 1) 2 [.int .i64 cnt]) :
    SeqStopsK Fence.wide 5 Try.prog 44 #[.pointer (some ⟨B + 1, 0, none⟩), .pointer (some ⟨B, 0, none⟩)] encw (KpB n0 B 2) (fun ys => ys = ws ⟨f, s, d⟩ cnt) (fun _ => True) cnt w := fun l J Jx W hW hJ _ hY h0 =>
  (first1_in l B n0 f s d cnt hcnt hd hat J Jx W hJ hY (hT.below hW hT.lt) (hN.below hW hN.lt) h0).mono fun e W' ⟨he, hj⟩ => ⟨he, hj.elim (fun h => .inl ⟨_, rfl, h⟩) (fun ⟨pre, h⟩ => .inr ⟨pre, trivial, h⟩)⟩

/-- making the iterator lays its two boxes -/
theorem first_any (f s d n : Int) (w : World) :
    Calls Try.prog 34 #[.agg #[.int .i64 f, .int .i64 s, .int .i64 d], .int .i64 n] w fun e w' => e = .returned (.func (.func 44) #[] #[.pointer (some ⟨w.heap.size + 1, 0, none⟩), .pointer (some ⟨w.heap.size, 0, none⟩)]) ∧ w' = (w.alloc (.cells #[.int .i64 f, .int .i64 s, .int .i64 d] 27)).alloc (.cells #[.int .i64 n] 2) := by
  go_enter Try.func34, Try.ntmps34
  go_wp2
  go_ret
  exact ⟨rfl, rfl⟩
end Go.Proofs.Ytejmfhmglbggnaa.Wn
