/- Package window's iterator of the windows of times: it hands over each in its order, whatever a round does with it that leaves alone what lay and the iterator's own boxes. No conditions but that the ticks are ticks. -/
import Derived.RangeFuncBox
import Derived.RangeFuncLeaves
import Derived.Shelf.Abstract
import Derived.OwnWalkIn
import Derived.TacticsInMore
import Derived.LoopNIn
import Derived.LoopIn
import Derived.Maps.AppendAt
import Derived.Lib.SliceRun
import Derived.Test.YtffddkbphdjehaaWinSmall
import Derived.IntWalk
namespace Go.Proofs.Ytffddkbphdjehaa.Wn
open Go.ChangeShapes Go.WideShapes Go.ChangeAt Go.RowKit Go.Shelf
set_option linter.unusedVariables false
set_option linter.unusedSimpArgs false
attribute [local go_sem] Oper.semAt_some

/-- a window as it is handed over -/
def encw (x : Win) : Array Value := #[.agg #[.int .i64 x.1, .int .i64 x.2]]
/-- what a round leaves alone: what lay below n0, and the m blocks from B on -/
def KpB (n0 B m : Nat) (W W' : World) : Prop := Below n0 W W' ∧ ∀ b, B ≤ b → b < B + m → W'.heap[b]? = W.heap[b]?
theorem KpB.t {n0 B m : Nat} {X Y Z : World} (h : KpB n0 B m X Y) (k : KpB n0 B m Y Z) : KpB n0 B m X Z := ⟨h.1.trans k.1, fun b h1 h2 => (k.2 b h1 h2).trans (h.2 b h1 h2)⟩
theorem KpB.blk {n0 B m : Nat} {X Y : World} (h : KpB n0 B m X Y) {b : Nat} (h1 : B ≤ b) (h2 : b < B + m) {t : TypeId} {l : List Value} (hb : Blk X b t l) : Blk Y b t l := (h.2 b h1 h2).trans hb
theorem KpB.of_below {n0 B m n : Nat} {X Y : World} (h : Below n X Y) (h0 : n0 ≤ n) (hB : B + m ≤ n) : KpB n0 B m X Y := ⟨h.mono h0, fun b _ h2 => h.block b (by omega)⟩
theorem below_grow {X Y : World} (h : Below X.heap.size X Y) : X.grownBy Y none := ⟨h.os, h.tape, h.output, h.size, fun k hk _ => h.block k hk⟩
theorem J_alloc {α : Type} {B : Nat} {J : List α → World → Prop} (hJ : AbidesFrom B J) {pre : List α} {wr : World} (h : J pre wr) (o : Obj) : J pre (wr.alloc o) :=
  hJ pre wr (wr.alloc o) none h (World.grownBy_alloc wr o none) (by simp)
theorem J_below {α : Type} {B : Nat} {J : List α → World → Prop} (hJ : AbidesFrom B J) {pre : List α} {wr wr' : World} (h : J pre wr) (hb : Below wr.heap.size wr wr') : J pre wr' :=
  hJ pre wr wr' none h (below_grow hb) (by simp)

theorem below_drew {B : Nat} {a w : World} (h : Below B a w) : Below B a w.drew := ⟨h.os, h.tape, h.output, h.size, h.block⟩
end Go.Proofs.Ytffddkbphdjehaa.Wn
