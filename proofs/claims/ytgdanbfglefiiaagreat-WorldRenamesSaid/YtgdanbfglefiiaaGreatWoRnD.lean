/- The routes' loops of WorldRenames, as worlds see them. Conditions: none beside those that the theorems name. -/
import Derived.Test.YtgdanbfglefiiaaGreatWoRnC
import Derived.ChangeSlices
import Derived.Deep.Strs
import Derived.Deep.SlicePairs
import Derived.ChangeArms
import Derived.Carry
import Derived.Deep.RegionHeld3
import Derived.Deep.RegionHeldLaw
import Derived.Deep.CutRange
import Derived.StillTailTactics
import Derived.WalkSpells
import Derived.Lib.QuietBelow
import Derived.Deep.QuietTactic
namespace Go.Proofs.YtgdanbfglefiiaaGreat.Wo
open Go.ChangeShapes Go.WideShapes Go.ChangeAt Go.RowKit Go.Maps
open Lx Sh It
set_option linter.unusedVariables false
set_option linter.unusedSimpArgs false
def rzN (r : RouteM) (k : Nat) : RouteM := ⟨rz r.name, upd rz k r.stops, r.rides, r.stays⟩
theorem rzN_zero (r : RouteM) : rzN r 0 = { r with name := rz r.name } := by unfold rzN; rw [upd_zero]
theorem rzN_all (r : RouteM) : rzN r r.stops.length = rzR r := by unfold rzN; rw [upd_all]; rfl
theorem set_self {α : Type} {l : List α} {i : Nat} {a : α} (h : l[i]? = some a) : l.set i a = l := by
  apply List.ext_getElem?
  intro j
  rw [List.getElem?_set]
  split
  · rename_i e
    subst e
    obtain ⟨hi, -⟩ := List.getElem?_eq_some_iff.1 h
    rw [if_pos hi, h]
  · rfl
theorem Rn.at4 {w5 w : World} {s sb n c i : Nat} {Y : List Value} {v1 v2 v3 v5 v6 : Value} {A : Option Addr} {x : SheetM} {R : List RouteM} {r : RouteM} (h : Rn w5 s sb Y v1 v2 v3 (.slice A n c) v5 v6 { x with routes := R } w) (hn : R.length = n) (hi : R[i]? = some r) :
    ∃ ad sa sc, A = some ad ∧ w.cell? (ad.add (i * 4)) = some (.string ⟨r.name.toArray⟩) ∧ w.cell? ⟨(ad.add (i * 4)).block, (ad.add (i * 4)).off + 1, none⟩ = some (.slice sa r.stops.length sc) ∧ w.frozen? (ad.add (i * 4)) = false ∧
      w.ownsRow 0 9 1 (.slice sa r.stops.length sc) r.stops.length (cs strC r.stops) ∧
      (∀ nm : Nm, Rn w5 s sb Y v1 v2 v3 (.slice A n c) v5 v6 { x with routes := R.set i { r with name := nm } } (w.setCell (ad.add (i * 4)) (.string ⟨nm.toArray⟩))) ∧
      (∀ (l' : List Nm) (p : Addr) (u : Value), l'.length = r.stops.length → Ch (fun b => some b = (Value.slice sa r.stops.length sc).ownBlock) w (w.setCell p u) → (w.setCell p u).ownsRow 0 9 1 (.slice sa r.stops.length sc) r.stops.length (cs strC l') → Rn w5 s sb Y v1 v2 v3 (.slice A n c) v5 v6 { x with routes := R.set i { r with stops := l' } } (w.setCell p u)) := by
  obtain ⟨c4, h4, h4'⟩ := h.o.r4
  have hlt := (List.getElem?_eq_some_iff.1 hi).1
  have h5 : w.ownsRow (w5.heap.size + 1 + 1) 72 4 (.slice A n c) n c4 := by rw [← hn]; have := h4; rw [← hn] at this; exact this
  obtain ⟨ad, E⟩ := own_el h5 (by omega)
  obtain ⟨sa, ra, ya, sc, rc, yc, g0, g1, g2, g3⟩ := Rtx.get h4' hi
  refine ⟨ad, sa, sc, E.hA, E.cell _ _ g0, by rw [E.eq]; exact E.cell _ _ g1, E.fz _, g2.hs.1, fun nm => ?_, fun l' p u hl hX ho => ?_⟩
  · have p4 := E.put h5 (i * 4) (.string ⟨nm.toArray⟩)
    have hX := p4.2.1
    have hne : ∀ b, Away w (w5.heap.size + 1) [v1, v2, v3, .slice A n c, v5, v6, bxV sb] b → (w.setCell (ad.add (i * 4)) (.string ⟨nm.toArray⟩)).heap[b]? = w.heap[b]? := fun b hb => hX.block b hb.2.1 fun e => hb.2.2 (.slice A n c) (by simp) e.symm
    refine ⟨OwX.put4 (x := { x with routes := R }) h.o h4 hX (by show World.ownsRow _ _ _ _ _ R.length _; rw [hn]; exact p4.1) (g3 _ { r with name := nm } (fun b hb _ => hne b hb) rfl rfl rfl (own_heap g2.hs.1 fun k e => hne k (g2.hs.2 k e))) (by simp), hX.blk h.k fun e => own_ne_blk h5 h.k (by decide) s e.symm rfl, h.b.trans (hX.below h.b.size fun k e => ?_)⟩
    have := (h5.lt k e.symm).1; omega
  · have hr := g3 _ { r with stops := l' } (fun b hb hne => hX.block b hb.2.1 fun e => hne e.symm) hl rfl rfl ho
    have e4 : c4.set (i * 4) (.string ⟨r.name.toArray⟩) = c4 := set_self g0
    have hr2 : Rtx (w.setCell p u) (Away w (w5.heap.size + 1) [v1, v2, v3, .slice A n c, v5, v6, bxV sb]) (R.set i { r with stops := l' }) c4 := by have := hr; simp only [e4] at this; exact this
    refine ⟨OwX.putR (x := { x with routes := R }) h.o h4 g2.hs.2 hX hr2 (by simp), hX.blk h.k fun e => own_ne_blk g2.hs.1 h.k (by decide) s e.symm rfl, h.b.trans (hX.below h.b.size fun k e => ?_)⟩
    have := (g2.hs.2 k e.symm).1; omega
theorem max_if (p q : Int) : (if q > p then q else p) = max p q := by omega
theorem wpList_max4 {P : Program} {w : World} {ops : Array Oper} {o : Oper} {a : Act} {rest : List Oper} {Q : Exit → Act → World → Prop} (hgd : o.guard = none) (s1 s2 s3 s4 : Operand) (ts : Array TypeId) (ho : o.op = .call { callee := .builtin .max, args := #[s1, s2, s3, s4], argTypes := ts })
    {x1 x2 x3 x4 : Int} (h1 : a.eval s1 = .int .i64 x1) (h2 : a.eval s2 = .int .i64 x2) (h3 : a.eval s3 = .int .i64 x3) (h4 : a.eval s4 = .int .i64 x4) (h : wpList P ops Q rest (a.put o.dst (.int .i64 (max (max (max x1 x2) x3) x4))) w) : wpList P ops Q (o :: rest) a w := by
  refine wpList_plain hgd fun K hK => ?_
  unfold Oper.wp
  simp only [execOp, ho, resolve, invoke, builtin, Sem.run_bind, Sem.run_pure, Result.andThen_ok, List.map_toArray, List.map_cons, List.map_nil, h1, h2, h3, h4]
  simp only [← max_if] at h
  exact hK _ _ h
theorem wpList_max3 {P : Program} {w : World} {ops : Array Oper} {o : Oper} {a : Act} {rest : List Oper} {Q : Exit → Act → World → Prop} (hgd : o.guard = none) (s1 s2 s3 : Operand) (ts : Array TypeId) (ho : o.op = .call { callee := .builtin .max, args := #[s1, s2, s3], argTypes := ts })
    {x1 x2 x3 : Int} (h1 : a.eval s1 = .int .i64 x1) (h2 : a.eval s2 = .int .i64 x2) (h3 : a.eval s3 = .int .i64 x3) (h : wpList P ops Q rest (a.put o.dst (.int .i64 (max (max x1 x2) x3))) w) : wpList P ops Q (o :: rest) a w := by
  refine wpList_plain hgd fun K hK => ?_
  unfold Oper.wp
  simp only [execOp, ho, resolve, invoke, builtin, Sem.run_bind, Sem.run_pure, Result.andThen_ok, List.map_toArray, List.map_cons, List.map_nil, h1, h2, h3]
  simp only [← max_if] at h
  exact hK _ _ h
theorem El.drew {w : World} {b e s n c : Nat} {A : Option Addr} {xs : List Value} {ad : Addr} (k : El w b e s n c A xs ad) : El w.drew b e s n c A xs ad := ⟨k.hA, k.lo, k.hi, k.ob, k.eq, k.cell, k.fz, k.blk⟩
end Go.Proofs.YtgdanbfglefiiaaGreat.Wo
