/- copy of a whole row onto one of the call's own, elements of any number of cells. -/
import Derived.Test.YtcjpimocbgeheaaOrderMath
import Derived.Laws.CopyRow
import Derived.Deep.RegionLaw
namespace Go.Proofs.Ytcjpimocbgeheaa.Od
open Go.ChangeShapes Go.WideShapes Go.ChangeAt Go.RowKit
set_option linter.unusedVariables false

theorem kc_one (l : List Key) : ∀ v ∈ kc l, v.oneCell' = true := by
  intro v hv
  obtain ⟨p, _, hp⟩ := List.mem_flatMap.1 hv
  simp at hp
  rcases hp with rfl | rfl <;> rfl
theorem ic_one (l : List Int) : ∀ v ∈ ic l, v.oneCell' = true := by
  intro v hv
  obtain ⟨p, _, rfl⟩ := List.mem_map.1 hv
  rfl

theorem run_copy_whole {P : Program} (w : World) (dT sT ty elem : TypeId) (size : Nat) (hu : P.underlying dT = some (.slice elem)) (hs : (P.info? elem).map (·.size) = some size)
    (g n dCap sCap : Nat) (A : Option Addr) (t : TypeId) (cur cs : List Value) (S : Nat → Prop) (hg : Blk w g t cur) (hcur : cur.length = n * size) (hcs : cs.length = n * size) (hr : Rd w S A cs) (h1 : ∀ v ∈ cs, v.oneCell' = true)
    (hsz : 0 < size) :
    ∃ w', (Builtin.copy_ #[dT, sT] ty #[.slice (some ⟨g, 0, none⟩) n dCap, .slice A n sCap]).run P w = .ok (goInt n) w' ∧ Blk w' g t cs ∧ w.grownBy w' (some g) := by
  obtain ⟨i, hi, his⟩ := Option.map_eq_some_iff.1 hs
  have hst := run_storeCells_at P g 0 t cs 0 cur.toArray w hg (by simp; omega) h1
  have hrow : (cur.toArray.toList.take (0 + 0) ++ cs ++ cur.toArray.toList.drop (0 + 0 + cs.length)).toArray = cs.toArray := by
    simp; omega
  rw [hrow] at hst
  by_cases h0 : cs = []
  · subst h0
    have hn : n = 0 := by
      rcases Nat.mul_eq_zero.1 (show n * size = 0 from hcs.symm) with h | h
      · exact h
      · omega
    subst hn
    have hc0 : cur = [] := List.eq_nil_of_length_eq_zero (by simpa using hcur)
    subst hc0
    refine ⟨w, ?_, hg, only_refl _ _⟩
    have hl : ∀ (x : Addr), (loadCells x 0).run P w = .ok #[] w := fun x => by simpa using run_loadCells_list (P := P) w x [] (by simp)
    cases A <;> simp [Builtin.copy_, run_underlying hu, Builtin.lenOf, Builtin.firstCells, sizeOf, typeInfo, hi, hl, storeCells]
  · obtain ⟨ad, rfl, hS, hcell⟩ := hr (List.length_pos_iff.2 h0)
    have hl := run_loadCells_list (P := P) w ad cs hcell
    refine ⟨_, ?_, setRow_heap w g _ _ t _ hg, ⟨rfl, rfl, rfl, by simp [World.setRow], fun k hk hne => setRow_other w g k _ (fun e => hne (by rw [e]))⟩⟩
    rw [hcs] at hl
    simp [Builtin.copy_, run_underlying hu, Builtin.lenOf, Builtin.firstCells, sizeOf, typeInfo, hi, his, hl, hst]

theorem wpList_copy_whole {P : Program} {w : World} {ops : Array Oper} {rest : List Oper} {o : Oper} {a : Act} {Q : Exit → Act → World → Prop} (hgd : o.guard = none) (d s : Operand) (dT sT : TypeId)
    (ho : o.op = .call { callee := .builtin .copy, args := #[d, s], argTypes := #[dT, sT] }) (elem : TypeId) (size : Nat) (hu : P.underlying dT = some (.slice elem)) (hsz : (P.info? elem).map (·.size) = some size)
    (g n dCap sCap : Nat) (A : Option Addr) (hd : a.eval d = .slice (some ⟨g, 0, none⟩) n dCap) (hs : a.eval s = .slice A n sCap) (t : TypeId) (cur cs : List Value) (S : Nat → Prop)
    (hg : Blk w g t cur) (hcur : cur.length = n * size) (hcs : cs.length = n * size) (hr : Rd w S A cs) (h1 : ∀ v ∈ cs, v.oneCell' = true) (h0 : 0 < size)
    (h : ∀ w', Hid (Blk w' g t cs) → Hid (w.grownBy w' (some g)) → wpList P ops Q rest (a.put o.dst (goInt n)) w') : wpList P ops Q (o :: rest) a w := by
  refine wpList_plain hgd fun K hK => ?_
  obtain ⟨w', hrun, hb, hgr⟩ := run_copy_whole (P := P) w dT sT o.type elem size hu hsz g n dCap sCap A t cur cs S hg hcur hcs hr h1 h0
  unfold Oper.wp
  simp [execOp, ho, resolve, invoke, builtin, hd, hs, hrun, Result.andThen]
  exact hK _ _ (h w' hb hgr)
end Go.Proofs.Ytcjpimocbgeheaa.Od
