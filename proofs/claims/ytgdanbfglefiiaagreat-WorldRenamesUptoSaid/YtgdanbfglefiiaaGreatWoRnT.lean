/- A region with stores behind its loads, whose order is drawn: a load may be taken first as long as the store into its cell waits for it. No conditions. -/
import Derived.Test.YtgdanbfglefiiaaGreatWoRnD
import Derived.ChangeSlices
import Derived.Deep.Strs
import Derived.Deep.SlicePairs
import Derived.ChangeArms
import Derived.Carry
import Derived.Deep.RegionHeld3
import Derived.Deep.RegionHeldLaw
import Derived.Deep.CutRange
import Derived.StillTailTactics
import Derived.WalkSpells
import Derived.Lib.QuietBelow
import Derived.Deep.QuietTactic
namespace Go.Proofs.YtgdanbfglefiiaaGreat.Wo
open Go.ChangeShapes Go.WideShapes Go.ChangeAt Go.RowKit Go.Maps
open Lx Sh It
set_option linter.unusedVariables false
set_option linter.unusedSimpArgs false
section
variable {P : Program} {ops : Array Oper} {Q : Exit → Act → World → Prop} {md : Region.Mode}
/-- whatever order is picked; T holds of what has come up and of the world behind every operation -/
def wpAnyT (P : Program) (md : Region.Mode) (ops : Array Oper) (Q : Exit → Act → World → Prop) (T : Array Bool → World → Prop) : Nat → Array Bool → Act → World → Prop
  | 0, listed, a, w => Region.ready md ops listed = [] ∧ Q .normal a w
  | fuel + 1, listed, a, w =>
    (Region.ready md ops listed = [] → Q .normal a w) ∧
    ∀ i ∈ Region.ready md ops listed, wpOp P ops Q i (fun a' w' => T (listed.setIfInBounds i true) w' ∧ wpAnyT P md ops Q T fuel (listed.setIfInBounds i true) a' w') a w
theorem wpAny_of_T {T : Array Bool → World → Prop} : ∀ (fuel : Nat) (listed : Array Bool) (a : Act) (w : World), wpAnyT P md ops Q T fuel listed a w → wpAny P md ops Q fuel listed a w
  | 0, _, _, _, h => h
  | fuel + 1, _, _, _, h => ⟨h.1, fun i hi => wpOp_mono (fun a' w' h' => wpAny_of_T fuel _ a' w' h'.2) (h.2 i hi)⟩
theorem wpAnyT_first {T : Array Bool → World → Prop} {G : Array Bool → Prop} {Si : World → Prop} {i : Nat} {oi : Oper} {v : Value} (hi : ops[i]? = some oi) (hsel : ∀ (j : Nat) (o : Oper) cs b, ops[j]? = some o → o.op ≠ .select cs b)
    (hQ : ∀ c a w, Q (.panic c) (a.put oi.dst v) w → Q (.panic c) a w)
    (hT0 : ∀ (l : Array Bool) w, T l w → T (l.setIfInBounds i true) w) (hT1 : ∀ (l : Array Bool) j w, T ((l.setIfInBounds i true).setIfInBounds j true) w → T (l.setIfInBounds j true) w)
    (hG : ∀ l w, G l → T l w → Si w) (hGs : ∀ (l : Array Bool) (j : Nat), i ∈ Region.ready md ops l → j ∈ Region.ready md ops l → G l → G (l.setIfInBounds j true)) :
    ∀ (fuel : Nat) (listed : Array Bool) (a : Act) (w : World),
      (∀ j oj, ops[j]? = some oj → j ≠ i → listed.getD j true = false → (∀ e ∈ oj.after, Region.binds md e = true → e.on ≠ i) → oi.apart ops oj = true) →
      i ∈ Region.ready md ops listed → G listed → YieldsIf P ops Si oi v a → T listed w →
      wpAnyT P md ops Q T fuel (listed.setIfInBounds i true) (a.put oi.dst v) w → wpAnyT P md ops Q T (fuel + 1) listed a w := by
  intro fuel
  induction fuel with
  | zero =>
    intro listed a w _ hr hg hy hS H
    refine ⟨fun h => (by rw [h] at hr; cases hr), fun j hj => ?_⟩
    by_cases hji : j = i
    · subst hji; exact hy.wpOp hi (hG _ _ hg hS) ⟨hT0 _ _ hS, H⟩
    · have := ready_mono hj hji
      rw [H.1] at this
      cases this
  | succ fuel ih =>
    intro listed a w hfree hr hg hy hS H
    refine ⟨fun h => (by rw [h] at hr; cases hr), fun j hj => ?_⟩
    by_cases hji : j = i
    · subst hji; exact hy.wpOp hi (hG _ _ hg hS) ⟨hT0 _ _ hS, H⟩
    · have h1 := H.2 j (ready_mono hj hji)
      obtain ⟨hjun, oj, hoj, hall⟩ := mem_ready.1 hj
      have hnot : ∀ e ∈ oj.after, Region.binds md e = true → e.on ≠ i := fun e he hb heq => by
        have h1 := hall e he hb
        have h0 := (mem_ready.1 hr).1
        rw [heq] at h1
        rcases Nat.lt_or_ge i listed.size with h' | h'
        · simp [h'] at h0 h1; rw [h0] at h1; cases h1
        · simp [Array.getElem?_eq_none h'] at h1
      have h2 := wpOp_putIf hoj (hfree j oj hoj hji hjun hnot) (fun cs b => hsel i oi cs b hi) (fun cs b => hsel j oj cs b hoj) hQ hy h1
      have hfree' : ∀ k ok, ops[k]? = some ok → k ≠ i → (listed.setIfInBounds j true).getD k true = false →
          (∀ e ∈ ok.after, Region.binds md e = true → e.on ≠ i) → oi.apart ops ok = true := fun k ok hk hki hun hno => by
        refine hfree k ok hk hki ?_ hno
        by_cases hjk : j = k
        · subst hjk; exact hjun
        · rw [getD_set_ne true hjk] at hun; exact hun
      refine wpOp_mono (fun a' w' h3 => ⟨hT1 _ _ _ h3.2.1, ih (listed.setIfInBounds j true) a' w' hfree' (ready_mono hr (Ne.symm hji)) (hGs _ _ hr hj hg) h3.1 (hT1 _ _ _ h3.2.1) ?_⟩) h2
      rw [Array.setIfInBounds_comm _ _ hji]
      exact h3.2.2
/-- cells that are as they were until their store has come up -/
def Pend (L : List (Nat × Addr × Value)) (l : Array Bool) (w : World) : Prop := ∀ k ∈ L, l.getD k.1 true = false → w.cell? k.2.1 = some k.2.2
theorem pend_set {L : List (Nat × Addr × Value)} {l : Array Bool} {w : World} {i : Nat} (hn : (L.map (·.1)).contains i = false) : Pend L (l.setIfInBounds i true) w ↔ Pend L l w := by
  have hne : ∀ k ∈ L, i ≠ k.1 := fun k hk e => by
    have : i ∈ L.map (·.1) := List.mem_map.2 ⟨k, hk, e.symm⟩
    rw [List.contains_iff_mem.2 this] at hn
    cases hn
  constructor
  · intro h k hk hl
    exact h k hk (by rw [getD_set_ne true (hne k hk)]; exact hl)
  · intro h k hk hl
    exact h k hk (by rw [getD_set_ne true (hne k hk)] at hl; exact hl)
theorem pend_set2 {L : List (Nat × Addr × Value)} {l : Array Bool} {w : World} {i j : Nat} (hn : (L.map (·.1)).contains i = false) (h : Pend L ((l.setIfInBounds i true).setIfInBounds j true) w) : Pend L (l.setIfInBounds j true) w := by
  by_cases e : j = i
  · subst e
    rw [pend_set hn] at h
    exact h
  · rw [Array.setIfInBounds_comm _ _ (Ne.symm e), pend_set hn] at h
    exact h
/-- what yields its value in whatever world is taken first -/
theorem wpAnyT_pure {L : List (Nat × Addr × Value)} {i : Nat} {oi : Oper} {v : Value} {fuel : Nat} {listed : Array Bool} {a : Act} {w : World} (hi : ops[i]? = some oi)
    (hs : Region.noSelect ops = true) (hf : Region.free md ops listed i = true) (hr : (Region.ready md ops listed).contains i = true) (hn : (L.map (·.1)).contains i = false)
    (hQ : ∀ c a w, Q (.panic c) (a.put oi.dst v) w → Q (.panic c) a w) (hy : YieldsIf P ops (fun _ => True) oi v a) (hS : Pend L listed w)
    (h : wpAnyT P md ops Q (Pend L) fuel (listed.setIfInBounds i true) (a.put oi.dst v) w) : wpAnyT P md ops Q (Pend L) (fuel + 1) listed a w :=
  wpAnyT_first (G := fun _ => True) (Si := fun _ => True) hi (Region.noSelect_spec hs) hQ (fun _ _ h => (pend_set hn).2 h) (fun _ _ _ h => pend_set2 hn h) (fun _ _ _ _ => trivial) (fun _ _ _ _ _ => trivial) fuel listed a w (Region.free_spec hi hf) (by simpa using hr) trivial hy hS h
/-- a load is, as long as its store waits for it -/
theorem wpAnyT_load {L : List (Nat × Addr × Value)} {i st : Nat} {p : Addr} {u : Value} {oi ost : Oper} {v : Value} {fuel : Nat} {listed : Array Bool} {a : Act} {w : World} (hi : ops[i]? = some oi) (hst : ops[st]? = some ost) (hedge : ost.after.any (fun e => Region.binds md e && e.on == i) = true)
    (hk : (st, p, u) ∈ L) (hs : Region.noSelect ops = true) (hf : Region.free md ops listed i = true) (hr : (Region.ready md ops listed).contains i = true) (hl : listed.getD st true = false) (hn : (L.map (·.1)).contains i = false)
    (hQ : ∀ c a w, Q (.panic c) (a.put oi.dst v) w → Q (.panic c) a w) (hy : YieldsIf P ops (fun w' => w'.cell? p = some u) oi v a) (hS : Pend L listed w)
    (h : wpAnyT P md ops Q (Pend L) fuel (listed.setIfInBounds i true) (a.put oi.dst v) w) : wpAnyT P md ops Q (Pend L) (fuel + 1) listed a w := by
  refine wpAnyT_first (G := fun l => l.getD st true = false) (Si := fun w' => w'.cell? p = some u) hi (Region.noSelect_spec hs) hQ (fun _ _ h => (pend_set hn).2 h) (fun _ _ _ h => pend_set2 hn h) (fun l w hg hT => hT _ hk hg) (fun l j hri hrj hg => ?_) fuel listed a w (Region.free_spec hi hf) (by simpa using hr) hl hy hS h
  have hne : j ≠ st := fun e => by
    subst e
    obtain ⟨hjun, oj, hoj, hall⟩ := mem_ready.1 hrj
    rw [hst] at hoj
    injection hoj with hoj
    subst hoj
    simp only [Array.any_eq_true, Bool.and_eq_true, beq_iff_eq] at hedge
    obtain ⟨x, hx, hb, ho⟩ := hedge
    have h1 := hall _ (Array.getElem_mem hx) hb
    have h0 := (mem_ready.1 hri).1
    rw [ho] at h1
    rcases Nat.lt_or_ge i l.size with h' | h'
    · simp [h'] at h0 h1; rw [h0] at h1; cases h1
    · simp [Array.getElem?_eq_none h'] at h1
  rw [getD_set_ne true hne]
  exact hg
/-- the one that comes up now -/
theorem wpAnyT_next {L : List (Nat × Addr × Value)} {i : Nat} {oi : Oper} {fuel : Nat} {listed : Array Bool} {a : Act} {w : World} (hi : ops[i]? = some oi) (hr : Region.ready md ops listed = [i])
    (h : ∀ K' : Act → World → Prop, Shut (∀ a w, Pend L (listed.setIfInBounds i true) w → wpAnyT P md ops Q (Pend L) fuel (listed.setIfInBounds i true) a w → K' a w) → if Region.wanted oi (yielded ops a.tmps) = true then Oper.wp P oi a w K' Q else K' (a.put oi.dst undef) w) : wpAnyT P md ops Q (Pend L) (fuel + 1) listed a w := by
  refine ⟨fun e => (by rw [hr] at e; cases e), fun j hj => ?_⟩
  rw [hr] at hj
  have e : j = i := by simpa using hj
  subst e
  exact wpOp_step hi fun K' hK => h K' fun a w hS hW => hK a w ⟨hS, hW⟩
theorem wpAnyT_done {L : List (Nat × Addr × Value)} {listed : Array Bool} {a : Act} {w : World} (hr : Region.ready md ops listed = []) (h : Q .normal a w) : ∀ fuel, wpAnyT P md ops Q (Pend L) fuel listed a w
  | 0 => ⟨hr, h⟩
  | _ + 1 => ⟨fun _ => h, by rw [hr]; simp⟩
theorem wp_region_T {id : Nat} {a : Act} {w : World} (L : List (Nat × Addr × Value)) (hm : P.follows .mixedOrders = true)
    (h : wpAnyT P .any ops Q (Pend L) ops.size (Array.replicate ops.size false) a w.drew) : (Code.region id ops true).wp P Q a w :=
  wp_region_any hm (wpAny_of_T _ _ _ _ h)
end
theorem cell_heap {W W' : World} {p : Addr} (h : W.heap = W'.heap) : W.cell? p = W'.cell? p := by unfold World.cell?; rw [h]
end Go.Proofs.YtgdanbfglefiiaaGreat.Wo
