/- A region with stores behind its loads, whose order is drawn: a load may be taken first as long as the store into its cell waits for it. No conditions. -/
import Derived.Test.YtffddkbphdjehaaWinBase
import Derived.Test.YtffddkbphdjehaaSq
import Derived.Lib.QuietBelow
import Derived.StillTail
set_option linter.unusedVariables false
set_option linter.unusedSimpArgs false
namespace Go.Proofs.Ytffddkbphdjehaa.Lk
open Go.ChangeShapes Go.WideShapes Go.ChangeAt Go.RowKit
section
variable {P : Program} {ops : Array Oper} {Q : Exit → Act → World → Prop} {md : Region.Mode}
/-- whatever order is picked; T holds of what has come up and of the world behind every operation -/
def wpAnyT (P : Program) (md : Region.Mode) (ops : Array Oper) (Q : Exit → Act → World → Prop) (T : Array Bool → World → Prop) : Nat → Array Bool → Act → World → Prop
  | 0, listed, a, w => Region.ready md ops listed = [] ∧ Q .normal a w
  | fuel + 1, listed, a, w =>
    (Region.ready md ops listed = [] → Q .normal a w) ∧
    ∀ i ∈ Region.ready md ops listed, wpOp P ops Q i (fun a' w' => T (listed.setIfInBounds i true) w' ∧ wpAnyT P md ops Q T fuel (listed.setIfInBounds i true) a' w') a w
theorem wpAny_of_T {T : Array Bool → World → Prop} : ∀ (fuel : Nat) (listed : Array Bool) (a : Act) (w : World), wpAnyT P md ops Q T fuel listed a w → wpAny P md ops Q fuel listed a w
  | 0, _, _, _, h => h
  | fuel + 1, _, _, _, h => ⟨h.1, fun i hi => wpOp_mono (fun a' w' h' => wpAny_of_T fuel _ a' w' h'.2) (h.2 i hi)⟩
/-- what may come up now waits for nothing else that may come up now -/
theorem edge_off {i j : Nat} {oj : Oper} {l : Array Bool} (hi : i ∈ Region.ready md ops l) (hj : j ∈ Region.ready md ops l) (ho : ops[j]? = some oj) : ∀ e ∈ oj.after, Region.binds md e = true → e.on ≠ i := by
  rintro e he hb rfl
  obtain ⟨-, o2, ho2, hall⟩ := mem_ready.1 hj
  obtain rfl : oj = o2 := by rw [ho] at ho2; injection ho2
  have h1 := hall e he hb
  rw [getD_both (mem_ready.1 hi).1] at h1
  cases h1
theorem un_set {l : Array Bool} {j k : Nat} (h : (l.setIfInBounds j true).getD k true = false) : l.getD k true = false := by
  by_cases e : j = k
  · subst e
    simp only [Array.getD_eq_getD_getElem?, Array.getElem?_setIfInBounds_self] at h
    split at h <;> simp at h
  · rwa [getD_set_ne true e] at h
/-- operation i meddles with none that may come up ahead of it -/
def Alone (md : Region.Mode) (ops : Array Oper) (i : Nat) (oi : Oper) (l : Array Bool) : Prop := ∀ j oj, ops[j]? = some oj → j ≠ i → l.getD j true = false → (∀ e ∈ oj.after, Region.binds md e = true → e.on ≠ i) → oi.apart ops oj = true
theorem Alone.set_ {i : Nat} {oi : Oper} {l : Array Bool} (h : Alone md ops i oi l) (j : Nat) : Alone md ops i oi (l.setIfInBounds j true) := fun k ok hk hne hun hno => h k ok hk hne (un_set hun) hno
section
variable {T : Array Bool → World → Prop} {G : Array Bool → Prop} {Si : World → Prop} {i : Nat} {oi : Oper} {v : Value}
theorem wpAnyT_first (hi : ops[i]? = some oi) (hsel : ∀ (j : Nat) (o : Oper) cs b, ops[j]? = some o → o.op ≠ .select cs b)
    (hQ : ∀ c a w, Q (.panic c) (a.put oi.dst v) w → Q (.panic c) a w)
    (hT0 : ∀ (l : Array Bool) w, T l w → T (l.setIfInBounds i true) w) (hT1 : ∀ (l : Array Bool) j w, T ((l.setIfInBounds i true).setIfInBounds j true) w → T (l.setIfInBounds j true) w)
    (hG : ∀ l w, G l → T l w → Si w) (hGs : ∀ (l : Array Bool) (j : Nat), i ∈ Region.ready md ops l → j ∈ Region.ready md ops l → G l → G (l.setIfInBounds j true)) :
    ∀ (fuel : Nat) (l : Array Bool) (a : Act) (w : World), Alone md ops i oi l → i ∈ Region.ready md ops l → G l → YieldsIf P ops Si oi v a → T l w →
      wpAnyT P md ops Q T fuel (l.setIfInBounds i true) (a.put oi.dst v) w → wpAnyT P md ops Q T (fuel + 1) l a w
  | 0, l, a, w, _, hr, hg, hy, hT, H => by
    refine ⟨fun e => (by rw [e] at hr; cases hr), fun j hj => ?_⟩
    obtain rfl : j = i := Classical.byContradiction fun hne => by
      have := ready_mono hj hne
      rw [H.1] at this
      cases this
    exact hy.wpOp hi (hG l w hg hT) ⟨hT0 l w hT, H⟩
  | fuel + 1, l, a, w, ha, hr, hg, hy, hT, H => by
    refine ⟨fun e => (by rw [e] at hr; cases hr), fun j hj => ?_⟩
    by_cases hne : j = i
    · subst hne
      exact hy.wpOp hi (hG l w hg hT) ⟨hT0 l w hT, H⟩
    obtain ⟨hun, oj, ho, -⟩ := mem_ready.1 hj
    have g := wpOp_putIf ho (ha j oj ho hne hun (edge_off hr hj ho)) (fun cs b => hsel i oi cs b hi) (fun cs b => hsel j oj cs b ho) hQ hy (H.2 j (ready_mono hj hne))
    refine wpOp_mono (fun a' w' g' => ?_) g
    obtain ⟨hy', hT', H'⟩ := g'
    rw [Array.setIfInBounds_comm _ _ (Ne.symm hne)] at H'
    exact ⟨hT1 l j w' hT', wpAnyT_first hi hsel hQ hT0 hT1 hG hGs fuel _ a' w' (ha.set_ j) (ready_mono hr (Ne.symm hne)) (hGs l j hr hj hg) hy' (hT1 l j w' hT') H'⟩
end
/-- cells that are as they were until their store has come up -/
def Pend (L : List (Nat × Addr × Value)) (l : Array Bool) (w : World) : Prop := ∀ k ∈ L, l.getD k.1 true = false → w.cell? k.2.1 = some k.2.2
theorem pend_set {L : List (Nat × Addr × Value)} {l : Array Bool} {w : World} {i : Nat} (hn : (L.map (·.1)).contains i = false) : Pend L (l.setIfInBounds i true) w ↔ Pend L l w := by
  have hne : ∀ k ∈ L, i ≠ k.1 := fun k hk e => by
    have : i ∈ L.map (·.1) := List.mem_map.2 ⟨k, hk, e.symm⟩
    rw [List.contains_iff_mem.2 this] at hn
    cases hn
  constructor
  · intro h k hk hl
    exact h k hk (by rw [getD_set_ne true (hne k hk)]; exact hl)
  · intro h k hk hl
    exact h k hk (by rw [getD_set_ne true (hne k hk)] at hl; exact hl)
theorem pend_set2 {L : List (Nat × Addr × Value)} {l : Array Bool} {w : World} {i j : Nat} (hn : (L.map (·.1)).contains i = false) (h : Pend L ((l.setIfInBounds i true).setIfInBounds j true) w) : Pend L (l.setIfInBounds j true) w := by
  by_cases e : j = i
  · subst e
    rw [pend_set hn] at h
    exact h
  · rw [Array.setIfInBounds_comm _ _ (Ne.symm e), pend_set hn] at h
    exact h
/-- what yields its value in whatever world is taken first -/
theorem wpAnyT_pure {L : List (Nat × Addr × Value)} {i : Nat} {oi : Oper} {v : Value} {fuel : Nat} {listed : Array Bool} {a : Act} {w : World} (hi : ops[i]? = some oi)
    (hs : Region.noSelect ops = true) (hf : Region.free md ops listed i = true) (hr : (Region.ready md ops listed).contains i = true) (hn : (L.map (·.1)).contains i = false)
    (hQ : ∀ c a w, Q (.panic c) (a.put oi.dst v) w → Q (.panic c) a w) (hy : YieldsIf P ops (fun _ => True) oi v a) (hS : Pend L listed w)
    (h : wpAnyT P md ops Q (Pend L) fuel (listed.setIfInBounds i true) (a.put oi.dst v) w) : wpAnyT P md ops Q (Pend L) (fuel + 1) listed a w :=
  wpAnyT_first (G := fun _ => True) (Si := fun _ => True) hi (Region.noSelect_spec hs) hQ (fun _ _ h => (pend_set hn).2 h) (fun _ _ _ h => pend_set2 hn h) (fun _ _ _ _ => trivial) (fun _ _ _ _ _ => trivial) fuel listed a w (Region.free_spec hi hf) (by simpa using hr) trivial hy hS h
/-- a load is, as long as its store waits for it -/
theorem wpAnyT_load {L : List (Nat × Addr × Value)} {i st : Nat} {p : Addr} {u : Value} {oi ost : Oper} {v : Value} {fuel : Nat} {listed : Array Bool} {a : Act} {w : World} (hi : ops[i]? = some oi) (hst : ops[st]? = some ost) (hedge : ost.after.any (fun e => Region.binds md e && e.on == i) = true)
    (hk : (st, p, u) ∈ L) (hs : Region.noSelect ops = true) (hf : Region.free md ops listed i = true) (hr : (Region.ready md ops listed).contains i = true) (hl : listed.getD st true = false) (hn : (L.map (·.1)).contains i = false)
    (hQ : ∀ c a w, Q (.panic c) (a.put oi.dst v) w → Q (.panic c) a w) (hy : YieldsIf P ops (fun w' => w'.cell? p = some u) oi v a) (hS : Pend L listed w)
    (h : wpAnyT P md ops Q (Pend L) fuel (listed.setIfInBounds i true) (a.put oi.dst v) w) : wpAnyT P md ops Q (Pend L) (fuel + 1) listed a w := by
  refine wpAnyT_first (G := fun l => l.getD st true = false) (Si := fun w' => w'.cell? p = some u) hi (Region.noSelect_spec hs) hQ (fun _ _ h => (pend_set hn).2 h) (fun _ _ _ h => pend_set2 hn h) (fun l w hg hT => hT _ hk hg) (fun l j hri hrj hg => ?_) fuel listed a w (Region.free_spec hi hf) (by simpa using hr) hl hy hS h
  have hne : j ≠ st := fun e => by
    subst e
    simp only [Array.any_eq_true, Bool.and_eq_true, beq_iff_eq] at hedge
    obtain ⟨x, hx, hb, ho⟩ := hedge
    exact edge_off hri hrj hst _ (Array.getElem_mem hx) hb ho
  rw [getD_set_ne true hne]
  exact hg
/-- loads out of several cells, all of which wait for one store -/
theorem wpAnyT_loads {L : List (Nat × Addr × Value)} {i st : Nat} {oi ost : Oper} {v : Value} {fuel : Nat} {listed : Array Bool} {a : Act} {w : World} (hi : ops[i]? = some oi) (hst : ops[st]? = some ost) (hedge : ost.after.any (fun e => Region.binds md e && e.on == i) = true)
    (hs : Region.noSelect ops = true) (hf : Region.free md ops listed i = true) (hr : (Region.ready md ops listed).contains i = true) (hl : listed.getD st true = false) (hn : (L.map (·.1)).contains i = false)
    (hQ : ∀ c a w, Q (.panic c) (a.put oi.dst v) w → Q (.panic c) a w) (hy : YieldsIf P ops (fun w' => ∀ k ∈ L, k.1 = st → w'.cell? k.2.1 = some k.2.2) oi v a) (hS : Pend L listed w)
    (h : wpAnyT P md ops Q (Pend L) fuel (listed.setIfInBounds i true) (a.put oi.dst v) w) : wpAnyT P md ops Q (Pend L) (fuel + 1) listed a w := by
  refine wpAnyT_first (G := fun l => l.getD st true = false) (Si := fun w' => ∀ k ∈ L, k.1 = st → w'.cell? k.2.1 = some k.2.2) hi (Region.noSelect_spec hs) hQ (fun _ _ h => (pend_set hn).2 h) (fun _ _ _ h => pend_set2 hn h) (fun l w hg hT k hk e => hT k hk (by rw [e]; exact hg)) (fun l j hri hrj hg => ?_) fuel listed a w (Region.free_spec hi hf) (by simpa using hr) hl hy hS h
  have hne : j ≠ st := fun e => by
    subst e
    simp only [Array.any_eq_true, Bool.and_eq_true, beq_iff_eq] at hedge
    obtain ⟨x, hx, hb, ho⟩ := hedge
    exact edge_off hri hrj hst _ (Array.getElem_mem hx) hb ho
  rw [getD_set_ne true hne]
  exact hg
/-- the one that comes up now -/
theorem wpAnyT_next {L : List (Nat × Addr × Value)} {i : Nat} {oi : Oper} {fuel : Nat} {listed : Array Bool} {a : Act} {w : World} (hi : ops[i]? = some oi) (hr : Region.ready md ops listed = [i])
    (h : ∀ K' : Act → World → Prop, Shut (∀ a w, Pend L (listed.setIfInBounds i true) w → wpAnyT P md ops Q (Pend L) fuel (listed.setIfInBounds i true) a w → K' a w) → if Region.wanted oi (yielded ops a.tmps) = true then Oper.wp P oi a w K' Q else K' (a.put oi.dst undef) w) : wpAnyT P md ops Q (Pend L) (fuel + 1) listed a w := by
  refine ⟨fun e => (by rw [hr] at e; cases e), fun j hj => ?_⟩
  rw [hr] at hj
  have e : j = i := by simpa using hj
  subst e
  exact wpOp_step hi fun K' hK => h K' fun a w hS hW => hK a w ⟨hS, hW⟩
theorem wpAnyT_done {L : List (Nat × Addr × Value)} {listed : Array Bool} {a : Act} {w : World} (hr : Region.ready md ops listed = []) (h : Q .normal a w) : ∀ fuel, wpAnyT P md ops Q (Pend L) fuel listed a w
  | 0 => ⟨hr, h⟩
  | _ + 1 => ⟨fun _ => h, by rw [hr]; simp⟩
theorem wp_region_T {id : Nat} {a : Act} {w : World} (L : List (Nat × Addr × Value)) (hm : P.follows .mixedOrders = true)
    (h : wpAnyT P .any ops Q (Pend L) ops.size (Array.replicate ops.size false) a w.drew) : (Code.region id ops true).wp P Q a w :=
  wp_region_any hm (wpAny_of_T _ _ _ _ h)
end
section
variable {P : Program} {ops : Array Oper} {Q : Exit → Act → World → Prop} {md : Region.Mode} {L : List (Nat × Addr × Value)} {fuel : Nat} {listed : Array Bool} {a : Act} {w : World} {oi ost : Oper}
theorem tap (i : Nat) (v : Value) (hi : ops[i]? = some oi) (hS : Pend L listed w) (hy : ∀ w, True → (execOp a.eval oi).run P w = .ok (.value v) w) (h : wpAnyT P md ops Q (Pend L) fuel (listed.setIfInBounds i true) (a.put oi.dst v) w)
    (hw : Region.wanted oi (yielded ops a.tmps) = true := by rfl) (hs : Region.noSelect ops = true := by kernel_rfl) (hf : Region.free md ops listed i = true := by kernel_rfl) (hr : (Region.ready md ops listed).contains i = true := by kernel_rfl) (hn : (L.map (·.1)).contains i = false := by rfl)
    (hQ : ∀ c a w, Q (.panic c) (a.put oi.dst v) w → Q (.panic c) a w := by exact fun _ _ _ h => h) : wpAnyT P md ops Q (Pend L) (fuel + 1) listed a w := wpAnyT_pure hi hs hf hr hn hQ (Or.inl ⟨hw, hy⟩) hS h
theorem tal (i st : Nat) (p : Addr) (u v : Value) (hi : ops[i]? = some oi) (hst : ops[st]? = some ost) (hS : Pend L listed w) (hy : ∀ w', w'.cell? p = some u → (execOp a.eval oi).run P w' = .ok (.value v) w') (h : wpAnyT P md ops Q (Pend L) fuel (listed.setIfInBounds i true) (a.put oi.dst v) w)
    (he : ost.after.any (fun e => Region.binds md e && e.on == i) = true := by kernel_rfl) (hk : (st, p, u) ∈ L := by simp) (hw : Region.wanted oi (yielded ops a.tmps) = true := by rfl) (hs : Region.noSelect ops = true := by kernel_rfl) (hf : Region.free md ops listed i = true := by kernel_rfl) (hr : (Region.ready md ops listed).contains i = true := by kernel_rfl)
    (hl : listed.getD st true = false := by kernel_rfl) (hn : (L.map (·.1)).contains i = false := by rfl) (hQ : ∀ c a w, Q (.panic c) (a.put oi.dst v) w → Q (.panic c) a w := by exact fun _ _ _ h => h) : wpAnyT P md ops Q (Pend L) (fuel + 1) listed a w := wpAnyT_load hi hst he hk hs hf hr hl hn hQ (Or.inl ⟨hw, hy⟩) hS h
theorem taq (i st : Nat) (v : Value) (hi : ops[i]? = some oi) (hst : ops[st]? = some ost) (hS : Pend L listed w) (hy : ∀ w', (∀ k ∈ L, k.1 = st → w'.cell? k.2.1 = some k.2.2) → (execOp a.eval oi).run P w' = .ok (.value v) w') (h : wpAnyT P md ops Q (Pend L) fuel (listed.setIfInBounds i true) (a.put oi.dst v) w)
    (he : ost.after.any (fun e => Region.binds md e && e.on == i) = true := by kernel_rfl) (hw : Region.wanted oi (yielded ops a.tmps) = true := by rfl) (hs : Region.noSelect ops = true := by kernel_rfl) (hf : Region.free md ops listed i = true := by kernel_rfl) (hr : (Region.ready md ops listed).contains i = true := by kernel_rfl)
    (hl : listed.getD st true = false := by kernel_rfl) (hn : (L.map (·.1)).contains i = false := by rfl) (hQ : ∀ c a w, Q (.panic c) (a.put oi.dst v) w → Q (.panic c) a w := by exact fun _ _ _ h => h) : wpAnyT P md ops Q (Pend L) (fuel + 1) listed a w := wpAnyT_loads hi hst he hs hf hr hl hn hQ (Or.inl ⟨hw, hy⟩) hS h
theorem tan (i : Nat) (hi : ops[i]? = some oi) (h : ∀ K' : Act → World → Prop, Shut (∀ a w, Pend L (listed.setIfInBounds i true) w → wpAnyT P md ops Q (Pend L) fuel (listed.setIfInBounds i true) a w → K' a w) → if Region.wanted oi (yielded ops a.tmps) = true then Oper.wp P oi a w K' Q else K' (a.put oi.dst undef) w)
    (hr : Region.ready md ops listed = [i] := by kernel_rfl) : wpAnyT P md ops Q (Pend L) (fuel + 1) listed a w := wpAnyT_next hi hr h
end
end Go.Proofs.Ytffddkbphdjehaa.Lk
