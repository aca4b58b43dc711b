/- Arguments opened: rows of numbers and of acts as the walks want them. -/
import Derived.Test.YtffphlbbophjfaaDoorBitOwn
import Derived.ChangeSlices
import Derived.Deep.SlicePairs
import Derived.ChangeArms
import Derived.Carry
namespace Go.Proofs.YtffphlbbophjfaaDoor.Bs
open Go.ChangeShapes Go.WideShapes Go.ChangeAt Go.RowKit Go.Deep
set_option linter.unusedVariables false

theorem laidOut : laidOutB Tryd.prog = true := by kernel_rfl
theorem cellsInt : Tryd.prog.cellsOf 3 = 1 := by kernel_rfl
theorem cellsAct : Tryd.prog.cellsOf 39 = 2 := by kernel_rfl
def InKind (Z : List Int) : Prop := ∀ n ∈ Z, -9223372036854775808 ≤ n ∧ n ≤ 9223372036854775807
/-- acts: kind and number -/
def ac (l : List (Int × Int)) : List Value := l.flatMap fun p => [.int .i64 p.1, .int .i64 p.2]
def ActsIn (Z : List (Int × Int)) : Prop := ∀ p ∈ Z, (-9223372036854775808 ≤ p.1 ∧ p.1 ≤ 9223372036854775807) ∧ -9223372036854775808 ≤ p.2 ∧ p.2 ≤ 9223372036854775807
theorem ac_length (l : List (Int × Int)) : (ac l).length = l.length * 2 := by
  induction l with
  | nil => rfl
  | cons p l ih =>
    show (([.int .i64 p.1, .int .i64 p.2] : List Value) ++ ac l).length = _
    simp [ih]; omega
theorem ac_at (l : List (Int × Int)) (k : Nat) (p : Int × Int) (h : l[k]? = some p) : (ac l)[k * 2]? = some (.int .i64 p.1) ∧ (ac l)[k * 2 + 1]? = some (.int .i64 p.2) := by
  induction l generalizing k with
  | nil => simp at h
  | cons q l ih =>
    have e0 : ac (q :: l) = .int .i64 q.1 :: .int .i64 q.2 :: ac l := rfl
    cases k with
    | zero => simp at h; subst h; simp [e0]
    | succ k => simp at h; have := ih k h; rw [e0]; have e : (k + 1) * 2 = k * 2 + 2 := by omega
                rw [e]; exact ⟨by simpa using this.1, by simpa using this.2⟩
theorem view_row {H : Type} {enc : TypeId × Value → H} {W : World} {fuel : Nat} {t e : TypeId} {a0 : Option Addr} {len cap : Nat} {d : DataW H} {p : List MemPlace} (ht : Tryd.prog.underlying t = some (.slice e)) (he : Tryd.prog.underlying e = some (.int .i64)) (hc : Tryd.prog.cellsOf e = 1)
    (hf : DataW.trod enc Tryd.prog W 0 (fun _ => true) true fuel t (Value.slice a0 len cap).cells.toList = some (d, p)) :
    ∃ Z : List Int, Hid (len = Z.length) ∧ len ≤ cap ∧ Rd W (· < W.heap.size) a0 (ic Z) ∧ InKind Z := by
  rcases open_ints ht he hc hf with ⟨hcs, hx⟩ | ⟨a, len', cap', zs, hcs, _, hl, hm, hz, hx, hcell, hwz⟩
  · simp [Value.cells] at hcs
    obtain ⟨rfl, rfl, rfl⟩ := hcs
    exact ⟨[], rfl, Nat.le_refl _, Rd.none_, fun n hn => by cases hn⟩
  · simp [Value.cells] at hcs
    obtain ⟨rfl, rfl, rfl⟩ := hcs
    simp only [if_true] at hz
    refine ⟨zs.take len, (by show _ = _; simp; omega), hl, fun hn => ⟨a, rfl, ?_, fun j u hu => ?_⟩, fun n hn => ?_⟩
    · have h0 : 0 < zs.length := by rw [ic_length] at hn; simp at hn; omega
      simpa [block_of_add] using World.block_lt_of_cell? W _ (hcell 0 h0)
    · have hj : j < (zs.take len).length := by have := (List.getElem?_eq_some_iff.1 hu).1; rwa [ic_length] at this
      have hj2 : j < zs.length := by simp at hj; omega
      have hj3 : j < len := by simp at hj; omega
      rw [hcell j hj2, ← hu]
      simp [ic, List.getD_eq_getElem?_getD, hj3, List.getElem?_eq_getElem hj2]
    · exact bounds_i64 (hwz n (List.mem_of_mem_take hn))

theorem view_acts {H : Type} {enc : TypeId × Value → H} {W : World} {fuel : Nat} {a0 : Option Addr} {len cap : Nat} {d : DataW H} {p : List MemPlace}
    (hf : DataW.trod enc Tryd.prog W 0 (fun _ => true) true fuel 34 (Value.slice a0 len cap).cells.toList = some (d, p)) :
    ∃ Z : List (Int × Int), Hid (len = Z.length) ∧ len ≤ cap ∧ Rd W (· < W.heap.size) a0 (ac Z) ∧ ActsIn Z := by
  rcases open_slice_pairs Tryd.underlying34 Tryd.underlying39 cellsAct rfl rfl cellsInt cellsInt hf with ⟨hcs, hx⟩ | ⟨a, len', cap', m, n, V0, V1, D0, D1, P0, P1, hcs, _, hl, hm, hmm, hx, hcell⟩
  · simp [Value.cells] at hcs
    obtain ⟨rfl, rfl, rfl⟩ := hcs
    exact ⟨[], rfl, Nat.le_refl _, Rd.none_, fun n hn => by cases hn⟩
  · simp [Value.cells] at hcs
    obtain ⟨rfl, rfl, rfl⟩ := hcs
    simp only [if_true] at hmm
    have hx2 : ∀ i, i < len → ∃ q : Int × Int, (W.cell? (a.add (i * 2)) = some (.int .i64 q.1) ∧ W.cell? (a.add (i * 2 + 1)) = some (.int .i64 q.2)) ∧ (-9223372036854775808 ≤ q.1 ∧ q.1 ≤ 9223372036854775807) ∧ -9223372036854775808 ≤ q.2 ∧ q.2 ≤ 9223372036854775807 := by
      intro i hi
      obtain ⟨h0, h1, h2, h3⟩ := hcell i (by omega)
      obtain ⟨x, hx, _, wx⟩ := DataW.trod_int Tryd.underlying3 h2
      obtain ⟨y, hy, _, wy⟩ := DataW.trod_int Tryd.underlying3 h3
      simp at hx hy
      exact ⟨(x, y), ⟨by rw [h0, hx], by rw [h1, hy]⟩, bounds_i64 wx, bounds_i64 wy⟩
    obtain ⟨f, hf2⟩ := choose_lt hx2
    refine ⟨(List.range len).map f, (by show _ = _; simp), hl, fun hn => ⟨a, rfl, ?_, fun j u hu => ?_⟩, fun q hq => ?_⟩
    · have h0 : 0 < len := by rw [ac_length] at hn; simp at hn; omega
      have := World.block_lt_of_cell? W _ (hf2 0 h0).1.1
      simpa [block_of_add] using this
    · have hj : j < len * 2 := by have := (List.getElem?_eq_some_iff.1 hu).1; rw [ac_length] at this; simpa using this
      have hk : ((List.range len).map f)[j / 2]? = some (f (j / 2)) := by
        rw [List.getElem?_map, List.getElem?_range (by omega)]; rfl
      have hat := ac_at _ _ _ hk
      have hc := (hf2 (j / 2) (by omega)).1
      by_cases h2 : j % 2 = 0
      · have e : j / 2 * 2 = j := by omega
        rw [e] at hat hc
        rw [hc.1, ← hu, hat.1]
      · have e : j / 2 * 2 + 1 = j := by omega
        rw [e] at hat hc
        rw [hc.2, ← hu, hat.2]
    · obtain ⟨i, hi, rfl⟩ := List.mem_map.1 hq
      exact (hf2 i (by simpa using hi)).2
end Go.Proofs.YtffphlbbophjfaaDoor.Bs
