/- Arguments opened: rows of numbers and of windows, times, as the contracts want them. No conditions. -/
import Derived.RangeFuncBox
import Derived.RangeFuncLeaves
import Derived.Shelf.Abstract
import Derived.OwnWalkIn
import Derived.TacticsInMore
import Derived.LoopNIn
import Derived.LoopIn
import Derived.BigRegionIn
import Derived.RangeFuncNested
import Derived.RangeFuncCalls
import Derived.Shelf.RegionOpen
import Derived.Sort.QuietIn
import Derived.StillTail
import Derived.StillTactics
import Derived.Maps.AppendAt
import Derived.Lib.SliceRun
import Derived.RangeFuncNested
import Derived.Test.YtejmfhmglbggnaaWinLives
import Derived.IntWalk
import Derived.ChangeSlices
import Derived.Deep.SlicePairs
import Derived.Deep.Strs
import Derived.ChangeArms
import Derived.Carry
import Derived.OpenShut
namespace Go.Proofs.Ytejmfhmglbggnaa.Wn
open Go.ChangeShapes Go.WideShapes Go.ChangeAt Go.RowKit Go.Deep
set_option linter.unusedVariables false
set_option linter.unusedSimpArgs false
attribute [local go_sem] Oper.semAt_some

theorem laidOut : laidOutB Try.prog = true := by kernel_rfl
theorem cells_i64 : Try.prog.cellsOf 2 = 1 := by kernel_rfl
theorem cells_win : Try.prog.cellsOf 31 = 2 := by kernel_rfl
theorem cells_times : Try.prog.cellsOf 27 = 3 := by kernel_rfl
def InKind (Z : List Int) : Prop := ∀ n ∈ Z, -9223372036854775808 ≤ n ∧ n ≤ 9223372036854775807

theorem view_row {H : Type} {enc : TypeId × Value → H} {W : World} {fuel : Nat} {t e : TypeId} {a0 : Option Addr} {len cap : Nat} {d : DataW H} {p : List MemPlace} (ht : Try.prog.underlying t = some (.slice e)) (he : Try.prog.underlying e = some (.int .i64)) (hc : Try.prog.cellsOf e = 1)
    (hf : DataW.trod enc Try.prog W 0 (fun _ => true) true fuel t (Value.slice a0 len cap).cells.toList = some (d, p)) :
    ∃ Z : List Int, Hid (len = Z.length) ∧ len ≤ cap ∧ Rd W (· < W.heap.size) a0 (ic Z) ∧ InKind Z := by
  rcases open_ints ht he hc hf with ⟨hcs, hx⟩ | ⟨a, len', cap', zs, hcs, _, hl, hm, hz, hx, hcell, hwz⟩
  · simp [Value.cells] at hcs
    obtain ⟨rfl, rfl, rfl⟩ := hcs
    exact ⟨[], rfl, Nat.le_refl _, Rd.none_, fun n hn => by cases hn⟩
  · simp [Value.cells] at hcs
    obtain ⟨rfl, rfl, rfl⟩ := hcs
    simp only [if_true] at hz
    refine ⟨zs.take len, (by show _ = _; simp; omega), hl, fun hn => ⟨a, rfl, ?_, fun j u hu => ?_⟩, fun n hn => ?_⟩
    · have h0 : 0 < zs.length := by rw [ic_length] at hn; simp at hn; omega
      simpa [block_of_add] using World.block_lt_of_cell? W _ (hcell 0 h0)
    · have hj : j < (zs.take len).length := by have := (List.getElem?_eq_some_iff.1 hu).1; rwa [ic_length] at this
      have hj2 : j < zs.length := by simp at hj; omega
      have hj3 : j < len := by simp at hj; omega
      rw [hcell j hj2, ← hu]
      simp [ic, List.getD_eq_getElem?_getD, hj3, List.getElem?_eq_getElem hj2]
    · exact bounds_i64 (hwz n (List.mem_of_mem_take hn))

theorem view_wins {H : Type} {enc : TypeId × Value → H} {W : World} {fuel : Nat} {a0 : Option Addr} {len cap : Nat} {d : DataW H} {p : List MemPlace}
    (hf : DataW.trod enc Try.prog W 0 (fun _ => true) true fuel 22 (Value.slice a0 len cap).cells.toList = some (d, p)) :
    ∃ Z : List Win, Hid (len = Z.length) ∧ len ≤ cap ∧ Rd W (· < W.heap.size) a0 (kc Z) := by
  rcases open_slice_pairs Try.underlying22 Try.underlying31 cells_win rfl rfl cells_i64 cells_i64 hf with ⟨hcs, hx⟩ | ⟨a, len', cap', m, n, V0, V1, D0, D1, P0, P1, hcs, _, hl, hm, hmm, hx, hcell⟩
  · simp [Value.cells] at hcs
    obtain ⟨rfl, rfl, rfl⟩ := hcs
    exact ⟨[], rfl, Nat.le_refl _, Rd.none_⟩
  · simp [Value.cells] at hcs
    obtain ⟨rfl, rfl, rfl⟩ := hcs
    simp only [if_true] at hmm
    have hx2 : ∀ i, i < len → ∃ q : Win, W.cell? (a.add (i * 2)) = some (.int .i64 q.1) ∧ W.cell? (a.add (i * 2 + 1)) = some (.int .i64 q.2) := by
      intro i hi
      obtain ⟨h0, h1, h2, h3⟩ := hcell i (by omega)
      obtain ⟨x, hx, _, _⟩ := DataW.trod_int Try.underlying2 h2
      obtain ⟨y, hy, _, _⟩ := DataW.trod_int Try.underlying2 h3
      simp at hx hy
      exact ⟨(x, y), by rw [h0, hx], by rw [h1, hy]⟩
    obtain ⟨f, hf2⟩ := choose_lt hx2
    refine ⟨(List.range len).map f, (by show _ = _; simp), hl, fun hn => ⟨a, rfl, ?_, fun j u hu => ?_⟩⟩
    · have h0 : 0 < len := by rw [kc_length] at hn; simp at hn; omega
      have := World.block_lt_of_cell? W _ (hf2 0 h0).1
      simpa [block_of_add] using this
    · have hj : j < len * 2 := by have := (List.getElem?_eq_some_iff.1 hu).1; rw [kc_length] at this; simpa using this
      have hk : ((List.range len).map f)[j / 2]? = some (f (j / 2)) := by
        rw [List.getElem?_map, List.getElem?_range (by omega)]; rfl
      have hat := kc_at _ _ _ hk
      have hc := hf2 (j / 2) (by omega)
      by_cases h2 : j % 2 = 0
      · have e : j / 2 * 2 = j := by omega
        rw [e] at hat hc
        rw [hc.1, ← hu, hat.1]
      · have e : j / 2 * 2 + 1 = j := by omega
        rw [e] at hat hc
        rw [hc.2, ← hu, hat.2]

/-- times handed in -/
theorem view_times {H : Type} {enc : TypeId × Value → H} {W : World} {fuel : Nat} {v : Value} {d : DataW H} {p : List MemPlace} (hv : ∃ cs, v = .agg cs ∧ cs.size = Try.prog.cellsOf 27)
    (hf : DataW.trod enc Try.prog W 0 (fun _ => true) true fuel 27 v.cells.toList = some (d, p)) :
    ∃ t : Tm, v = tv t ∧ (-9223372036854775808 ≤ t.f ∧ t.f ≤ 9223372036854775807) ∧ (-9223372036854775808 ≤ t.e ∧ t.e ≤ 9223372036854775807) ∧ (-9223372036854775808 ≤ t.l ∧ t.l ≤ 9223372036854775807) := by
  obtain ⟨cs, rfl, hs⟩ := hv
  obtain ⟨y0, y1, y2, n, _, hl, h0, h1, h2⟩ := trod_struct3 Try.underlying27 hf
  obtain ⟨a, ha, _, wa⟩ := DataW.trod_int Try.underlying2 h0
  obtain ⟨b, hb, _, wb⟩ := DataW.trod_int Try.underlying2 h1
  obtain ⟨c, hc, _, wc⟩ := DataW.trod_int Try.underlying2 h2
  simp only [Value.cells, cells_i64, cells_times] at ha hb hc hl
  refine ⟨⟨a, b, c⟩, ?_, bounds_i64 wa, bounds_i64 wb, bounds_i64 wc⟩
  have e : cs.toList = [.int .i64 a, .int .i64 b, .int .i64 c] := by
    match h : cs.toList, hl with
    | [u0, u1, u2], _ =>
      rw [h] at ha hb hc
      simp at ha hb hc
      rw [ha, hb, hc]
  show Value.agg cs = .agg _
  congr 1
  rw [← Array.toArray_toList (xs := cs), e]
end Go.Proofs.Ytejmfhmglbggnaa.Wn
