/- Arguments opened: a run, as the contracts read it. No conditions. -/
import Derived.Test.YtfefnfifeaihhaaGreatExH
set_option linter.unusedVariables false
set_option linter.unusedSimpArgs false
set_option maxHeartbeats 4000000
set_option maxRecDepth 100000
namespace Go.Proofs.YtfefnfifeaihhaaGreat.Wo
open Go.ChangeShapes Go.WideShapes Go.ChangeAt Go.RowKit Go.Deep
open Lx Sh
theorem laidOut : laidOutB Tryz.prog = true := by kernel_rfl
theorem z_str : Tryz.prog.cellsOf 9 = 1 := by kernel_rfl
theorem z_i64 : Tryz.prog.cellsOf 2 = 1 := by kernel_rfl
theorem z_i64s : Tryz.prog.cellsOf 22 = 1 := by kernel_rfl
section
variable {H : Type} {enc : TypeId × Value → H} {W : World}
theorem view_rows {α : Type} (f : α → List Value) (G : α → Prop) {t e : TypeId} {size : Nat} (ht : Tryz.prog.underlying t = some (.slice e)) (hc : Tryz.prog.cellsOf e = size) (hs : 0 < size) (hf : ∀ a, (f a).length = size)
    (hel : ∀ fuel cs' x, DataW.trod enc Tryz.prog W 0 (fun _ => true) true fuel e cs' = some x → ∃ a, cs' = f a ∧ G a) {fuel : Nat} {cs0 : List Value} {x : DataW H × List MemPlace}
    (h : DataW.trod enc Tryz.prog W 0 (fun _ => true) true fuel t cs0 = some x) : ∃ (a0 : Option Addr) (len cap : Nat) (Z : List α), cs0 = [.slice a0 len cap] ∧ len = Z.length ∧ len ≤ cap ∧ Rd W (· < W.heap.size) a0 (cs f Z) ∧ ∀ a ∈ Z, G a := by
  rcases open_slice ht h with ⟨hcs, hx⟩ | ⟨a, len, cap, m, n, D, Pl, hcs, _, hl, hm, hmm, hx, hcell⟩
  · exact ⟨none, 0, 0, [], hcs, rfl, Nat.le_refl _, Rd.none_, fun a ha => by cases ha⟩
  · simp only [if_true] at hmm
    have each : ∀ i, i < len → ∃ q : α, (∀ j u, (f q)[j]? = some u → W.cell? (a.add (i * size + j)) = some u) ∧ G q := by
      intro i hi
      obtain ⟨cs', h1, h2⟩ := hcell i (by omega)
      rw [hc] at h1
      obtain ⟨_, hlen, hcl⟩ := World.cells?_some h1
      obtain ⟨q, rfl, hG⟩ := hel _ _ _ h2
      refine ⟨q, fun j u hu => ?_, hG⟩
      have hj : j < size := by have := (List.getElem?_eq_some_iff.1 hu).1; rwa [hf] at this
      have := hcl j hj
      rw [add_of_add] at this
      rw [this, hu]
    by_cases h0 : len = 0
    · subst h0
      exact ⟨some a, 0, cap, [], hcs, rfl, Nat.zero_le _, Rd.none_, fun a ha => by cases ha⟩
    · haveI : Inhabited α := ⟨(each 0 (by omega)).choose⟩
      obtain ⟨g, hg⟩ := choose_lt each
      refine ⟨some a, len, cap, (List.range len).map g, hcs, by simp, hl, fun hn => ⟨a, rfl, ?_, fun j u hu => ?_⟩, fun q hq => ?_⟩
      · obtain ⟨u, hu⟩ : ∃ u, (f (g 0))[0]? = some u := ⟨_, List.getElem?_eq_getElem (by rw [hf]; exact hs)⟩
        have := World.block_lt_of_cell? W _ ((hg 0 (by omega)).1 0 u hu)
        simpa [block_of_add] using this
      · have hj : j < len * size := by
          have := (List.getElem?_eq_some_iff.1 hu).1
          rw [cs_length f size hf] at this
          simpa using this
        have hi : j / size < len := Nat.div_lt_of_lt_mul (by rw [Nat.mul_comm]; exact hj)
        have hk : j % size < size := Nat.mod_lt _ hs
        have hz : ((List.range len).map g)[j / size]? = some (g (j / size)) := by
          rw [List.getElem?_map, List.getElem?_range hi]; rfl
        have e : j / size * size + j % size = j := by rw [Nat.mul_comm]; exact Nat.div_add_mod j size
        have hat := cs_at f size hf _ _ _ hz _ hk
        rw [e] at hat
        rw [hat] at hu
        have := (hg (j / size) hi).1 _ u hu
        rwa [e] at this
      · obtain ⟨i, hi, rfl⟩ := List.mem_map.1 hq
        exact (hg i (by simpa using hi)).2
abbrev Trod (enc : TypeId × Value → H) (W : World) (fuel : Nat) (t : TypeId) (cs : List Value) (x : DataW H × List MemPlace) : Prop := DataW.trod enc Tryz.prog W 0 (fun _ => true) true fuel t cs = some x
theorem v_str {fuel : Nat} {cs : List Value} {x : DataW H × List MemPlace} (h : Trod enc W fuel 9 cs x) : ∃ s : List UInt8, cs = [str s] := by
  obtain ⟨s, rfl, -⟩ := DataW.trod_string Tryz.underlying9 h
  exact ⟨s.data.toList, rfl⟩
theorem v_i64 {fuel : Nat} {cs : List Value} {x : DataW H × List MemPlace} (h : Trod enc W fuel 2 cs x) : ∃ n : Int, cs = [i64 n] := by
  obtain ⟨s, rfl, -⟩ := DataW.trod_int Tryz.underlying2 h
  exact ⟨s, rfl⟩
/-- a field's cells -/
theorem v_field {t : TypeId} {fs : Array Field} (ht : Tryz.prog.underlying t = some (.struct fs)) {fuel : Nat} {cs : List Value} {x : DataW H × List MemPlace} (h : Trod enc W fuel t cs x) (i : Nat) (f : Field) (hf : fs[i]? = some f) : ∃ n y, Trod enc W n f.type ((cs.drop f.offset).take (Tryz.prog.cellsOf f.type)) y := by
  obtain ⟨xs, n, -, -, -, hl, hh⟩ := DataW.trod_struct ht h
  have hi : i < xs.length := by rw [hl]; exact (Array.getElem?_eq_some_iff.1 hf).1
  exact ⟨n, xs[i], by rw [Trod, hh i f hf, List.getElem?_eq_getElem hi]⟩
theorem v_len {t : TypeId} {fs : Array Field} (ht : Tryz.prog.underlying t = some (.struct fs)) {fuel : Nat} {cs : List Value} {x : DataW H × List MemPlace} (h : Trod enc W fuel t cs x) : cs.length = Tryz.prog.cellsOf t := by
  obtain ⟨xs, n, -, -, hl, -⟩ := DataW.trod_struct ht h
  exact hl
theorem v_i64s {fuel : Nat} {cs0 : List Value} {x : DataW H × List MemPlace} (h : Trod enc W fuel 22 cs0 x) : ∃ (a0 : Option Addr) (cap : Nat) (Z : List Int), cs0 = [.slice a0 Z.length cap] ∧ Rd W (· < W.heap.size) a0 (cs intC Z) := by
  obtain ⟨a0, len, cap, Z, h1, h2, h3, h4, -⟩ := view_rows intC (fun _ => True) Tryz.underlying22 z_i64 (by omega) (fun _ => rfl) (fun _ _ _ h => by obtain ⟨s, e⟩ := v_i64 h; exact ⟨s, e, trivial⟩) h
  subst h2
  exact ⟨a0, cap, Z, h1, h4⟩
theorem v_int {fuel : Nat} {cs : List Value} {x : DataW H × List MemPlace} (h : Trod enc W fuel 3 cs x) : ∃ n : Int, cs = [i64 n] := by
  obtain ⟨s, rfl, -⟩ := DataW.trod_int Tryz.underlying3 h
  exact ⟨s, rfl⟩
theorem z_run : Tryz.prog.cellsOf 24 = 4 := by kernel_rfl
theorem z_int : Tryz.prog.cellsOf 3 = 1 := by kernel_rfl
theorem view_run {fuel : Nat} {cs0 : List Value} {x : DataW H × List MemPlace} (h : Trod enc W fuel 24 cs0 x) : ∃ (tr no : Int) (A B : Option Addr) (c d : Nat) (la ld : List Int), cs0 = [.int .i64 tr, .int .i64 no, .slice A la.length c, .slice B ld.length d] ∧ Rd W (· < W.heap.size) A (cs intC la) ∧ Rd W (· < W.heap.size) B (cs intC ld) := by
  have hl := v_len Tryz.underlying24 h
  rw [z_run] at hl
  obtain ⟨n0, y0, g0⟩ := v_field Tryz.underlying24 h 0 _ rfl
  obtain ⟨n1, y1, g1⟩ := v_field Tryz.underlying24 h 1 _ rfl
  obtain ⟨n2, y2, g2⟩ := v_field Tryz.underlying24 h 2 _ rfl
  obtain ⟨n3, y3, g3⟩ := v_field Tryz.underlying24 h 3 _ rfl
  obtain ⟨tr, e0⟩ := v_int g0
  obtain ⟨no, e1⟩ := v_int g1
  obtain ⟨A, c, la, e2, r2⟩ := v_i64s g2
  obtain ⟨B, d, ld, e3, r3⟩ := v_i64s g3
  match cs0, hl with
  | [b0, b1, b2, b3], _ =>
    simp [z_int, z_i64s] at e0 e1 e2 e3
    subst e0 e1 e2 e3
    exact ⟨tr, no, A, B, c, d, la, ld, rfl, r2, r3⟩
end
end Go.Proofs.YtfefnfifeaihhaaGreat.Wo
