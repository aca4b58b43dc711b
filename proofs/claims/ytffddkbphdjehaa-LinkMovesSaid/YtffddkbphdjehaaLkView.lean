/- Arguments opened: a net, as the contracts read it. No conditions. -/
import Derived.Deep.Strs
import Derived.Deep.SlicePairs
import Derived.ChangeSlices
import Derived.ChangeArms
import Derived.Carry
import Derived.OpenShut
import Derived.Test.YtffddkbphdjehaaLkRep
set_option linter.unusedVariables false
set_option linter.unusedSimpArgs false
set_option maxHeartbeats 4000000
set_option maxRecDepth 100000
namespace Go.Proofs.Ytffddkbphdjehaa.Lk
open Go.ChangeShapes Go.WideShapes Go.ChangeAt Go.RowKit Go.Deep
open Wn
theorem laidOut : laidOutB Try.prog = true := by kernel_rfl
section
variable {H : Type} {enc : TypeId × Value → H} {W : World}
theorem z_i64 : Try.prog.cellsOf 2 = 1 := by kernel_rfl
theorem z_int : Try.prog.cellsOf 3 = 1 := by kernel_rfl
theorem z_bool : Try.prog.cellsOf 4 = 1 := by kernel_rfl
theorem z_win : Try.prog.cellsOf 41 = 2 := by kernel_rfl
theorem z_wins : Try.prog.cellsOf 33 = 1 := by kernel_rfl
theorem z_winss : Try.prog.cellsOf 22 = 1 := by kernel_rfl
theorem z_link : Try.prog.cellsOf 35 = 7 := by kernel_rfl
theorem z_links : Try.prog.cellsOf 23 = 1 := by kernel_rfl
theorem z_net : Try.prog.cellsOf 25 = 3 := by kernel_rfl
theorem view_rows {α : Type} (f : α → List Value) (G : α → Prop) {t e : TypeId} {size : Nat} (ht : Try.prog.underlying t = some (.slice e)) (hc : Try.prog.cellsOf e = size) (hs : 0 < size) (hf : ∀ a, (f a).length = size)
    (hel : ∀ fuel cs' x, DataW.trod enc Try.prog W 0 (fun _ => true) true fuel e cs' = some x → ∃ a, cs' = f a ∧ G a) {fuel : Nat} {cs0 : List Value} {x : DataW H × List MemPlace}
    (h : DataW.trod enc Try.prog W 0 (fun _ => true) true fuel t cs0 = some x) : ∃ (a0 : Option Addr) (len cap : Nat) (Z : List α), cs0 = [.slice a0 len cap] ∧ len = Z.length ∧ len ≤ cap ∧ Rd W (· < W.heap.size) a0 (cs f Z) ∧ ∀ a ∈ Z, G a := by
  rcases open_slice ht h with ⟨hcs, hx⟩ | ⟨a, len, cap, m, n, D, Pl, hcs, _, hl, hm, hmm, hx, hcell⟩
  · exact ⟨none, 0, 0, [], hcs, rfl, Nat.le_refl _, Rd.none_, fun a ha => by cases ha⟩
  · simp only [if_true] at hmm
    have each : ∀ i, i < len → ∃ q : α, (∀ j u, (f q)[j]? = some u → W.cell? (a.add (i * size + j)) = some u) ∧ G q := by
      intro i hi
      obtain ⟨cs', h1, h2⟩ := hcell i (by omega)
      rw [hc] at h1
      obtain ⟨_, hlen, hcl⟩ := World.cells?_some h1
      obtain ⟨q, rfl, hG⟩ := hel _ _ _ h2
      refine ⟨q, fun j u hu => ?_, hG⟩
      have hj : j < size := by have := (List.getElem?_eq_some_iff.1 hu).1; rwa [hf] at this
      have := hcl j hj
      rw [add_of_add] at this
      rw [this, hu]
    by_cases h0 : len = 0
    · subst h0
      exact ⟨some a, 0, cap, [], hcs, rfl, Nat.zero_le _, Rd.none_, fun a ha => by cases ha⟩
    · haveI : Inhabited α := ⟨(each 0 (by omega)).choose⟩
      obtain ⟨g, hg⟩ := choose_lt each
      refine ⟨some a, len, cap, (List.range len).map g, hcs, by simp, hl, fun hn => ⟨a, rfl, ?_, fun j u hu => ?_⟩, fun q hq => ?_⟩
      · obtain ⟨u, hu⟩ : ∃ u, (f (g 0))[0]? = some u := ⟨_, List.getElem?_eq_getElem (by rw [hf]; exact hs)⟩
        have := World.block_lt_of_cell? W _ ((hg 0 (by omega)).1 0 u hu)
        simpa [block_of_add] using this
      · have hj : j < len * size := by
          have := (List.getElem?_eq_some_iff.1 hu).1
          rw [cs_length f size hf] at this
          simpa using this
        have hi : j / size < len := Nat.div_lt_of_lt_mul (by rw [Nat.mul_comm]; exact hj)
        have hk : j % size < size := Nat.mod_lt _ hs
        have hz : ((List.range len).map g)[j / size]? = some (g (j / size)) := by
          rw [List.getElem?_map, List.getElem?_range hi]; rfl
        have e : j / size * size + j % size = j := by rw [Nat.mul_comm]; exact Nat.div_add_mod j size
        have hat := cs_at f size hf _ _ _ hz _ hk
        rw [e] at hat
        rw [hat] at hu
        have := (hg (j / size) hi).1 _ u hu
        rwa [e] at this
      · obtain ⟨i, hi, rfl⟩ := List.mem_map.1 hq
        exact (hg i (by simpa using hi)).2
abbrev Trod (enc : TypeId × Value → H) (W : World) (fuel : Nat) (t : TypeId) (cs : List Value) (x : DataW H × List MemPlace) : Prop := DataW.trod enc Try.prog W 0 (fun _ => true) true fuel t cs = some x
theorem v_i64 {fuel : Nat} {cs : List Value} {x : DataW H × List MemPlace} (h : Trod enc W fuel 2 cs x) : ∃ n : Int, cs = [i64 n] := by
  obtain ⟨s, rfl, -⟩ := DataW.trod_int Try.underlying2 h
  exact ⟨s, rfl⟩
/-- a field's cells -/
theorem v_field {t : TypeId} {fs : Array Field} (ht : Try.prog.underlying t = some (.struct fs)) {fuel : Nat} {cs : List Value} {x : DataW H × List MemPlace} (h : Trod enc W fuel t cs x) (i : Nat) (f : Field) (hf : fs[i]? = some f) : ∃ n y, Trod enc W n f.type ((cs.drop f.offset).take (Try.prog.cellsOf f.type)) y := by
  obtain ⟨xs, n, -, -, -, hl, hh⟩ := DataW.trod_struct ht h
  have hi : i < xs.length := by rw [hl]; exact (Array.getElem?_eq_some_iff.1 hf).1
  exact ⟨n, xs[i], by rw [Trod, hh i f hf, List.getElem?_eq_getElem hi]⟩
theorem v_len {t : TypeId} {fs : Array Field} (ht : Try.prog.underlying t = some (.struct fs)) {fuel : Nat} {cs : List Value} {x : DataW H × List MemPlace} (h : Trod enc W fuel t cs x) : cs.length = Try.prog.cellsOf t := by
  obtain ⟨xs, n, -, -, hl, -⟩ := DataW.trod_struct ht h
  exact hl
theorem v_int {fuel : Nat} {cs : List Value} {x : DataW H × List MemPlace} (h : Trod enc W fuel 3 cs x) : ∃ n : Int, cs = [i64 n] := by
  obtain ⟨s, rfl, -⟩ := DataW.trod_int Try.underlying3 h
  exact ⟨s, rfl⟩
theorem v_bool {fuel : Nat} {cs : List Value} {x : DataW H × List MemPlace} (h : Trod enc W fuel 4 cs x) : ∃ b : Bool, cs = [.bool b] := by
  obtain ⟨s, rfl, -⟩ := DataW.trod_bool Try.underlying4 h
  exact ⟨s, rfl⟩

def wnC (p : Win) : List Value := [i64 p.1, i64 p.2]
theorem kc_cs (Z : List Win) : kc Z = cs wnC Z := rfl
theorem v_win {fuel : Nat} {cs0 : List Value} {x : DataW H × List MemPlace} (h : Trod enc W fuel 41 cs0 x) : ∃ p : Win, cs0 = wnC p := by
  have hl := v_len Try.underlying41 h
  rw [z_win] at hl
  obtain ⟨n0, y0, g0⟩ := v_field Try.underlying41 h 0 _ rfl
  obtain ⟨n1, y1, g1⟩ := v_field Try.underlying41 h 1 _ rfl
  obtain ⟨s0, e0⟩ := v_i64 g0
  obtain ⟨s1, e1⟩ := v_i64 g1
  match cs0, hl with
  | [b0, b1], _ =>
    simp [z_i64] at e0 e1
    exact ⟨(s0, s1), by subst_vars; rfl⟩
theorem v_wins {fuel : Nat} {cs0 : List Value} {x : DataW H × List MemPlace} (h : Trod enc W fuel 33 cs0 x) : ∃ r : RwA, cs0 = rwC r ∧ RwOk W (· < W.heap.size) r := by
  obtain ⟨a0, len, cap, Z, h1, h2, h3, h4, -⟩ := view_rows wnC (fun _ => True) Try.underlying33 z_win (by omega) (fun _ => rfl) (fun _ _ _ h => by obtain ⟨s, e⟩ := v_win h; exact ⟨s, e, trivial⟩) h
  subst h2
  exact ⟨⟨Z, a0, cap⟩, h1, h3, by rw [kc_cs]; exact h4⟩
theorem v_link {fuel : Nat} {cs0 : List Value} {x : DataW H × List MemPlace} (h : Trod enc W fuel 35 cs0 x) : ∃ a : LnA, cs0 = lnC a ∧ LnOk W (· < W.heap.size) a := by
  have hl := v_len Try.underlying35 h
  rw [z_link] at hl
  obtain ⟨n0, y0, g0⟩ := v_field Try.underlying35 h 0 _ rfl
  obtain ⟨n1, y1, g1⟩ := v_field Try.underlying35 h 1 _ rfl
  obtain ⟨n2, y2, g2⟩ := v_field Try.underlying35 h 2 _ rfl
  obtain ⟨n3, y3, g3⟩ := v_field Try.underlying35 h 3 _ rfl
  obtain ⟨n4, y4, g4⟩ := v_field Try.underlying35 h 4 _ rfl
  obtain ⟨n5, y5, g5⟩ := v_field Try.underlying35 h 5 _ rfl
  obtain ⟨n6, y6, g6⟩ := v_field Try.underlying35 h 6 _ rfl
  obtain ⟨s0, e0⟩ := v_int g0
  obtain ⟨s1, e1⟩ := v_int g1
  obtain ⟨s2, e2⟩ := v_i64 g2
  obtain ⟨s3, e3⟩ := v_bool g3
  obtain ⟨s4, e4⟩ := v_int g4
  obtain ⟨r5, e5, k5⟩ := v_wins g5
  obtain ⟨r6, e6, k6⟩ := v_wins g6
  match cs0, hl with
  | [b0, b1, b2, b3, b4, b5, b6], _ =>
    simp [z_i64, z_int, z_bool, z_wins, rwC] at e0 e1 e2 e3 e4 e5 e6
    exact ⟨⟨⟨s0, s1, s2, s3, s4, r5.z, r6.z⟩, r5.p, r5.c, r6.p, r6.c⟩, by subst_vars; rfl, ⟨k5.cap, k6.cap, k5.rd, k6.rd⟩⟩
/-- a net's cells, as they lie -/
theorem view_net {fuel : Nat} {cs0 : List Value} {x : DataW H × List MemPlace} (h : Trod enc W fuel 25 cs0 x) : ∃ y : NtA, cs0 = [i64 y.hz, .slice y.p y.rs.length y.c, .slice y.q y.ls.length y.d] ∧ NtOk W (· < W.heap.size) y := by
  have hl := v_len Try.underlying25 h
  rw [z_net] at hl
  obtain ⟨n0, y0, g0⟩ := v_field Try.underlying25 h 0 _ rfl
  obtain ⟨n1, y1, g1⟩ := v_field Try.underlying25 h 1 _ rfl
  obtain ⟨n2, y2, g2⟩ := v_field Try.underlying25 h 2 _ rfl
  obtain ⟨s0, e0⟩ := v_i64 g0
  obtain ⟨a1, l1, c1, S1, e1, q1, k1, r1, o1⟩ := view_rows rwC (RwOk W (· < W.heap.size)) Try.underlying22 z_wins (by omega) (fun _ => rfl) (fun _ _ _ h => v_wins h) g1
  obtain ⟨a2, l2, c2, S2, e2, q2, k2, r2, o2⟩ := view_rows lnC (LnOk W (· < W.heap.size)) Try.underlying23 z_link (by omega) (fun _ => rfl) (fun _ _ _ h => v_link h) g2
  match cs0, hl with
  | [b0, b1, b2], _ =>
    simp [z_i64, z_winss, z_links] at e0 e1 e2
    subst q1 q2
    exact ⟨⟨s0, S1, S2, a1, c1, a2, c2⟩, by subst_vars; rfl, ⟨k1, k2, r1, r2, o1, o2⟩⟩
end
end Go.Proofs.Ytffddkbphdjehaa.Lk
