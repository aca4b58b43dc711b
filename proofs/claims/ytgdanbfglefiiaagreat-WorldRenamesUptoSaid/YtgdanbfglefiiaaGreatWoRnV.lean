/- What is handed in, where all of it together is of a bounded bulk: a sheet's cells as they lie, with its words' lengths. -/
import Derived.Test.YtgdanbfglefiiaaGreatWoRnE
import Derived.ChangeSlices
import Derived.Deep.Strs
import Derived.Deep.SlicePairs
import Derived.ChangeArms
import Derived.Carry
import Derived.Deep.RegionHeld3
import Derived.Deep.RegionHeldLaw
import Derived.Deep.CutRange
import Derived.StillTailTactics
import Derived.WalkSpells
import Derived.Lib.QuietBelow
import Derived.Deep.QuietTactic
namespace Go.Proofs.YtgdanbfglefiiaaGreat.Wo
open Go.ChangeShapes Go.WideShapes Go.ChangeAt Go.RowKit Go.Maps
open Lx Sh It
set_option linter.unusedVariables false
set_option linter.unusedSimpArgs false
open Go.Deep
def I64 (n : Int) : Prop := -9223372036854775808 ≤ n ∧ n ≤ 9223372036854775807
def TI64 (t : TimesM) : Prop := I64 t.frm ∧ I64 t.every ∧ I64 t.len
def TrI64 (p : TripM) : Prop := I64 p.frm ∧ I64 p.every ∧ I64 p.til
theorem bulk_mem {H : Type} {d : DataW H} : ∀ {l : List (DataW H)}, d ∈ l → Rows.uptoBulk d ≤ Rows.uptoBulkAll l
  | x :: r, h => by
    simp only [Rows.uptoBulkAll]
    rcases List.mem_cons.1 h with rfl | h
    · omega
    · have := bulk_mem h; omega
/-- a word, a number, a thing of which nothing is too long -/
def NL (s : List UInt8) : Prop := s.length ≤ 1048576
def PaS (p : PathM) : Prop := NL p.name ∧ NL p.a ∧ NL p.b ∧ I64 p.len
def DoS (p : DoorM) : Prop := NL p.name ∧ NL p.a ∧ NL p.b ∧ I64 p.len ∧ TI64 p.times
def TrS (p : TripM) : Prop := NL p.name ∧ NL p.route ∧ TrI64 p
def HaS (p : HazM) : Prop := NL p.name ∧ NL p.at_ ∧ TI64 p.times
def RtS (r : RouteM) : Prop := NL r.name ∧ (∀ s ∈ r.stops, NL s) ∧ (∀ d ∈ r.rides, I64 d) ∧ (∀ d ∈ r.stays, I64 d)
structure ShS (x : SheetM) : Prop where
  h : I64 x.horizon
  s : ∀ a ∈ x.stops, NL a
  p : ∀ a ∈ x.paths, PaS a
  d : ∀ a ∈ x.doors, DoS a
  r : ∀ a ∈ x.routes, RtS a
  t : ∀ a ∈ x.trips, TrS a
  z : ∀ a ∈ x.hazards, HaS a
theorem wf_i64 {n : Int} (h : (Lit.int .i64 n).wf = true) : I64 n := by
  exact bounds_i64 h
section
variable {H : Type} {enc : TypeId × Value → H} {W : World}
theorem w_str {fuel : Nat} {cs : List Value} {x : DataW H × List MemPlace} (h : Trod enc W fuel 9 cs x) : ∃ s : List UInt8, cs = [str s] ∧ s.length ≤ Rows.uptoBulk x.1 := by
  obtain ⟨s, rfl, rfl, -⟩ := DataW.trod_string Tryz.underlying9 h
  exact ⟨s.data.toList, rfl, by simp [Rows.uptoBulk]⟩
theorem w_i64 {fuel : Nat} {cs : List Value} {x : DataW H × List MemPlace} (h : Trod enc W fuel 2 cs x) : ∃ n : Int, cs = [i64 n] ∧ I64 n := by
  obtain ⟨s, rfl, rfl, hw⟩ := DataW.trod_int Tryz.underlying2 h
  exact ⟨s, rfl, wf_i64 hw⟩
theorem w_field {t : TypeId} {fs : Array Field} (ht : Tryz.prog.underlying t = some (.struct fs)) {fuel : Nat} {cs : List Value} {x : DataW H × List MemPlace} (h : Trod enc W fuel t cs x) (i : Nat) (f : Field) (hf : fs[i]? = some f) :
    ∃ n y, Trod enc W n f.type ((cs.drop f.offset).take (Tryz.prog.cellsOf f.type)) y ∧ Rows.uptoBulk y.1 ≤ Rows.uptoBulk x.1 := by
  obtain ⟨xs, n, -, rfl, -, hl, hh⟩ := DataW.trod_struct ht h
  have hi : i < xs.length := by rw [hl]; exact (Array.getElem?_eq_some_iff.1 hf).1
  refine ⟨n, xs[i], by rw [Trod, hh i f hf, List.getElem?_eq_getElem hi], ?_⟩
  have := bulk_mem (List.mem_map_of_mem (f := (·.1)) (List.getElem_mem hi))
  simp only [Rows.uptoBulk]
  omega
theorem w_rows {α : Type} (f : α → List Value) (G : α → Prop) {t e : TypeId} {size : Nat} (ht : Tryz.prog.underlying t = some (.slice e)) (hc : Tryz.prog.cellsOf e = size) (hs : 0 < size) (hf : ∀ a, (f a).length = size) {M : Nat}
    (hel : ∀ fuel cs' x, DataW.trod enc Tryz.prog W 0 (fun _ => true) true fuel e cs' = some x → Rows.uptoBulk x.1 ≤ M → ∃ a, cs' = f a ∧ G a) {fuel : Nat} {cs0 : List Value} {x : DataW H × List MemPlace}
    (h : DataW.trod enc Tryz.prog W 0 (fun _ => true) true fuel t cs0 = some x) (hM : Rows.uptoBulk x.1 ≤ M) : ∃ (a0 : Option Addr) (len cap : Nat) (Z : List α), cs0 = [.slice a0 len cap] ∧ len = Z.length ∧ len ≤ cap ∧ Rd W (· < W.heap.size) a0 (cs f Z) ∧ ∀ a ∈ Z, G a := by
  rcases DataW.trod_slice ht h with ⟨hcs, hx⟩ | ⟨a, len, cap, elems, rest, n, -, hcs, rfl, -, hl, hm, hel0, hcell, -, -⟩
  · exact ⟨none, 0, 0, [], hcs, rfl, Nat.le_refl _, Rd.none_, fun a ha => by cases ha⟩
  · have each : ∀ i, i < len → ∃ q : α, (∀ j u, (f q)[j]? = some u → W.cell? (a.add (i * size + j)) = some u) ∧ G q := by
      intro i hi
      have hci := hcell i hi
      have hie : i < elems.length := by rw [hel0]; exact hi
      rw [List.getElem?_eq_getElem hie, Option.bind_eq_some_iff] at hci
      obtain ⟨cs', h1, h2⟩ := hci
      rw [hc] at h1
      obtain ⟨_, hlen, hcl⟩ := World.cells?_some h1
      have hb := bulk_mem (List.mem_map_of_mem (f := (·.1)) (List.getElem_mem hie))
      simp only [Rows.uptoBulk] at hM
      obtain ⟨q, rfl, hG⟩ := hel _ _ _ h2 (by omega)
      refine ⟨q, fun j u hu => ?_, hG⟩
      have hj : j < size := by have := (List.getElem?_eq_some_iff.1 hu).1; rwa [hf] at this
      have := hcl j hj
      rw [add_of_add] at this
      rw [this, hu]
    by_cases h0 : len = 0
    · subst h0
      exact ⟨some a, 0, cap, [], hcs, rfl, Nat.zero_le _, Rd.none_, fun a ha => by cases ha⟩
    · haveI : Inhabited α := ⟨(each 0 (by omega)).choose⟩
      obtain ⟨g, hg⟩ := choose_lt each
      refine ⟨some a, len, cap, (List.range len).map g, hcs, by simp, hl, fun hn => ⟨a, rfl, ?_, fun j u hu => ?_⟩, fun q hq => ?_⟩
      · obtain ⟨u, hu⟩ : ∃ u, (f (g 0))[0]? = some u := ⟨_, List.getElem?_eq_getElem (by rw [hf]; exact hs)⟩
        have := World.block_lt_of_cell? W _ ((hg 0 (by omega)).1 0 u hu)
        simpa [block_of_add] using this
      · have hj : j < len * size := by
          have := (List.getElem?_eq_some_iff.1 hu).1
          rw [cs_length f size hf] at this
          simpa using this
        have hi : j / size < len := Nat.div_lt_of_lt_mul (by rw [Nat.mul_comm]; exact hj)
        have hk : j % size < size := Nat.mod_lt _ hs
        have hz : ((List.range len).map g)[j / size]? = some (g (j / size)) := by
          rw [List.getElem?_map, List.getElem?_range hi]; rfl
        have e : j / size * size + j % size = j := by rw [Nat.mul_comm]; exact Nat.div_add_mod j size
        have hat := cs_at f size hf _ _ _ hz _ hk
        rw [e] at hat
        rw [hat] at hu
        have := (hg (j / size) hi).1 _ u hu
        rwa [e] at this
      · obtain ⟨i, hi, rfl⟩ := List.mem_map.1 hq
        exact (hg i (by simpa using hi)).2
set_option maxRecDepth 100000 in
theorem w_path {fuel : Nat} {cs : List Value} {x : DataW H × List MemPlace} (h : Trod enc W fuel 65 cs x) (hM : Rows.uptoBulk x.1 ≤ 1048576) : ∃ p : PathM, cs = paC p ∧ PaS p := by
  have hl := v_len Tryz.underlying65 h
  rw [z_path] at hl
  obtain ⟨n0, y0, g0, b0⟩ := w_field Tryz.underlying65 h 0 _ rfl
  obtain ⟨n1, y1, g1, b1⟩ := w_field Tryz.underlying65 h 1 _ rfl
  obtain ⟨n2, y2, g2, b2⟩ := w_field Tryz.underlying65 h 2 _ rfl
  obtain ⟨n3, y3, g3, b3⟩ := w_field Tryz.underlying65 h 3 _ rfl
  obtain ⟨s0, e0, l0⟩ := w_str g0
  obtain ⟨s1, e1, l1⟩ := w_str g1
  obtain ⟨s2, e2, l2⟩ := w_str g2
  obtain ⟨s3, e3, l3⟩ := w_i64 g3
  match cs, hl with
  | [a, b, c, d], _ =>
    simp [z_str, z_i64] at e0 e1 e2 e3
    exact ⟨⟨s0, s1, s2, s3⟩, by subst_vars; rfl, by unfold NL; dsimp only; omega, by unfold NL; dsimp only; omega, by unfold NL; dsimp only; omega, l3⟩
set_option maxRecDepth 100000 in
theorem w_times {fuel : Nat} {cs : List Value} {x : DataW H × List MemPlace} (h : Trod enc W fuel 53 cs x) : ∃ t : TimesM, cs = [i64 t.frm, i64 t.every, i64 t.len] ∧ TI64 t := by
  have hl := v_len Tryz.underlying53 h
  rw [z_times] at hl
  obtain ⟨n0, y0, g0, b0⟩ := w_field Tryz.underlying53 h 0 _ rfl
  obtain ⟨n1, y1, g1, b1⟩ := w_field Tryz.underlying53 h 1 _ rfl
  obtain ⟨n2, y2, g2, b2⟩ := w_field Tryz.underlying53 h 2 _ rfl
  obtain ⟨s0, e0, l0⟩ := w_i64 g0
  obtain ⟨s1, e1, l1⟩ := w_i64 g1
  obtain ⟨s2, e2, l2⟩ := w_i64 g2
  match cs, hl with
  | [a, b, c], _ =>
    simp [z_i64] at e0 e1 e2
    exact ⟨⟨s0, s1, s2⟩, by subst_vars; rfl, l0, l1, l2⟩
set_option maxRecDepth 100000 in
theorem w_door {fuel : Nat} {cs : List Value} {x : DataW H × List MemPlace} (h : Trod enc W fuel 55 cs x) (hM : Rows.uptoBulk x.1 ≤ 1048576) : ∃ p : DoorM, cs = doC p ∧ DoS p := by
  have hl := v_len Tryz.underlying55 h
  rw [z_door] at hl
  obtain ⟨n0, y0, g0, b0⟩ := w_field Tryz.underlying55 h 0 _ rfl
  obtain ⟨n1, y1, g1, b1⟩ := w_field Tryz.underlying55 h 1 _ rfl
  obtain ⟨n2, y2, g2, b2⟩ := w_field Tryz.underlying55 h 2 _ rfl
  obtain ⟨n3, y3, g3, b3⟩ := w_field Tryz.underlying55 h 3 _ rfl
  obtain ⟨n4, y4, g4, b4⟩ := w_field Tryz.underlying55 h 4 _ rfl
  obtain ⟨s0, e0, l0⟩ := w_str g0
  obtain ⟨s1, e1, l1⟩ := w_str g1
  obtain ⟨s2, e2, l2⟩ := w_str g2
  obtain ⟨s3, e3, l3⟩ := w_i64 g3
  obtain ⟨t4, e4, l4⟩ := w_times g4
  match cs, hl with
  | [a, b, c, d, e, f, g], _ =>
    simp [z_str, z_i64, z_times] at e0 e1 e2 e3 e4
    exact ⟨⟨s0, s1, s2, s3, t4⟩, by subst_vars; obtain ⟨rfl, rfl, rfl⟩ := e4; rfl, by unfold NL; dsimp only; omega, by unfold NL; dsimp only; omega, by unfold NL; dsimp only; omega, l3, l4⟩
set_option maxRecDepth 100000 in
theorem w_trip {fuel : Nat} {cs : List Value} {x : DataW H × List MemPlace} (h : Trod enc W fuel 67 cs x) (hM : Rows.uptoBulk x.1 ≤ 1048576) : ∃ p : TripM, cs = trC p ∧ TrS p := by
  have hl := v_len Tryz.underlying67 h
  rw [z_trip] at hl
  obtain ⟨n0, y0, g0, b0⟩ := w_field Tryz.underlying67 h 0 _ rfl
  obtain ⟨n1, y1, g1, b1⟩ := w_field Tryz.underlying67 h 1 _ rfl
  obtain ⟨n2, y2, g2, b2⟩ := w_field Tryz.underlying67 h 2 _ rfl
  obtain ⟨n3, y3, g3, b3⟩ := w_field Tryz.underlying67 h 3 _ rfl
  obtain ⟨n4, y4, g4, b4⟩ := w_field Tryz.underlying67 h 4 _ rfl
  obtain ⟨s0, e0, l0⟩ := w_str g0
  obtain ⟨s1, e1, l1⟩ := w_str g1
  obtain ⟨s2, e2, l2⟩ := w_i64 g2
  obtain ⟨s3, e3, l3⟩ := w_i64 g3
  obtain ⟨s4, e4, l4⟩ := w_i64 g4
  match cs, hl with
  | [a, b, c, d, e], _ =>
    simp [z_str, z_i64, z_times] at e0 e1 e2 e3 e4
    exact ⟨⟨s0, s1, s2, s3, s4⟩, by subst_vars; rfl, by unfold NL; dsimp only; omega, by unfold NL; dsimp only; omega, l2, l3, l4⟩
set_option maxRecDepth 100000 in
theorem w_haz {fuel : Nat} {cs : List Value} {x : DataW H × List MemPlace} (h : Trod enc W fuel 78 cs x) (hM : Rows.uptoBulk x.1 ≤ 1048576) : ∃ p : HazM, cs = haC p ∧ HaS p := by
  have hl := v_len Tryz.underlying78 h
  rw [z_haz] at hl
  obtain ⟨n0, y0, g0, b0⟩ := w_field Tryz.underlying78 h 0 _ rfl
  obtain ⟨n1, y1, g1, b1⟩ := w_field Tryz.underlying78 h 1 _ rfl
  obtain ⟨n2, y2, g2, b2⟩ := w_field Tryz.underlying78 h 2 _ rfl
  obtain ⟨s0, e0, l0⟩ := w_str g0
  obtain ⟨s1, e1, l1⟩ := w_str g1
  obtain ⟨t2, e2, l2⟩ := w_times g2
  match cs, hl with
  | [a, b, c, d, e], _ =>
    simp [z_str, z_i64, z_times] at e0 e1 e2
    exact ⟨⟨s0, s1, t2⟩, by subst_vars; obtain ⟨rfl, rfl, rfl⟩ := e2; rfl, by unfold NL; dsimp only; omega, by unfold NL; dsimp only; omega, l2⟩
theorem w_strs {fuel : Nat} {cs0 : List Value} {x : DataW H × List MemPlace} (h : Trod enc W fuel 23 cs0 x) (hM : Rows.uptoBulk x.1 ≤ 1048576) : ∃ (a0 : Option Addr) (cap : Nat) (Z : List (List UInt8)), cs0 = [.slice a0 Z.length cap] ∧ Rd W (· < W.heap.size) a0 (cs strC Z) ∧ ∀ s ∈ Z, NL s := by
  obtain ⟨a0, len, cap, Z, h1, h2, h3, h4, h5⟩ := w_rows strC NL Tryz.underlying23 z_str (by omega) (fun _ => rfl) (fun _ _ _ h hm => by obtain ⟨s, e, l⟩ := w_str h; exact ⟨s, e, Nat.le_trans l hm⟩) h hM
  subst h2
  exact ⟨a0, cap, Z, h1, h4, h5⟩
theorem w_i64s {fuel : Nat} {cs0 : List Value} {x : DataW H × List MemPlace} (h : Trod enc W fuel 70 cs0 x) (hM : Rows.uptoBulk x.1 ≤ 1048576) : ∃ (a0 : Option Addr) (cap : Nat) (Z : List Int), cs0 = [.slice a0 Z.length cap] ∧ Rd W (· < W.heap.size) a0 (cs intC Z) ∧ ∀ d ∈ Z, I64 d := by
  obtain ⟨a0, len, cap, Z, h1, h2, h3, h4, h5⟩ := w_rows intC I64 Tryz.underlying70 z_i64 (by omega) (fun _ => rfl) (fun _ _ _ h _ => w_i64 h) h hM
  subst h2
  exact ⟨a0, cap, Z, h1, h4, h5⟩
set_option maxRecDepth 100000 in
theorem w_route {fuel : Nat} {cs0 : List Value} {x : DataW H × List MemPlace} (h : Trod enc W fuel 72 cs0 x) (hM : Rows.uptoBulk x.1 ≤ 1048576) : ∃ a : RtL, cs0 = rtC a ∧ RtAt W (· < W.heap.size) a.r a.sa a.ra a.ya ∧ RtS a.r := by
  have hl := v_len Tryz.underlying72 h
  rw [z_route] at hl
  obtain ⟨n0, y0, g0, b0⟩ := w_field Tryz.underlying72 h 0 _ rfl
  obtain ⟨n1, y1, g1, b1⟩ := w_field Tryz.underlying72 h 1 _ rfl
  obtain ⟨n2, y2, g2, b2⟩ := w_field Tryz.underlying72 h 2 _ rfl
  obtain ⟨n3, y3, g3, b3⟩ := w_field Tryz.underlying72 h 3 _ rfl
  obtain ⟨s0, e0, l0⟩ := w_str g0
  obtain ⟨sa, sc, S, e1, r1, l1⟩ := w_strs g1 (by omega)
  obtain ⟨ra, rc, R, e2, r2, l2⟩ := w_i64s g2 (by omega)
  obtain ⟨ya, yc, Y, e3, r3, l3⟩ := w_i64s g3 (by omega)
  match cs0, hl with
  | [a, b, c, d], _ =>
    simp [z_str, z_strs, z_i64s] at e0 e1 e2 e3
    exact ⟨⟨⟨s0, S, R, Y⟩, sa, ra, ya, sc, rc, yc⟩, by subst_vars; rfl, ⟨r1, r2, r3⟩, by unfold NL; dsimp only; omega, l1, l2, l3⟩
set_option maxRecDepth 100000 in
/-- a sheet's cells, as they lie -/
theorem w_sheet {fuel : Nat} {cs0 : List Value} {x : DataW H × List MemPlace} (h : Trod enc W fuel 44 cs0 x) (hM : Rows.uptoBulk x.1 ≤ 1048576) : ∃ (s : SheetM) (p : ShA), cs0 = [.int .i64 s.horizon, .slice p.a1 s.stops.length p.c1, .slice p.a2 s.paths.length p.c2, .slice p.a3 s.doors.length p.c3, .slice p.a4 s.routes.length p.c4, .slice p.a5 s.trips.length p.c5, .slice p.a6 s.hazards.length p.c6] ∧ Sh W (· < W.heap.size) s p ∧ ShCap s p ∧ ShS s := by
  have hl := v_len Tryz.underlying44 h
  rw [z_sheet] at hl
  obtain ⟨n0, y0, g0, b0⟩ := w_field Tryz.underlying44 h 0 _ rfl
  obtain ⟨n1, y1, g1, b1⟩ := w_field Tryz.underlying44 h 1 _ rfl
  obtain ⟨n2, y2, g2, b2⟩ := w_field Tryz.underlying44 h 2 _ rfl
  obtain ⟨n3, y3, g3, b3⟩ := w_field Tryz.underlying44 h 3 _ rfl
  obtain ⟨n4, y4, g4, b4⟩ := w_field Tryz.underlying44 h 4 _ rfl
  obtain ⟨n5, y5, g5, b5⟩ := w_field Tryz.underlying44 h 5 _ rfl
  obtain ⟨n6, y6, g6, b6⟩ := w_field Tryz.underlying44 h 6 _ rfl
  obtain ⟨hz, e0, l0⟩ := w_i64 g0
  obtain ⟨a1, l1, c1, S1, e1, q1, k1, r1, o1⟩ := w_rows strC NL Tryz.underlying23 z_str (by omega) (fun _ => rfl) (fun _ _ _ h hm => by obtain ⟨s, e, l⟩ := w_str h; exact ⟨s, e, Nat.le_trans l hm⟩) g1 (Nat.le_trans b1 hM)
  obtain ⟨a2, l2, c2, S2, e2, q2, k2, r2, o2⟩ := w_rows paC PaS Tryz.underlying38 z_path (by omega) (fun _ => rfl) (fun _ _ _ h hm => w_path h hm) g2 (Nat.le_trans b2 hM)
  obtain ⟨a3, l3, c3, S3, e3, q3, k3, r3, o3⟩ := w_rows doC DoS Tryz.underlying39 z_door (by omega) (fun _ => rfl) (fun _ _ _ h hm => w_door h hm) g3 (Nat.le_trans b3 hM)
  obtain ⟨a4, l4, c4, S4, e4, q4, k4, r4, o4⟩ := w_rows rtC (fun a => RtAt W (· < W.heap.size) a.r a.sa a.ra a.ya ∧ RtS a.r) Tryz.underlying40 z_route (by omega) (fun _ => rfl) (fun _ _ _ h hm => w_route h hm) g4 (Nat.le_trans b4 hM)
  obtain ⟨a5, l5, c5, S5, e5, q5, k5, r5, o5⟩ := w_rows trC TrS Tryz.underlying41 z_trip (by omega) (fun _ => rfl) (fun _ _ _ h hm => w_trip h hm) g5 (Nat.le_trans b5 hM)
  obtain ⟨a6, l6, c6, S6, e6, q6, k6, r6, o6⟩ := w_rows haC HaS Tryz.underlying42 z_haz (by omega) (fun _ => rfl) (fun _ _ _ h hm => w_haz h hm) g6 (Nat.le_trans b6 hM)
  match cs0, hl with
  | [b0, b1, b2, b3, b4, b5, b6], _ =>
    simp [z_i64, z_strs, z_paths, z_doors, z_routes, z_trips, z_hazs] at e0 e1 e2 e3 e4 e5 e6
    refine ⟨⟨hz, S1, S2, S3, S4.map (·.r), S5, S6⟩, ⟨a1, a2, a3, a4, a5, a6, c1, c2, c3, c4, c5, c6⟩, ?_, ⟨r1, r2, r3, ⟨_, r4, rts_of S4 (fun a ha => (o4 a ha).1)⟩, r5, r6⟩, ?_, ⟨l0, o1, o2, o3, ?_, o5, o6⟩⟩
    · subst e0 e1 e2 e3 e4 e5 e6
      subst q1 q2 q3 q4 q5 q6
      simp
    · subst q1 q2 q3 q4 q5 q6
      exact ⟨k1, k2, k3, by simpa using k4, k5, k6⟩
    · intro a ha
      obtain ⟨b, hb, rfl⟩ := List.mem_map.1 ha
      exact (o4 b hb).2
end
theorem strb_of {x : SheetM} (h : ShS x) : StrB x := by
  have e : ∀ s : List UInt8, NL s → s.length ≤ 2000000 := fun s hs => by unfold NL at hs; omega
  exact ⟨fun q hq => e _ (h.s q hq), fun q hq => ⟨e _ (h.p q hq).1, e _ (h.p q hq).2.1, e _ (h.p q hq).2.2.1⟩, fun q hq => ⟨e _ (h.d q hq).1, e _ (h.d q hq).2.1, e _ (h.d q hq).2.2.1⟩, fun q hq => ⟨e _ (h.r q hq).1, fun s hs => e s ((h.r q hq).2.1 s hs)⟩, fun q hq => ⟨e _ (h.t q hq).1, e _ (h.t q hq).2.1⟩, fun q hq => ⟨e _ (h.z q hq).1, e _ (h.z q hq).2.1⟩⟩
end Go.Proofs.YtgdanbfglefiiaaGreat.Wo
