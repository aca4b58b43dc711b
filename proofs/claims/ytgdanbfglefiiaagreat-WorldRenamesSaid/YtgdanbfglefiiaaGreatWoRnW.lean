/- What is handed in, where no part of it weighs more than the statement lets it: a sheet's cells as they lie, with its words' lengths. Conditions: none beside that. -/
import Derived.Test.YtgdanbfglefiiaaGreatWoRnE
import Derived.ChangeSlices
import Derived.Deep.Strs
import Derived.Deep.SlicePairs
import Derived.ChangeArms
import Derived.Carry
import Derived.Deep.RegionHeld3
import Derived.Deep.RegionHeldLaw
import Derived.Deep.CutRange
import Derived.StillTailTactics
import Derived.WalkSpells
import Derived.Lib.QuietBelow
import Derived.Deep.QuietTactic
namespace Go.Proofs.YtgdanbfglefiiaaGreat.Wo
open Go.ChangeShapes Go.WideShapes Go.ChangeAt Go.RowKit Go.Maps
open Lx Sh It
set_option linter.unusedVariables false
set_option linter.unusedSimpArgs false
open Go.Deep
def NL (s : List UInt8) : Prop := s.length ≤ 140737488355328
theorem wt_each {H : Type} {P : Program} {t : TypeId} {d : DataW H} : ∀ {ts : List TypeId} {l : List (DataW H)} {i : Nat}, ts[i]? = some t → l[i]? = some d → ∀ n ∈ d.weights P t, n ∈ DataW.weightsEach P ts l
  | [], _, _, h, _ => by simp at h
  | _ :: _, [], _, _, h => by simp at h
  | a :: ts, b :: l, 0, h, g => by
    simp at h g
    subst h g
    intro n hn
    simp only [DataW.weightsEach]
    exact List.mem_append_left _ hn
  | a :: ts, b :: l, i + 1, h, g => by
    simp at h g
    intro n hn
    simp only [DataW.weightsEach]
    exact List.mem_append_right _ (wt_each h g n hn)
theorem wt_all {H : Type} {P : Program} {e : TypeId} {d : DataW H} : ∀ {l : List (DataW H)}, d ∈ l → ∀ n ∈ d.weights P e, n ∈ DataW.weightsAll P e l
  | b :: l, h => by
    intro n hn
    simp only [DataW.weightsAll]
    rcases List.mem_cons.1 h with rfl | h
    · exact List.mem_append_left _ hn
    · exact List.mem_append_right _ (wt_all h n hn)
section
variable {H : Type} {enc : TypeId × Value → H} {W : World}
def Wt (t : TypeId) (d : DataW H) : Prop := ∀ n ∈ d.weights Tryz.prog t, n ≤ 140737488355328
theorem w_str {fuel : Nat} {cs : List Value} {x : DataW H × List MemPlace} (h : Trod enc W fuel 9 cs x) (hM : Wt 9 x.1) : ∃ s : List UInt8, cs = [str s] ∧ NL s := by
  obtain ⟨s, rfl, rfl, -⟩ := DataW.trod_string Tryz.underlying9 h
  exact ⟨s.data.toList, rfl, hM _ (by simp [DataW.weights])⟩
theorem w_field {t : TypeId} {fs : Array Field} (ht : Tryz.prog.underlying t = some (.struct fs)) {fuel : Nat} {cs : List Value} {x : DataW H × List MemPlace} (h : Trod enc W fuel t cs x) (hM : Wt t x.1) (i : Nat) (f : Field) (hf : fs[i]? = some f) :
    ∃ n y, Trod enc W n f.type ((cs.drop f.offset).take (Tryz.prog.cellsOf f.type)) y ∧ Wt f.type y.1 := by
  obtain ⟨xs, n, -, rfl, -, hl, hh⟩ := DataW.trod_struct ht h
  have hi : i < xs.length := by rw [hl]; exact (Array.getElem?_eq_some_iff.1 hf).1
  refine ⟨n, xs[i], by rw [Trod, hh i f hf, List.getElem?_eq_getElem hi], fun k hk => hM k ?_⟩
  simp only [DataW.weights, ht]
  exact wt_each (i := i) (by simp [hf]) (by simp [hi]) k hk
theorem w_rows {α : Type} (f : α → List Value) (G : α → Prop) {t e : TypeId} {size : Nat} (ht : Tryz.prog.underlying t = some (.slice e)) (hc : Tryz.prog.cellsOf e = size) (hs : 0 < size) (hf : ∀ a, (f a).length = size) 
    (hel : ∀ fuel cs' x, DataW.trod enc Tryz.prog W 0 (fun _ => true) true fuel e cs' = some x → Wt e x.1 → ∃ a, cs' = f a ∧ G a) {fuel : Nat} {cs0 : List Value} {x : DataW H × List MemPlace}
    (h : DataW.trod enc Tryz.prog W 0 (fun _ => true) true fuel t cs0 = some x) (hM : Wt t x.1) : ∃ (a0 : Option Addr) (len cap : Nat) (Z : List α), cs0 = [.slice a0 len cap] ∧ len = Z.length ∧ len ≤ cap ∧ Rd W (· < W.heap.size) a0 (cs f Z) ∧ ∀ a ∈ Z, G a := by
  rcases DataW.trod_slice ht h with ⟨hcs, hx⟩ | ⟨a, len, cap, elems, rest, n, -, hcs, rfl, -, hl, hm, hel0, hcell, -, -⟩
  · exact ⟨none, 0, 0, [], hcs, rfl, Nat.le_refl _, Rd.none_, fun a ha => by cases ha⟩
  · have each : ∀ i, i < len → ∃ q : α, (∀ j u, (f q)[j]? = some u → W.cell? (a.add (i * size + j)) = some u) ∧ G q := by
      intro i hi
      have hci := hcell i hi
      have hie : i < elems.length := by rw [hel0]; exact hi
      rw [List.getElem?_eq_getElem hie, Option.bind_eq_some_iff] at hci
      obtain ⟨cs', h1, h2⟩ := hci
      rw [hc] at h1
      obtain ⟨_, hlen, hcl⟩ := World.cells?_some h1
      have hb := wt_all (P := Tryz.prog) (e := e) (List.mem_map_of_mem (f := (·.1)) (List.getElem_mem hie))
      obtain ⟨q, rfl, hG⟩ := hel _ _ _ h2 (fun k hk => hM k (by
        simp only [DataW.weights, ht]
        exact List.mem_cons_of_mem _ (List.mem_append_left _ (hb k hk))))
      refine ⟨q, fun j u hu => ?_, hG⟩
      have hj : j < size := by have := (List.getElem?_eq_some_iff.1 hu).1; rwa [hf] at this
      have := hcl j hj
      rw [add_of_add] at this
      rw [this, hu]
    by_cases h0 : len = 0
    · subst h0
      exact ⟨some a, 0, cap, [], hcs, rfl, Nat.zero_le _, Rd.none_, fun a ha => by cases ha⟩
    · haveI : Inhabited α := ⟨(each 0 (by omega)).choose⟩
      obtain ⟨g, hg⟩ := choose_lt each
      refine ⟨some a, len, cap, (List.range len).map g, hcs, by simp, hl, fun hn => ⟨a, rfl, ?_, fun j u hu => ?_⟩, fun q hq => ?_⟩
      · obtain ⟨u, hu⟩ : ∃ u, (f (g 0))[0]? = some u := ⟨_, List.getElem?_eq_getElem (by rw [hf]; exact hs)⟩
        have := World.block_lt_of_cell? W _ ((hg 0 (by omega)).1 0 u hu)
        simpa [block_of_add] using this
      · have hj : j < len * size := by
          have := (List.getElem?_eq_some_iff.1 hu).1
          rw [cs_length f size hf] at this
          simpa using this
        have hi : j / size < len := Nat.div_lt_of_lt_mul (by rw [Nat.mul_comm]; exact hj)
        have hk : j % size < size := Nat.mod_lt _ hs
        have hz : ((List.range len).map g)[j / size]? = some (g (j / size)) := by
          rw [List.getElem?_map, List.getElem?_range hi]; rfl
        have e : j / size * size + j % size = j := by rw [Nat.mul_comm]; exact Nat.div_add_mod j size
        have hat := cs_at f size hf _ _ _ hz _ hk
        rw [e] at hat
        rw [hat] at hu
        have := (hg (j / size) hi).1 _ u hu
        rwa [e] at this
      · obtain ⟨i, hi, rfl⟩ := List.mem_map.1 hq
        exact (hg i (by simpa using hi)).2
set_option maxRecDepth 100000 in
theorem w_path {fuel : Nat} {cs : List Value} {x : DataW H × List MemPlace} (h : Trod enc W fuel 65 cs x) (hM : Wt 65 x.1) : ∃ p : PathM, cs = paC p ∧ NL p.name ∧ NL p.a ∧ NL p.b := by
  have hl := v_len Tryz.underlying65 h
  rw [z_path] at hl
  obtain ⟨n0, y0, g0, b0⟩ := w_field Tryz.underlying65 h hM 0 _ rfl
  obtain ⟨n1, y1, g1, b1⟩ := w_field Tryz.underlying65 h hM 1 _ rfl
  obtain ⟨n2, y2, g2, b2⟩ := w_field Tryz.underlying65 h hM 2 _ rfl
  obtain ⟨n3, y3, g3, b3⟩ := w_field Tryz.underlying65 h hM 3 _ rfl
  obtain ⟨s0, e0, l0⟩ := w_str g0 b0
  obtain ⟨s1, e1, l1⟩ := w_str g1 b1
  obtain ⟨s2, e2, l2⟩ := w_str g2 b2
  obtain ⟨s3, e3⟩ := v_i64 g3
  match cs, hl with
  | [a, b, c, d], _ =>
    simp [z_str, z_i64, z_times] at e0 e1 e2 e3
    exact ⟨⟨s0, s1, s2, s3⟩, by subst_vars; rfl, l0, l1, l2⟩
set_option maxRecDepth 100000 in
theorem w_door {fuel : Nat} {cs : List Value} {x : DataW H × List MemPlace} (h : Trod enc W fuel 55 cs x) (hM : Wt 55 x.1) : ∃ p : DoorM, cs = doC p ∧ NL p.name ∧ NL p.a ∧ NL p.b := by
  have hl := v_len Tryz.underlying55 h
  rw [z_door] at hl
  obtain ⟨n0, y0, g0, b0⟩ := w_field Tryz.underlying55 h hM 0 _ rfl
  obtain ⟨n1, y1, g1, b1⟩ := w_field Tryz.underlying55 h hM 1 _ rfl
  obtain ⟨n2, y2, g2, b2⟩ := w_field Tryz.underlying55 h hM 2 _ rfl
  obtain ⟨n3, y3, g3, b3⟩ := w_field Tryz.underlying55 h hM 3 _ rfl
  obtain ⟨n4, y4, g4, b4⟩ := w_field Tryz.underlying55 h hM 4 _ rfl
  obtain ⟨s0, e0, l0⟩ := w_str g0 b0
  obtain ⟨s1, e1, l1⟩ := w_str g1 b1
  obtain ⟨s2, e2, l2⟩ := w_str g2 b2
  obtain ⟨s3, e3⟩ := v_i64 g3
  obtain ⟨ta4, tb4, tc4, e4⟩ := v_times g4
  match cs, hl with
  | [a, b, c, d, e, f, g], _ =>
    simp [z_str, z_i64, z_times] at e0 e1 e2 e3 e4
    exact ⟨⟨s0, s1, s2, s3, ⟨ta4, tb4, tc4⟩⟩, by subst_vars; obtain ⟨rfl, rfl, rfl⟩ := e4; rfl, l0, l1, l2⟩
set_option maxRecDepth 100000 in
theorem w_trip {fuel : Nat} {cs : List Value} {x : DataW H × List MemPlace} (h : Trod enc W fuel 67 cs x) (hM : Wt 67 x.1) : ∃ p : TripM, cs = trC p ∧ NL p.name ∧ NL p.route := by
  have hl := v_len Tryz.underlying67 h
  rw [z_trip] at hl
  obtain ⟨n0, y0, g0, b0⟩ := w_field Tryz.underlying67 h hM 0 _ rfl
  obtain ⟨n1, y1, g1, b1⟩ := w_field Tryz.underlying67 h hM 1 _ rfl
  obtain ⟨n2, y2, g2, b2⟩ := w_field Tryz.underlying67 h hM 2 _ rfl
  obtain ⟨n3, y3, g3, b3⟩ := w_field Tryz.underlying67 h hM 3 _ rfl
  obtain ⟨n4, y4, g4, b4⟩ := w_field Tryz.underlying67 h hM 4 _ rfl
  obtain ⟨s0, e0, l0⟩ := w_str g0 b0
  obtain ⟨s1, e1, l1⟩ := w_str g1 b1
  obtain ⟨s2, e2⟩ := v_i64 g2
  obtain ⟨s3, e3⟩ := v_i64 g3
  obtain ⟨s4, e4⟩ := v_i64 g4
  match cs, hl with
  | [a, b, c, d, e], _ =>
    simp [z_str, z_i64, z_times] at e0 e1 e2 e3 e4
    exact ⟨⟨s0, s1, s2, s3, s4⟩, by subst_vars; rfl, l0, l1⟩
set_option maxRecDepth 100000 in
theorem w_haz {fuel : Nat} {cs : List Value} {x : DataW H × List MemPlace} (h : Trod enc W fuel 78 cs x) (hM : Wt 78 x.1) : ∃ p : HazM, cs = haC p ∧ NL p.name ∧ NL p.at_ := by
  have hl := v_len Tryz.underlying78 h
  rw [z_haz] at hl
  obtain ⟨n0, y0, g0, b0⟩ := w_field Tryz.underlying78 h hM 0 _ rfl
  obtain ⟨n1, y1, g1, b1⟩ := w_field Tryz.underlying78 h hM 1 _ rfl
  obtain ⟨n2, y2, g2, b2⟩ := w_field Tryz.underlying78 h hM 2 _ rfl
  obtain ⟨s0, e0, l0⟩ := w_str g0 b0
  obtain ⟨s1, e1, l1⟩ := w_str g1 b1
  obtain ⟨ta2, tb2, tc2, e2⟩ := v_times g2
  match cs, hl with
  | [a, b, c, d, e], _ =>
    simp [z_str, z_i64, z_times] at e0 e1 e2
    exact ⟨⟨s0, s1, ⟨ta2, tb2, tc2⟩⟩, by subst_vars; obtain ⟨rfl, rfl, rfl⟩ := e2; rfl, l0, l1⟩
theorem w_strs {fuel : Nat} {cs0 : List Value} {x : DataW H × List MemPlace} (h : Trod enc W fuel 23 cs0 x) (hM : Wt 23 x.1) : ∃ (a0 : Option Addr) (cap : Nat) (Z : List (List UInt8)), cs0 = [.slice a0 Z.length cap] ∧ Rd W (· < W.heap.size) a0 (cs strC Z) ∧ ∀ s ∈ Z, NL s := by
  obtain ⟨a0, len, cap, Z, h1, h2, h3, h4, h5⟩ := w_rows strC NL Tryz.underlying23 z_str (by omega) (fun _ => rfl) (fun _ _ _ h hm => w_str h hm) h hM
  subst h2
  exact ⟨a0, cap, Z, h1, h4, h5⟩
set_option maxRecDepth 100000 in
theorem w_route {fuel : Nat} {cs0 : List Value} {x : DataW H × List MemPlace} (h : Trod enc W fuel 72 cs0 x) (hM : Wt 72 x.1) : ∃ a : RtL, cs0 = rtC a ∧ RtAt W (· < W.heap.size) a.r a.sa a.ra a.ya ∧ NL a.r.name ∧ ∀ s ∈ a.r.stops, NL s := by
  have hl := v_len Tryz.underlying72 h
  rw [z_route] at hl
  obtain ⟨n0, y0, g0, b0⟩ := w_field Tryz.underlying72 h hM 0 _ rfl
  obtain ⟨n1, y1, g1, b1⟩ := w_field Tryz.underlying72 h hM 1 _ rfl
  obtain ⟨n2, y2, g2, b2⟩ := w_field Tryz.underlying72 h hM 2 _ rfl
  obtain ⟨n3, y3, g3, b3⟩ := w_field Tryz.underlying72 h hM 3 _ rfl
  obtain ⟨s0, e0, l0⟩ := w_str g0 b0
  obtain ⟨sa, sc, S, e1, r1, l1⟩ := w_strs g1 b1
  obtain ⟨ra, rc, R, e2, r2⟩ := v_i64s g2
  obtain ⟨ya, yc, Y, e3, r3⟩ := v_i64s g3
  match cs0, hl with
  | [a, b, c, d], _ =>
    simp [z_str, z_strs, z_i64s] at e0 e1 e2 e3
    exact ⟨⟨⟨s0, S, R, Y⟩, sa, ra, ya, sc, rc, yc⟩, by subst_vars; rfl, ⟨r1, r2, r3⟩, l0, l1⟩
set_option maxRecDepth 100000 in
/-- a sheet's cells, as they lie -/
theorem w_sheet {fuel : Nat} {cs0 : List Value} {x : DataW H × List MemPlace} (h : Trod enc W fuel 44 cs0 x) (hM : Wt 44 x.1) : ∃ (s : SheetM) (p : ShA), cs0 = [.int .i64 s.horizon, .slice p.a1 s.stops.length p.c1, .slice p.a2 s.paths.length p.c2, .slice p.a3 s.doors.length p.c3, .slice p.a4 s.routes.length p.c4, .slice p.a5 s.trips.length p.c5, .slice p.a6 s.hazards.length p.c6] ∧ Sh W (· < W.heap.size) s p ∧ ShCap s p ∧ StrB s := by
  have hl := v_len Tryz.underlying44 h
  rw [z_sheet] at hl
  obtain ⟨n0, y0, g0, b0⟩ := w_field Tryz.underlying44 h hM 0 _ rfl
  obtain ⟨n1, y1, g1, b1⟩ := w_field Tryz.underlying44 h hM 1 _ rfl
  obtain ⟨n2, y2, g2, b2⟩ := w_field Tryz.underlying44 h hM 2 _ rfl
  obtain ⟨n3, y3, g3, b3⟩ := w_field Tryz.underlying44 h hM 3 _ rfl
  obtain ⟨n4, y4, g4, b4⟩ := w_field Tryz.underlying44 h hM 4 _ rfl
  obtain ⟨n5, y5, g5, b5⟩ := w_field Tryz.underlying44 h hM 5 _ rfl
  obtain ⟨n6, y6, g6, b6⟩ := w_field Tryz.underlying44 h hM 6 _ rfl
  obtain ⟨hz, e0⟩ := v_i64 g0
  obtain ⟨a1, l1, c1, S1, e1, q1, k1, r1, o1⟩ := w_rows strC NL Tryz.underlying23 z_str (by omega) (fun _ => rfl) (fun _ _ _ h hm => w_str h hm) g1 b1
  obtain ⟨a2, l2, c2, S2, e2, q2, k2, r2, o2⟩ := w_rows paC (fun p => NL p.name ∧ NL p.a ∧ NL p.b) Tryz.underlying38 z_path (by omega) (fun _ => rfl) (fun _ _ _ h hm => w_path h hm) g2 b2
  obtain ⟨a3, l3, c3, S3, e3, q3, k3, r3, o3⟩ := w_rows doC (fun p => NL p.name ∧ NL p.a ∧ NL p.b) Tryz.underlying39 z_door (by omega) (fun _ => rfl) (fun _ _ _ h hm => w_door h hm) g3 b3
  obtain ⟨a4, l4, c4, S4, e4, q4, k4, r4, o4⟩ := w_rows rtC (fun a => RtAt W (· < W.heap.size) a.r a.sa a.ra a.ya ∧ NL a.r.name ∧ ∀ s ∈ a.r.stops, NL s) Tryz.underlying40 z_route (by omega) (fun _ => rfl) (fun _ _ _ h hm => w_route h hm) g4 b4
  obtain ⟨a5, l5, c5, S5, e5, q5, k5, r5, o5⟩ := w_rows trC (fun p => NL p.name ∧ NL p.route) Tryz.underlying41 z_trip (by omega) (fun _ => rfl) (fun _ _ _ h hm => w_trip h hm) g5 b5
  obtain ⟨a6, l6, c6, S6, e6, q6, k6, r6, o6⟩ := w_rows haC (fun p => NL p.name ∧ NL p.at_) Tryz.underlying42 z_haz (by omega) (fun _ => rfl) (fun _ _ _ h hm => w_haz h hm) g6 b6
  match cs0, hl with
  | [b0, b1, b2, b3, b4, b5, b6], _ =>
    simp [z_i64, z_strs, z_paths, z_doors, z_routes, z_trips, z_hazs] at e0 e1 e2 e3 e4 e5 e6
    refine ⟨⟨hz, S1, S2, S3, S4.map (·.r), S5, S6⟩, ⟨a1, a2, a3, a4, a5, a6, c1, c2, c3, c4, c5, c6⟩, ?_, ⟨r1, r2, r3, ⟨_, r4, rts_of S4 (fun a ha => (o4 a ha).1)⟩, r5, r6⟩, ?_, ⟨o1, o2, o3, ?_, o5, o6⟩⟩
    · subst e0 e1 e2 e3 e4 e5 e6
      subst q1 q2 q3 q4 q5 q6
      simp
    · subst q1 q2 q3 q4 q5 q6
      exact ⟨k1, k2, k3, by simpa using k4, k5, k6⟩
    · intro a ha
      obtain ⟨b, hb, rfl⟩ := List.mem_map.1 ha
      exact (o4 b hb).2
end
end Go.Proofs.YtgdanbfglefiiaaGreat.Wo
