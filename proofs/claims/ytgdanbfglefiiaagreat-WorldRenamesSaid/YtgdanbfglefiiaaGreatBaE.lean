/- The kit's looks at how much there is in a sheet, proved by walking their texts. Conditions: at most a million things in each row. · The document's own Check of a sheet, proved by walking its text. Conditions: at most 60 things of a kind. · Arguments opened: sheets as the walks want them; how all types of the program are laid out. · A sheet's lines: how long they are, what is read from them, or from one alone. Conditions: the sheet may be. · A sheet without one of its lines: what its text and its things are. Conditions: the sheet may be. -/
import Derived.Test.YtgdanbfglefiiaaGreatBaC
import Derived.Test.YtgdanbfglefiiaaGreatBaD
import Derived.Test.YtgdanbfglefiiaaGreatBaB
import Derived.ChangeSlices
import Derived.Deep.Strs
import Derived.Deep.SlicePairs
import Derived.ChangeArms
import Derived.Carry
import Derived.StillTailTactics
namespace Go.Proofs.YtgdanbfglefiiaaGreat.Sh
open Go.ChangeShapes Go.WideShapes Go.ChangeAt Go.RowKit
open Lx
set_option linter.unusedVariables false
set_option linter.unusedSimpArgs false
def lightR (r : RouteM) : Bool := decide (r.stops.length ≤ 60) && (decide (r.rides.length ≤ 60) && decide (r.stays.length ≤ 60))
def lightM (x : SheetM) : Bool := decide (x.stops.length ≤ 60) && decide (x.paths.length ≤ 60) && decide (x.doors.length ≤ 60) && decide (x.routes.length ≤ 60) && decide (x.trips.length ≤ 60) && decide (x.hazards.length ≤ 60) && x.routes.all lightR
set_option maxRecDepth 100000 in
set_option maxHeartbeats 2000000 in
theorem lightR_any (r : RouteM) (sa ra ya : Option Addr) (sc rc yc : Nat) (w : World) : Calls Tryz.prog 44 #[rtV r sa ra ya sc rc yc, .int .i64 60] w (BPost w (lightR r)) := by
  obtain ⟨nm, st, ri, sy⟩ := r
  simp only [lightR]
  show Calls _ _ #[.agg #[.string ⟨nm.toArray⟩, .slice sa st.length sc, .slice ra ri.length rc, .slice ya sy.length yc], .int .i64 60] _ _
  generalize st.length = n1 at *
  generalize ri.length = n2 at *
  generalize sy.length = n3 at *
  go_enter Tryz.func44, Tryz.ntmps44
  go_wp2
  all_goals go_ret
  all_goals exact ⟨congrArg (fun b => Ending.returned (Value.bool b)) (by rw [Bool.eq_iff_iff]; simp; omega), one_box _ _⟩
set_option maxRecDepth 100000 in
set_option maxHeartbeats 4000000 in
theorem light_any (x : SheetM) (p : ShA) (w : World) (h : Sh w (· < w.heap.size) x p) : Calls Tryz.prog 16 #[shV x p, .int .i64 60] w (BPost w (lightM x)) := by
  obtain ⟨cr, r4, r4'⟩ := h.r4
  clear h
  obtain ⟨hz, st, pa, dos, ro, tr, ha⟩ := x
  obtain ⟨a1, a2, a3, a4, a5, a6, c1, c2, c3, c4, c5, c6⟩ := p
  dsimp only at r4 r4'
  have H4 := Lib.hid r4
  have H4' := Lib.hid r4'
  clear r4 r4'
  simp only [lightM]
  show Calls _ _ #[.agg #[.int .i64 hz, .slice a1 st.length c1, .slice a2 pa.length c2, .slice a3 dos.length c3, .slice a4 ro.length c4, .slice a5 tr.length c5, .slice a6 ha.length c6], .int .i64 60] _ _
  obtain ⟨n4, hn4⟩ : ∃ n, n = ro.length := ⟨_, rfl⟩
  rw [← hn4]
  have HN4 := Lib.hid hn4
  clear hn4
  obtain ⟨B, hB⟩ : ∃ B, B = ro.all lightR := ⟨_, rfl⟩
  rw [← hB]
  have HBB := Lib.hid hB
  clear hB
  generalize st.length = n1 at *
  generalize pa.length = n2 at *
  generalize dos.length = n3 at *
  generalize tr.length = n5 at *
  generalize ha.length = n6 at *
  by_cases h1 : 60 < n1
  · have g1 : (60 : Int) < (n1 : Int) := by omega
    have hq : (decide (n1 ≤ 60) && decide (n2 ≤ 60) && decide (n3 ≤ 60) && decide (n4 ≤ 60) && decide (n5 ≤ 60) && decide (n6 ≤ 60) && B) = false := by
      have : decide (n1 ≤ 60) = false := decide_eq_false (by omega)
      rw [this]
      simp
    rw [hq]
    clear hq
    go_enter Tryz.func16, Tryz.ntmps16
    go_wp2
    go_ret
    exact ⟨rfl, one_box _ _⟩
  have g1 : ¬ (60 : Int) < (n1 : Int) := by omega
  by_cases h2 : 60 < n2
  · have g2 : (60 : Int) < (n2 : Int) := by omega
    have hq : (decide (n1 ≤ 60) && decide (n2 ≤ 60) && decide (n3 ≤ 60) && decide (n4 ≤ 60) && decide (n5 ≤ 60) && decide (n6 ≤ 60) && B) = false := by
      have : decide (n2 ≤ 60) = false := decide_eq_false (by omega)
      rw [this]
      simp
    rw [hq]
    clear hq
    go_enter Tryz.func16, Tryz.ntmps16
    go_wp2
    go_ret
    exact ⟨rfl, one_box _ _⟩
  have g2 : ¬ (60 : Int) < (n2 : Int) := by omega
  by_cases h3 : 60 < n3
  · have g3 : (60 : Int) < (n3 : Int) := by omega
    have hq : (decide (n1 ≤ 60) && decide (n2 ≤ 60) && decide (n3 ≤ 60) && decide (n4 ≤ 60) && decide (n5 ≤ 60) && decide (n6 ≤ 60) && B) = false := by
      have : decide (n3 ≤ 60) = false := decide_eq_false (by omega)
      rw [this]
      simp
    rw [hq]
    clear hq
    go_enter Tryz.func16, Tryz.ntmps16
    go_wp2
    go_ret
    exact ⟨rfl, one_box _ _⟩
  have g3 : ¬ (60 : Int) < (n3 : Int) := by omega
  by_cases h4 : 60 < n4
  · have g4 : (60 : Int) < (n4 : Int) := by omega
    have hq : (decide (n1 ≤ 60) && decide (n2 ≤ 60) && decide (n3 ≤ 60) && decide (n4 ≤ 60) && decide (n5 ≤ 60) && decide (n6 ≤ 60) && B) = false := by
      have : decide (n4 ≤ 60) = false := decide_eq_false (by omega)
      rw [this]
      simp
    rw [hq]
    clear hq
    go_enter Tryz.func16, Tryz.ntmps16
    go_wp2
    go_ret
    exact ⟨rfl, one_box _ _⟩
  have g4 : ¬ (60 : Int) < (n4 : Int) := by omega
  by_cases h5 : 60 < n5
  · have g5 : (60 : Int) < (n5 : Int) := by omega
    have hq : (decide (n1 ≤ 60) && decide (n2 ≤ 60) && decide (n3 ≤ 60) && decide (n4 ≤ 60) && decide (n5 ≤ 60) && decide (n6 ≤ 60) && B) = false := by
      have : decide (n5 ≤ 60) = false := decide_eq_false (by omega)
      rw [this]
      simp
    rw [hq]
    clear hq
    go_enter Tryz.func16, Tryz.ntmps16
    go_wp2
    go_ret
    exact ⟨rfl, one_box _ _⟩
  have g5 : ¬ (60 : Int) < (n5 : Int) := by omega
  by_cases h6 : 60 < n6
  · have g6 : (60 : Int) < (n6 : Int) := by omega
    have hq : (decide (n1 ≤ 60) && decide (n2 ≤ 60) && decide (n3 ≤ 60) && decide (n4 ≤ 60) && decide (n5 ≤ 60) && decide (n6 ≤ 60) && B) = false := by
      have : decide (n6 ≤ 60) = false := decide_eq_false (by omega)
      rw [this]
      simp
    rw [hq]
    clear hq
    go_enter Tryz.func16, Tryz.ntmps16
    go_wp2
    go_ret
    exact ⟨rfl, one_box _ _⟩
  have g6 : ¬ (60 : Int) < (n6 : Int) := by omega
  have hq : (decide (n1 ≤ 60) && decide (n2 ≤ 60) && decide (n3 ≤ 60) && decide (n4 ≤ 60) && decide (n5 ≤ 60) && decide (n6 ≤ 60) && B) = B := by
    rw [decide_eq_true (by omega : n1 ≤ 60), decide_eq_true (by omega : n2 ≤ 60), decide_eq_true (by omega : n3 ≤ 60), decide_eq_true (by omega : n4 ≤ 60), decide_eq_true (by omega : n5 ≤ 60), decide_eq_true (by omega : n6 ≤ 60)]
    simp
  rw [hq]
  clear hq
  go_enter Tryz.func16, Tryz.ntmps16
  go_wp2
  go_loopw [5] (fun v wr => ∃ i : Nat, v = .int .i64 i ∧ i ≤ n4 ∧ Hid ((ro.take i).all lightR = true) ∧ Hid (Below w.heap.size w wr) ∧ Hid (Blk wr w.heap.size 44 [.int .i64 hz, .slice a1 n1 c1, .slice a2 n2 c2, .slice a3 n3 c3, .slice a4 n4 c4, .slice a5 n5 c5, .slice a6 n6 c6])) (fun v _ => n4 - (intOf v).toNat)
  case atStart => exact ⟨0, rfl, by omega, Lib.hid (by simp), Lib.hid (one_box _ _), Lib.hid (Blk.new w _ [.int .i64 hz, .slice a1 n1 c1, .slice a2 n2 c2, .slice a3 n3 c3, .slice a4 n4 c4, .slice a5 n5 c5, .slice a6 n6 c6])⟩
  case round =>
    obtain ⟨i, rfl, hi, HT, HB, HK⟩ := hrel
    by_cases hlt : i < n4
    · have hi1 : (i : Int) < (n4 : Int) := by omega
      obtain ⟨a, ha'⟩ := at_in (k := i) ro HN4 hlt
      obtain ⟨ad, rfl, hS, sa, sc, ra, rc, ya, yc, x0, x1, x2, x3, hg⟩ := rts_at (rd_later H4.out HB.out) (H4'.out.later HB.out) ha'
      have kk : wr.cell? ⟨w.heap.size, 4, none⟩ = some (.slice (some ad) n4 c4) := HK.out.cell 4
      have LR := Lib.hid (fun w' => lightR_any a sa ra ya sc rc yc w')
      dsimp only [rtV] at LR
      cases hq : lightR a with
      | true =>
        rw [hq] at LR
        have HT2 := Lib.hid (all_take ha' HT.out hq)
        clear ha' hg hq
        generalize a.stops.length = m1 at *
        generalize a.rides.length = m2 at *
        generalize a.stays.length = m3 at *
        go_wp2_with (first | (go_at_call 44; (with_reducible refine (LR.out _).mono ?_); rintro e w4 ⟨rfl, hb⟩; have Q := Lib.hid hb; clear hb) | fail)
        go_roundw
        case rel => exact ⟨i + 1, by go_num, by omega, HT2, Lib.hid (keep_trans HB.out Q.out), Lib.hid (HK.out.after Q.out)⟩
        case measure => simp [intOf]; omega
      | false =>
        rw [hq] at LR
        have HNO := Lib.hid (HBB.out.trans (all_no ha' hq))
        clear ha' hg hq
        generalize a.stops.length = m1 at *
        generalize a.rides.length = m2 at *
        generalize a.stays.length = m3 at *
        go_wp2_with (first | (go_at_call 44; (with_reducible refine (LR.out _).mono ?_); rintro e w4 ⟨rfl, hb⟩; have Q := Lib.hid hb; clear hb) | fail)
        go_ret
        exact ⟨by rw [HNO.out]; rfl, keep_trans HB.out Q.out⟩
    · have hi1 : ¬ (i : Int) < (n4 : Int) := by omega
      have kk : wr.cell? ⟨w.heap.size, 4, none⟩ = some (.slice a4 n4 c4) := HK.out.cell 4
      have HA := Lib.hid (HBB.out.trans (all_full HT.out (by rw [← HN4.out]; omega)))
      go_wp2
      go_ret
      exact ⟨by rw [HA.out]; rfl, HB.out⟩
end Go.Proofs.YtgdanbfglefiiaaGreat.Sh
namespace Go.Proofs.YtgdanbfglefiiaaGreat.Sh
open Go.ChangeShapes Go.WideShapes Go.ChangeAt Go.RowKit
open Lx
set_option linter.unusedVariables false
set_option linter.unusedSimpArgs false
end Go.Proofs.YtgdanbfglefiiaaGreat.Sh
namespace Go.Proofs.YtgdanbfglefiiaaGreat.Sh
open Go.ChangeShapes Go.WideShapes Go.ChangeAt Go.RowKit Go.Deep
open Lx
set_option linter.unusedVariables false
set_option linter.unusedSimpArgs false
theorem laidOut : laidOutB Tryz.prog = true := by kernel_rfl
theorem z_str : Tryz.prog.cellsOf 9 = 1 := by kernel_rfl
theorem z_i64 : Tryz.prog.cellsOf 2 = 1 := by kernel_rfl
theorem z_times : Tryz.prog.cellsOf 53 = 3 := by kernel_rfl
theorem z_path : Tryz.prog.cellsOf 65 = 4 := by kernel_rfl
theorem z_door : Tryz.prog.cellsOf 55 = 7 := by kernel_rfl
theorem z_route : Tryz.prog.cellsOf 72 = 4 := by kernel_rfl
theorem z_trip : Tryz.prog.cellsOf 67 = 5 := by kernel_rfl
theorem z_haz : Tryz.prog.cellsOf 78 = 5 := by kernel_rfl
theorem z_strs : Tryz.prog.cellsOf 23 = 1 := by kernel_rfl
theorem z_i64s : Tryz.prog.cellsOf 70 = 1 := by kernel_rfl
section
variable {H : Type} {enc : TypeId × Value → H} {W : World}
theorem view_rows {α : Type} (f : α → List Value) (G : α → Prop) {t e : TypeId} {size : Nat} (ht : Tryz.prog.underlying t = some (.slice e)) (hc : Tryz.prog.cellsOf e = size) (hs : 0 < size) (hf : ∀ a, (f a).length = size)
    (hel : ∀ fuel cs' x, DataW.trod enc Tryz.prog W 0 (fun _ => true) true fuel e cs' = some x → ∃ a, cs' = f a ∧ G a) {fuel : Nat} {cs0 : List Value} {x : DataW H × List MemPlace}
    (h : DataW.trod enc Tryz.prog W 0 (fun _ => true) true fuel t cs0 = some x) : ∃ (a0 : Option Addr) (len cap : Nat) (Z : List α), cs0 = [.slice a0 len cap] ∧ len = Z.length ∧ len ≤ cap ∧ Rd W (· < W.heap.size) a0 (cs f Z) ∧ ∀ a ∈ Z, G a := by
  rcases open_slice ht h with ⟨hcs, hx⟩ | ⟨a, len, cap, m, n, D, Pl, hcs, _, hl, hm, hmm, hx, hcell⟩
  · exact ⟨none, 0, 0, [], hcs, rfl, Nat.le_refl _, Rd.none_, fun a ha => by cases ha⟩
  · simp only [if_true] at hmm
    have each : ∀ i, i < len → ∃ q : α, (∀ j u, (f q)[j]? = some u → W.cell? (a.add (i * size + j)) = some u) ∧ G q := by
      intro i hi
      obtain ⟨cs', h1, h2⟩ := hcell i (by omega)
      rw [hc] at h1
      obtain ⟨_, hlen, hcl⟩ := World.cells?_some h1
      obtain ⟨q, rfl, hG⟩ := hel _ _ _ h2
      refine ⟨q, fun j u hu => ?_, hG⟩
      have hj : j < size := by have := (List.getElem?_eq_some_iff.1 hu).1; rwa [hf] at this
      have := hcl j hj
      rw [add_of_add] at this
      rw [this, hu]
    by_cases h0 : len = 0
    · subst h0
      exact ⟨some a, 0, cap, [], hcs, rfl, Nat.zero_le _, Rd.none_, fun a ha => by cases ha⟩
    · haveI : Inhabited α := ⟨(each 0 (by omega)).choose⟩
      obtain ⟨g, hg⟩ := choose_lt each
      refine ⟨some a, len, cap, (List.range len).map g, hcs, by simp, hl, fun hn => ⟨a, rfl, ?_, fun j u hu => ?_⟩, fun q hq => ?_⟩
      · obtain ⟨u, hu⟩ : ∃ u, (f (g 0))[0]? = some u := ⟨_, List.getElem?_eq_getElem (by rw [hf]; exact hs)⟩
        have := World.block_lt_of_cell? W _ ((hg 0 (by omega)).1 0 u hu)
        simpa [block_of_add] using this
      · have hj : j < len * size := by
          have := (List.getElem?_eq_some_iff.1 hu).1
          rw [cs_length f size hf] at this
          simpa using this
        have hi : j / size < len := Nat.div_lt_of_lt_mul (by rw [Nat.mul_comm]; exact hj)
        have hk : j % size < size := Nat.mod_lt _ hs
        have hz : ((List.range len).map g)[j / size]? = some (g (j / size)) := by
          rw [List.getElem?_map, List.getElem?_range hi]; rfl
        have e : j / size * size + j % size = j := by rw [Nat.mul_comm]; exact Nat.div_add_mod j size
        have hat := cs_at f size hf _ _ _ hz _ hk
        rw [e] at hat
        rw [hat] at hu
        have := (hg (j / size) hi).1 _ u hu
        rwa [e] at this
      · obtain ⟨i, hi, rfl⟩ := List.mem_map.1 hq
        exact (hg i (by simpa using hi)).2
abbrev Trod (enc : TypeId × Value → H) (W : World) (fuel : Nat) (t : TypeId) (cs : List Value) (x : DataW H × List MemPlace) : Prop := DataW.trod enc Tryz.prog W 0 (fun _ => true) true fuel t cs = some x
theorem v_str {fuel : Nat} {cs : List Value} {x : DataW H × List MemPlace} (h : Trod enc W fuel 9 cs x) : ∃ s : List UInt8, cs = [str s] := by
  obtain ⟨s, rfl, -⟩ := DataW.trod_string Tryz.underlying9 h
  exact ⟨s.data.toList, rfl⟩
theorem v_i64 {fuel : Nat} {cs : List Value} {x : DataW H × List MemPlace} (h : Trod enc W fuel 2 cs x) : ∃ n : Int, cs = [i64 n] := by
  obtain ⟨s, rfl, -⟩ := DataW.trod_int Tryz.underlying2 h
  exact ⟨s, rfl⟩
/-- a field's cells -/
theorem v_field {t : TypeId} {fs : Array Field} (ht : Tryz.prog.underlying t = some (.struct fs)) {fuel : Nat} {cs : List Value} {x : DataW H × List MemPlace} (h : Trod enc W fuel t cs x) (i : Nat) (f : Field) (hf : fs[i]? = some f) : ∃ n y, Trod enc W n f.type ((cs.drop f.offset).take (Tryz.prog.cellsOf f.type)) y := by
  obtain ⟨xs, n, -, -, -, hl, hh⟩ := DataW.trod_struct ht h
  have hi : i < xs.length := by rw [hl]; exact (Array.getElem?_eq_some_iff.1 hf).1
  exact ⟨n, xs[i], by rw [Trod, hh i f hf, List.getElem?_eq_getElem hi]⟩
theorem v_len {t : TypeId} {fs : Array Field} (ht : Tryz.prog.underlying t = some (.struct fs)) {fuel : Nat} {cs : List Value} {x : DataW H × List MemPlace} (h : Trod enc W fuel t cs x) : cs.length = Tryz.prog.cellsOf t := by
  obtain ⟨xs, n, -, -, hl, -⟩ := DataW.trod_struct ht h
  exact hl
set_option maxRecDepth 100000 in
theorem v_path {fuel : Nat} {cs : List Value} {x : DataW H × List MemPlace} (h : Trod enc W fuel 65 cs x) : ∃ p : PathM, cs = paC p := by
  have hl := v_len Tryz.underlying65 h
  rw [z_path] at hl
  obtain ⟨n0, y0, g0⟩ := v_field Tryz.underlying65 h 0 _ rfl
  obtain ⟨n1, y1, g1⟩ := v_field Tryz.underlying65 h 1 _ rfl
  obtain ⟨n2, y2, g2⟩ := v_field Tryz.underlying65 h 2 _ rfl
  obtain ⟨n3, y3, g3⟩ := v_field Tryz.underlying65 h 3 _ rfl
  obtain ⟨s0, e0⟩ := v_str g0
  obtain ⟨s1, e1⟩ := v_str g1
  obtain ⟨s2, e2⟩ := v_str g2
  obtain ⟨s3, e3⟩ := v_i64 g3
  match cs, hl with
  | [a, b, c, d], _ =>
    simp [z_str, z_i64] at e0 e1 e2 e3
    exact ⟨⟨s0, s1, s2, s3⟩, by subst_vars; rfl⟩
set_option maxRecDepth 100000 in
theorem v_times {fuel : Nat} {cs : List Value} {x : DataW H × List MemPlace} (h : Trod enc W fuel 53 cs x) : ∃ a b c : Int, cs = [i64 a, i64 b, i64 c] := by
  have hl := v_len Tryz.underlying53 h
  rw [z_times] at hl
  obtain ⟨n0, y0, g0⟩ := v_field Tryz.underlying53 h 0 _ rfl
  obtain ⟨n1, y1, g1⟩ := v_field Tryz.underlying53 h 1 _ rfl
  obtain ⟨n2, y2, g2⟩ := v_field Tryz.underlying53 h 2 _ rfl
  obtain ⟨s0, e0⟩ := v_i64 g0
  obtain ⟨s1, e1⟩ := v_i64 g1
  obtain ⟨s2, e2⟩ := v_i64 g2
  match cs, hl with
  | [a, b, c], _ =>
    simp [z_str, z_i64, z_times] at e0 e1 e2
    exact ⟨s0, s1, s2, by subst_vars; rfl⟩
set_option maxRecDepth 100000 in
theorem v_door {fuel : Nat} {cs : List Value} {x : DataW H × List MemPlace} (h : Trod enc W fuel 55 cs x) : ∃ p : DoorM, cs = doC p := by
  have hl := v_len Tryz.underlying55 h
  rw [z_door] at hl
  obtain ⟨n0, y0, g0⟩ := v_field Tryz.underlying55 h 0 _ rfl
  obtain ⟨n1, y1, g1⟩ := v_field Tryz.underlying55 h 1 _ rfl
  obtain ⟨n2, y2, g2⟩ := v_field Tryz.underlying55 h 2 _ rfl
  obtain ⟨n3, y3, g3⟩ := v_field Tryz.underlying55 h 3 _ rfl
  obtain ⟨n4, y4, g4⟩ := v_field Tryz.underlying55 h 4 _ rfl
  obtain ⟨s0, e0⟩ := v_str g0
  obtain ⟨s1, e1⟩ := v_str g1
  obtain ⟨s2, e2⟩ := v_str g2
  obtain ⟨s3, e3⟩ := v_i64 g3
  obtain ⟨t0, t1, t2, e4⟩ := v_times g4
  match cs, hl with
  | [a, b, c, d, e, f, g], _ =>
    simp [z_str, z_i64, z_times] at e0 e1 e2 e3 e4
    exact ⟨⟨s0, s1, s2, s3, ⟨t0, t1, t2⟩⟩, by subst_vars; obtain ⟨rfl, rfl, rfl⟩ := e4; rfl⟩
set_option maxRecDepth 100000 in
theorem v_trip {fuel : Nat} {cs : List Value} {x : DataW H × List MemPlace} (h : Trod enc W fuel 67 cs x) : ∃ p : TripM, cs = trC p := by
  have hl := v_len Tryz.underlying67 h
  rw [z_trip] at hl
  obtain ⟨n0, y0, g0⟩ := v_field Tryz.underlying67 h 0 _ rfl
  obtain ⟨n1, y1, g1⟩ := v_field Tryz.underlying67 h 1 _ rfl
  obtain ⟨n2, y2, g2⟩ := v_field Tryz.underlying67 h 2 _ rfl
  obtain ⟨n3, y3, g3⟩ := v_field Tryz.underlying67 h 3 _ rfl
  obtain ⟨n4, y4, g4⟩ := v_field Tryz.underlying67 h 4 _ rfl
  obtain ⟨s0, e0⟩ := v_str g0
  obtain ⟨s1, e1⟩ := v_str g1
  obtain ⟨s2, e2⟩ := v_i64 g2
  obtain ⟨s3, e3⟩ := v_i64 g3
  obtain ⟨s4, e4⟩ := v_i64 g4
  match cs, hl with
  | [a, b, c, d, e], _ =>
    simp [z_str, z_i64, z_times] at e0 e1 e2 e3 e4
    exact ⟨⟨s0, s1, s2, s3, s4⟩, by subst_vars; rfl⟩
set_option maxRecDepth 100000 in
theorem v_haz {fuel : Nat} {cs : List Value} {x : DataW H × List MemPlace} (h : Trod enc W fuel 78 cs x) : ∃ p : HazM, cs = haC p := by
  have hl := v_len Tryz.underlying78 h
  rw [z_haz] at hl
  obtain ⟨n0, y0, g0⟩ := v_field Tryz.underlying78 h 0 _ rfl
  obtain ⟨n1, y1, g1⟩ := v_field Tryz.underlying78 h 1 _ rfl
  obtain ⟨n2, y2, g2⟩ := v_field Tryz.underlying78 h 2 _ rfl
  obtain ⟨s0, e0⟩ := v_str g0
  obtain ⟨s1, e1⟩ := v_str g1
  obtain ⟨t0, t1, t2, e2⟩ := v_times g2
  match cs, hl with
  | [a, b, c, d, e], _ =>
    simp [z_str, z_i64, z_times] at e0 e1 e2
    exact ⟨⟨s0, s1, ⟨t0, t1, t2⟩⟩, by subst_vars; obtain ⟨rfl, rfl, rfl⟩ := e2; rfl⟩
theorem v_strs {fuel : Nat} {cs0 : List Value} {x : DataW H × List MemPlace} (h : Trod enc W fuel 23 cs0 x) : ∃ (a0 : Option Addr) (cap : Nat) (Z : List (List UInt8)), cs0 = [.slice a0 Z.length cap] ∧ Rd W (· < W.heap.size) a0 (cs strC Z) := by
  obtain ⟨a0, len, cap, Z, h1, h2, h3, h4, -⟩ := view_rows strC (fun _ => True) Tryz.underlying23 z_str (by omega) (fun _ => rfl) (fun _ _ _ h => by obtain ⟨s, e⟩ := v_str h; exact ⟨s, e, trivial⟩) h
  subst h2
  exact ⟨a0, cap, Z, h1, h4⟩
theorem v_i64s {fuel : Nat} {cs0 : List Value} {x : DataW H × List MemPlace} (h : Trod enc W fuel 70 cs0 x) : ∃ (a0 : Option Addr) (cap : Nat) (Z : List Int), cs0 = [.slice a0 Z.length cap] ∧ Rd W (· < W.heap.size) a0 (cs intC Z) := by
  obtain ⟨a0, len, cap, Z, h1, h2, h3, h4, -⟩ := view_rows intC (fun _ => True) Tryz.underlying70 z_i64 (by omega) (fun _ => rfl) (fun _ _ _ h => by obtain ⟨s, e⟩ := v_i64 h; exact ⟨s, e, trivial⟩) h
  subst h2
  exact ⟨a0, cap, Z, h1, h4⟩
/-- a route, and where it lies -/
structure RtL where
  r : RouteM
  sa : Option Addr
  ra : Option Addr
  ya : Option Addr
  sc : Nat
  rc : Nat
  yc : Nat
def rtC (a : RtL) : List Value := [.string ⟨a.r.name.toArray⟩, .slice a.sa a.r.stops.length a.sc, .slice a.ra a.r.rides.length a.rc, .slice a.ya a.r.stays.length a.yc]
set_option maxRecDepth 100000 in
theorem v_route {fuel : Nat} {cs0 : List Value} {x : DataW H × List MemPlace} (h : Trod enc W fuel 72 cs0 x) : ∃ a : RtL, cs0 = rtC a ∧ RtAt W (· < W.heap.size) a.r a.sa a.ra a.ya := by
  have hl := v_len Tryz.underlying72 h
  rw [z_route] at hl
  obtain ⟨n0, y0, g0⟩ := v_field Tryz.underlying72 h 0 _ rfl
  obtain ⟨n1, y1, g1⟩ := v_field Tryz.underlying72 h 1 _ rfl
  obtain ⟨n2, y2, g2⟩ := v_field Tryz.underlying72 h 2 _ rfl
  obtain ⟨n3, y3, g3⟩ := v_field Tryz.underlying72 h 3 _ rfl
  obtain ⟨s0, e0⟩ := v_str g0
  obtain ⟨sa, sc, S, e1, r1⟩ := v_strs g1
  obtain ⟨ra, rc, R, e2, r2⟩ := v_i64s g2
  obtain ⟨ya, yc, Y, e3, r3⟩ := v_i64s g3
  match cs0, hl with
  | [a, b, c, d], _ =>
    simp [z_str, z_strs, z_i64s] at e0 e1 e2 e3
    exact ⟨⟨⟨s0, S, R, Y⟩, sa, ra, ya, sc, rc, yc⟩, by subst_vars; rfl, ⟨r1, r2, r3⟩⟩
theorem rts_of {S : Nat → Prop} : ∀ (Z : List RtL), (∀ a ∈ Z, RtAt W S a.r a.sa a.ra a.ya) → Rts W S (Z.map (·.r)) (cs rtC Z)
  | [], _ => rfl
  | a :: Z, h => by
    have h0 := h a List.mem_cons_self
    exact ⟨a.sa, a.sc, a.ra, a.rc, a.ya, a.yc, cs rtC Z, rfl, h0.hs, h0.hr, h0.hy, rts_of Z fun b hb => h b (List.mem_cons_of_mem _ hb)⟩
theorem z_sheet : Tryz.prog.cellsOf 44 = 7 := by kernel_rfl
theorem z_paths : Tryz.prog.cellsOf 38 = 1 := by kernel_rfl
theorem z_doors : Tryz.prog.cellsOf 39 = 1 := by kernel_rfl
theorem z_routes : Tryz.prog.cellsOf 40 = 1 := by kernel_rfl
theorem z_trips : Tryz.prog.cellsOf 41 = 1 := by kernel_rfl
theorem z_hazs : Tryz.prog.cellsOf 42 = 1 := by kernel_rfl
set_option maxRecDepth 100000 in
/-- a sheet's cells, as they lie -/
theorem view_sheet {fuel : Nat} {cs0 : List Value} {x : DataW H × List MemPlace} (h : Trod enc W fuel 44 cs0 x) : ∃ (s : SheetM) (p : ShA), cs0 = [.int .i64 s.horizon, .slice p.a1 s.stops.length p.c1, .slice p.a2 s.paths.length p.c2, .slice p.a3 s.doors.length p.c3, .slice p.a4 s.routes.length p.c4, .slice p.a5 s.trips.length p.c5, .slice p.a6 s.hazards.length p.c6] ∧ Sh W (· < W.heap.size) s p ∧ ShCap s p := by
  have hl := v_len Tryz.underlying44 h
  rw [z_sheet] at hl
  obtain ⟨n0, y0, g0⟩ := v_field Tryz.underlying44 h 0 _ rfl
  obtain ⟨n1, y1, g1⟩ := v_field Tryz.underlying44 h 1 _ rfl
  obtain ⟨n2, y2, g2⟩ := v_field Tryz.underlying44 h 2 _ rfl
  obtain ⟨n3, y3, g3⟩ := v_field Tryz.underlying44 h 3 _ rfl
  obtain ⟨n4, y4, g4⟩ := v_field Tryz.underlying44 h 4 _ rfl
  obtain ⟨n5, y5, g5⟩ := v_field Tryz.underlying44 h 5 _ rfl
  obtain ⟨n6, y6, g6⟩ := v_field Tryz.underlying44 h 6 _ rfl
  obtain ⟨hz, e0⟩ := v_i64 g0
  obtain ⟨a1, l1, c1, S1, e1, q1, k1, r1, -⟩ := view_rows strC (fun _ => True) Tryz.underlying23 z_str (by omega) (fun _ => rfl) (fun _ _ _ h => by obtain ⟨s, e⟩ := v_str h; exact ⟨s, e, trivial⟩) g1
  obtain ⟨a2, l2, c2, S2, e2, q2, k2, r2, -⟩ := view_rows paC (fun _ => True) Tryz.underlying38 z_path (by omega) (fun _ => rfl) (fun _ _ _ h => by obtain ⟨s, e⟩ := v_path h; exact ⟨s, e, trivial⟩) g2
  obtain ⟨a3, l3, c3, S3, e3, q3, k3, r3, -⟩ := view_rows doC (fun _ => True) Tryz.underlying39 z_door (by omega) (fun _ => rfl) (fun _ _ _ h => by obtain ⟨s, e⟩ := v_door h; exact ⟨s, e, trivial⟩) g3
  obtain ⟨a4, l4, c4, S4, e4, q4, k4, r4, r4'⟩ := view_rows rtC (fun a => RtAt W (· < W.heap.size) a.r a.sa a.ra a.ya) Tryz.underlying40 z_route (by omega) (fun _ => rfl) (fun _ _ _ h => v_route h) g4
  obtain ⟨a5, l5, c5, S5, e5, q5, k5, r5, -⟩ := view_rows trC (fun _ => True) Tryz.underlying41 z_trip (by omega) (fun _ => rfl) (fun _ _ _ h => by obtain ⟨s, e⟩ := v_trip h; exact ⟨s, e, trivial⟩) g5
  obtain ⟨a6, l6, c6, S6, e6, q6, k6, r6, -⟩ := view_rows haC (fun _ => True) Tryz.underlying42 z_haz (by omega) (fun _ => rfl) (fun _ _ _ h => by obtain ⟨s, e⟩ := v_haz h; exact ⟨s, e, trivial⟩) g6
  match cs0, hl with
  | [b0, b1, b2, b3, b4, b5, b6], _ =>
    simp [z_i64, z_strs, z_paths, z_doors, z_routes, z_trips, z_hazs] at e0 e1 e2 e3 e4 e5 e6
    refine ⟨⟨hz, S1, S2, S3, S4.map (·.r), S5, S6⟩, ⟨a1, a2, a3, a4, a5, a6, c1, c2, c3, c4, c5, c6⟩, ?_, ⟨r1, r2, r3, ⟨_, r4, rts_of S4 r4'⟩, r5, r6⟩, ?_⟩
    · subst e0 e1 e2 e3 e4 e5 e6
      subst q1 q2 q3 q4 q5 q6
      simp
    · subst q1 q2 q3 q4 q5 q6
      exact ⟨k1, k2, k3, by simpa using k4, k5, k6⟩
end
end Go.Proofs.YtgdanbfglefiiaaGreat.Sh
namespace Go.Proofs.YtgdanbfglefiiaaGreat.Sh
open Go.ChangeShapes Go.WideShapes Go.ChangeAt Go.RowKit
open Lx
set_option linter.unusedVariables false
set_option linter.unusedSimpArgs false
theorem below_set {B : Nat} {a w : World} {p : Addr} (h : Below B a w) (hp : B ≤ p.block) (u : Value) : Below B a (w.setCell p u) := ⟨h.os, h.tape, h.output, by simpa [World.setCell] using h.size, fun k hk => (Below.heap_setCell _ _ _ _ (by rintro rfl; omega)).trans (h.block k hk)⟩
abbrev shL' (x : SheetM) (p : ShA) : List Value := [.int .i64 x.horizon, .slice p.a1 x.stops.length p.c1, .slice p.a2 x.paths.length p.c2, .slice p.a3 x.doors.length p.c3, .slice p.a4 x.routes.length p.c4, .slice p.a5 x.trips.length p.c5, .slice p.a6 x.hazards.length p.c6]
end Go.Proofs.YtgdanbfglefiiaaGreat.Sh
namespace Go.Proofs.YtgdanbfglefiiaaGreat.Sh
open Go.ChangeShapes Go.WideShapes Go.ChangeAt Go.RowKit
open Lx
set_option linter.unusedVariables false
set_option linter.unusedSimpArgs false
end Go.Proofs.YtgdanbfglefiiaaGreat.Sh
