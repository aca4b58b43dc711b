/- Package expand: rows, the iterator over the runs of trips. Conditions: the world is light (WLt), and may be. -/
import Derived.Test.YtfefnfifeaihhaaGreatExL
import Derived.Test.YtfefnfifeaihhaaGreatExY
import Derived.WalkKit
import Derived.TacticsInMore
import Derived.LoopNIn
import Derived.LoopIn
import Derived.Shelf.RegionOpen
set_option linter.unusedVariables false
set_option linter.unusedSimpArgs false
set_option maxHeartbeats 4000000
set_option maxRecDepth 100000
namespace Go.Proofs.YtfefnfifeaihhaaGreat.Wo
open Go.ChangeShapes Go.WideShapes Go.ChangeAt Go.RowKit Go.Maps Go.Shelf
open Lx Sh
attribute [local go_sem] Oper.semAt_some
/-- a trip's runs, as they are handed over -/
structure RowE where
  cnt : Int
  T : Nat
  F : Nat
  I : Nat
def encR (e : RowE) : Array Value := #[.agg #[.int .i64 e.cnt, .func (.func 56) #[] #[.pointer (some ⟨e.T, 0, none⟩), .pointer (some ⟨e.F, 0, none⟩), .pointer (some ⟨e.I, 0, none⟩)]]]
/-- what holds of the next one -/
def GR (B0 : Nat) (x : WorldM) (pre : List RowE) (e : RowE) (W : World) : Prop := ∃ (t : TripO) (q : Nat) (r : RouteO), x.trips[pre.length]? = some t ∧ t.route = (q : Int) ∧ x.routes[q]? = some r ∧ e.cnt = cntT x.horizon r t ∧ RunsAt W B0 r.rides r.stays t.frm t.every pre.length e.T e.F e.I
/-- what a round leaves alone: what lay ahead, and the world's box -/
def KpL (n0 Bn : Nat) (W W' : World) : Prop := Below n0 W W' ∧ W'.heap[Bn]? = W.heap[Bn]?
theorem KpL.t {n0 Bn : Nat} {A B C : World} (h : KpL n0 Bn A B) (k : KpL n0 Bn B C) : KpL n0 Bn A C := ⟨h.1.trans k.1, k.2.trans h.2⟩
theorem below_row {B : Nat} {A C : World} (h : Below B A C) (hB : A.heap.size ≤ B) : A.grownBy C none := ⟨h.os, h.tape, h.output, h.size, fun k hk _ => h.block k (by omega)⟩
theorem rows_seq (x : WorldM) (p : WoA) (w0 : World) (h : Wo w0 (· < w0.heap.size) x p) (hl : WLt x) (hg : GoodW x) (Bn : Nat) (w : World) (hB : Below w0.heap.size w0 w) (hBn : Blk w Bn 37 (woL x p)) (hBl : w0.heap.size ≤ Bn) :
    SeqG Tryz.prog 58 #[.pointer (some ⟨Bn, 0, none⟩)] encR (KpL w0.heap.size Bn) (fun xs => xs.length = x.trips.length) x.trips.length (GR w0.heap.size x) w := fun l J Jx W hW hJ hJx hY h0 => by
  have HB0 := HH (hB.trans (hW.mono hB.size))
  have HBn := HH (hBn.below hW hBn.lt)
  have HR : Hid (∀ (w' : World) (i : Nat), Below w0.heap.size w0 w' → Calls Tryz.prog 30 #[woQ x p, .int .i64 (i : Int)] w' (RoAny w0.heap.size w' x i)) := HH (fun w' i hb => rowOf_both x p w0.heap.size w' (h.keep fun b hl => hb.block b hl) hb.size hl hg i)
  have z10 : W.cell? ⟨Bn, 10, none⟩ = some (.slice p.b5 x.trips.length p.d5) := HBn.out.cell 10
  have HLT := hl.l5
  clear hBn hB
  refine callsIn_of_wp Tryz.func58 rfl trivial ?_ rfl
  simp only [Tryz.ntmps58, List.size_toArray, List.length_cons, List.length_nil, Nat.reduceAdd, Nat.reduceSub, Array.replicate_succ, Array.replicate_zero, List.push_toArray, List.append_toArray, List.nil_append, List.cons_append]
  gi_wp2
  gi_loopw [7] (fun v wr => ∃ (k : Nat) (pre : List RowE), v = .int .i64 k ∧ k ≤ x.trips.length ∧ Hid (pre.length = k) ∧ Hid (J pre wr) ∧ Hid (Below w0.heap.size w0 wr) ∧ Hid (Blk wr Bn 37 (woL x p))) (fun v _ => x.trips.length - (intOf v).toNat)
  case atStart => exact ⟨0, [], rfl, by omega, HH rfl, HH h0, HB0, HBn⟩
  case round =>
    obtain ⟨k, pre, rfl, hk, HP, HJ, HB, HK⟩ := hrel
    by_cases hlt : k < x.trips.length
    · obtain ⟨t, ht⟩ : ∃ t, x.trips[k]? = some t := ⟨_, List.getElem?_eq_getElem hlt⟩
      obtain ⟨q, r, hq, hr, hrow⟩ := row_some hg ht
      have HRK := HH (fun w' hb => HR.out w' k hb)
      unfold RoAny at HRK
      rw [hrow] at HRK
      have HGR := HH (And.intro ht (And.intro hq hr))
      obtain ⟨z0, z1, z2, z3, z4, z5, z6, z7, z8, z9, z10', z11⟩ := wo_cells HK.out
      have hki : (k : Int) < (x.trips.length : Int) := by omega
      clear ht hq hr hrow
      gi_wp2_with (refine ⟨trivial, ?_⟩; gi_at_call 30; refine (callsIn_wide.2 (HRK.out _ HB.out)).mono ?_; rintro e W2 ⟨T, F, I, rfl, hRA, hb2⟩; obtain ⟨fn, tmps, assign, body, hy, hR⟩ := hY pre ⟨cntT x.horizon r t, T, F, I⟩ W2 (hJ pre wr W2 none HJ.out (below_row hb2.out (Nat.le_refl _)) (fun _ h => by cases h)) ⟨t, q, r, by rw [HP.out]; exact HGR.out.1, HGR.out.2.1, HGR.out.2.2, rfl, by rw [HP.out]; exact hRA.out⟩ (by rw [HP.out]; exact hlt); dsimp only [encR] at hy; have HB2 := HH (HB.out.trans (hb2.out.mono HB.out.size)); have HK2 := HH (HK.out.after hb2.out); clear hb2 hRA)
      refine hR.mono ?_
      rintro e W3 (⟨rfl, hJ3, hk3⟩ | ⟨rfl, hJx3⟩)
      · have HJ3 := HH hJ3
        have HK3 := HH hk3
        clear hJ3 hk3 hR hy
        gi_wp2
        go_roundw
        case rel => exact ⟨k + 1, pre ++ [⟨cntT x.horizon r t, T, F, I⟩], by go_num, by omega, HH (by rw [List.length_append, HP.out]; rfl), HJ3, HH (HB2.out.trans HK3.out.1), HH (HK3.out.2.trans HK2.out)⟩
        case measure => simp [intOf]; omega
      · have HJ3 := HH hJx3
        clear hJx3 hR hy
        gi_wp2
        refine bodyPost_ret (results_none rfl _ _ _) rfl ?_
        exact ⟨⟨_, rfl⟩, .inr ⟨_, HJ3.out⟩⟩
    · obtain rfl : k = x.trips.length := by omega
      have hki : ¬ (x.trips.length : Int) < (x.trips.length : Int) := by omega
      gi_wp2
      go_end0
      exact ⟨⟨_, rfl⟩, .inl ⟨pre, HP.out, HJ.out⟩⟩
end Go.Proofs.YtfefnfifeaihhaaGreat.Wo
