/- Package expand: All, walked. Conditions: the world is light (WLt). -/
import Derived.Test.YtfefnfifeaihhaaGreatExAB
import Derived.Test.YtfefnfifeaihhaaGreatExLx
import Derived.WalkKit
import Derived.TacticsInMore
import Derived.LoopNIn
import Derived.LoopIn
import Derived.Shelf.RegionOpen
set_option linter.unusedVariables false
set_option linter.unusedSimpArgs false
set_option maxHeartbeats 4000000
set_option maxRecDepth 100000
namespace Go.Proofs.YtfefnfifeaihhaaGreat.Wo
open Go.ChangeShapes Go.WideShapes Go.ChangeAt Go.RowKit Go.Maps Go.Shelf
open Lx Sh
attribute [local go_sem] Oper.semAt_some
/-- the frame of All's round -/
abbrev actA (w w1 : World) (x : WorldM) (p : WoA) (e : RowE) (g : Nat) : Act := { tmps := #[woQ x p, .pointer (some ⟨w.heap.size, 0, none⟩), .pointer (some ⟨w.heap.size + 1, 0, none⟩), .pointer (some ⟨w.heap.size + 1 + 1, 0, none⟩), .pointer (some ⟨w1.heap.size, 0, none⟩), .pointer (some ⟨g, 0, none⟩), undef, woQ x p, .bool true, .bool false, woQ x p, .func (.func 58) #[] #[.pointer (some ⟨w1.heap.size + 1, 0, none⟩)], .agg #[.int .i64 e.cnt, .func (.func 56) #[] #[.pointer (some ⟨e.T, 0, none⟩), .pointer (some ⟨e.F, 0, none⟩), .pointer (some ⟨e.I, 0, none⟩)]], undef, undef, undef, undef, undef, undef, undef, undef, undef, undef, undef, undef, undef, undef, undef, undef, undef, undef, undef, undef], defers := [] }
def AxA (w w1 : World) (x : WorldM) (p : WoA) (pre : List RowE) (e : RowE) (a' : Act) (W : World) : Prop := ∃ g, w1.heap.size + 1 < g ∧ Blk W g 67 [.int .i64 e.cnt, .func (.func 56) #[] #[.pointer (some ⟨e.T, 0, none⟩), .pointer (some ⟨e.F, 0, none⟩), .pointer (some ⟨e.I, 0, none⟩)]] ∧ GR w.heap.size x pre e W ∧ a' = actA w w1 x p e g
theorem RunsAt.grown {w w' : World} {B0 : Nat} {rd st : List Int} {f s tr : Int} {T F I : Nat} {row : Option Nat} (h : RunsAt w B0 rd st f s tr T F I) (hg : w.grownBy w' row) (hr : ∀ r, row = some r → ∃ o : Obj, w.heap[r]? = some o ∧ o.isCells = false) : RunsAt w' B0 rd st f s tr T F I := by
  obtain ⟨R, n1, n, m, sc, rc, yc, sa, ra, ya, rt, u, h1, h2, h3, h4, h5, h6, b1, b2, b3, b4, b0, b5, b6⟩ := h
  exact ⟨R, n1, n, m, sc, rc, yc, sa, ra, ya, rt, u, h1, h2, h3, h4, h5, h6, blk_grown b1 hg hr, blk_grown b2 hg hr, blk_grown b3 hg hr, blk_grown b4 hg hr, Nat.le_trans b0 hg.size, rd_grown b5 hg hr, rd_grown b6 hg hr⟩
theorem GR.grown {B0 : Nat} {x : WorldM} {pre : List RowE} {e : RowE} {W W' : World} {row : Option Nat} (h : GR B0 x pre e W) (hg : W.grownBy W' row) (hr : ∀ r, row = some r → ∃ o : Obj, W.heap[r]? = some o ∧ o.isCells = false) : GR B0 x pre e W' := by
  obtain ⟨t, q, r, h1, h2, h3, h4, h5⟩ := h
  exact ⟨t, q, r, h1, h2, h3, h4, h5.grown hg hr⟩
/-- All has found too many -/
def AxE (w : World) (x : WorldM) (W : World) : Prop := Blk W (w.heap.size + 1) 39 [.slice none 0 0] ∧ Blk W (w.heap.size + 1 + 1) 25 [.int .i64 3] ∧ 16384 < (runsTo x x.trips.length).length ∧ Below w.heap.size w W
theorem al_read {W : World} {n0 n1 : Nat} {b0 b1 : Value} {tmps : Array Value} (h2 : tmps[2]? = some (.pointer (some ⟨n0, 0, none⟩))) (h3 : tmps[3]? = some (.pointer (some ⟨n1, 0, none⟩))) (k0 : Blk W n0 39 [b0]) (k1 : Blk W n1 25 [b1]) :
    (results Tryz.f11 tmps).run Tryz.prog W = .ok (.tuple #[b0, b1]) W := by
  have x0 : W.cell? ⟨n0, 0, none⟩ = some b0 := k0.cell 0
  have x1 : W.cell? ⟨n1, 0, none⟩ = some b1 := k1.cell 0
  simp [results, Tryz.results11, go_sem, h2, h3, x0, x1]
/-- all runs, in rows of their own; or too many -/
def AllPost (w : World) (x : WorldM) (e : Ending) (w' : World) : Prop :=
  ((runsTo x x.trips.length).length ≤ 16384 ∧ ∃ (A : Option Addr) (c : Nat) (ss : List Value), e = .returned (.tuple #[.slice A (runsTo x x.trips.length).length c, .int .i64 0]) ∧ Hid (Rd w' (· < w'.heap.size) A ss) ∧ Hid (Rns w' (· < w'.heap.size) (runsTo x x.trips.length) ss) ∧ Hid (Below w.heap.size w w')) ∨
  (16384 < (runsTo x x.trips.length).length ∧ e = .returned (.tuple #[.slice none 0 0, .int .i64 3]) ∧ Below w.heap.size w w')
theorem all_step {n1 B4 M : Nat} {wr w4 w6 : World} {o : Obj} {v v' : Value} {ss : List Value} (hv : Blk wr B4 39 [v]) (hrw : wr.ownsRow n1 24 4 v M ss) (hB4 : B4 < n1) (hb4 : Below wr.heap.size wr w4) (hg : (w4.alloc o).grownBy w6 v.ownBlock) :
    Blk w6 B4 39 [v] ∧ (∀ b, b < w4.heap.size → v.ownBlock ≠ some b → b ≠ B4 → (w6.setCell ⟨B4, 0, none⟩ v').heap[b]? = w4.heap[b]?) ∧ w4.heap.size + 1 ≤ (w6.setCell ⟨B4, 0, none⟩ v').heap.size ∧ ∀ b, v.ownBlock = some b → n1 ≤ b ∧ b < wr.heap.size ∧ ∃ cur, wr.heap[b]? = some (.cells cur 24 (0, 0)) := by
  have hown : ∀ b, v.ownBlock = some b → n1 ≤ b ∧ b < wr.heap.size ∧ ∃ cur, wr.heap[b]? = some (.cells cur 24 (0, 0)) := fun b e => by
    rcases hrw.2 with ⟨rfl, _⟩ | ⟨g, cap, cur, rfl, hge, hgb, _⟩
    · cases e
    · obtain rfl : g = b := by simpa [Value.ownBlock] using e
      exact ⟨hge, (Array.getElem?_eq_some_iff.1 hgb).1, cur, hgb⟩
  have hlt := hv.lt
  refine ⟨?_, fun b hb hne hnb => ?_, ?_, hown⟩
  · refine (((hv.after hb4).alloc o).grown hg (fun e => ?_))
    have := (hown B4 e.symm).1; omega
  · rw [Below.heap_setCell _ _ _ _ (by simpa using hnb), hg.block b (by simp; omega) (fun e => hne e.symm), Below.heap_alloc _ _ _ hb]
  · have := hg.size; simp [World.setCell] at this ⊢; exact this
theorem RunsAt.kept {w w' : World} {B0 : Nat} {rd st : List Int} {f s tr : Int} {T F I : Nat} (h : RunsAt w B0 rd st f s tr T F I) (hsz : w.heap.size ≤ w'.heap.size) (hk : ∀ b, b < B0 → w'.heap[b]? = w.heap[b]?) (hb : ∀ (g : Nat) (t : TypeId) (l : List Value), Blk w g t l → t ≠ 24 → t ≠ 39 → w'.heap[g]? = w.heap[g]?) : RunsAt w' B0 rd st f s tr T F I := by
  obtain ⟨R, n1, n, m, sc, rc, yc, sa, ra, ya, rt, u, h1, h2, h3, h4, h5, h6, b1, b2, b3, b4, b0, b5, b6⟩ := h
  exact ⟨R, n1, n, m, sc, rc, yc, sa, ra, ya, rt, u, h1, h2, h3, h4, h5, h6, (hb _ _ _ b1 (by decide) (by decide)).trans b1, (hb _ _ _ b2 (by decide) (by decide)).trans b2, (hb _ _ _ b3 (by decide) (by decide)).trans b3, (hb _ _ _ b4 (by decide) (by decide)).trans b4, Nat.le_trans b0 hsz, b5.keep hk, b6.keep hk⟩
theorem info_Run : (Tryz.prog.info? 24).map (fun i => (i.zero, i.size, i.bytes)) = some (some (.agg #[.int .i64 0, .int .i64 0, .slice none 0 0, .slice none 0 0]), 4, 64) := by kernel_rfl
theorem region_T_in {r n id : Nat} {P : Program} {l : List Oper} {Q : Exit → Act → World → Prop} {a : Act} {w : World} (L : List (Nat × Addr × Value)) (hl : ¬ LetsOut Q) (hm : P.follows .mixedOrders = true) (hnd : l.all Wn.noDefer = true) (h : wpAnyT P .any l.toArray Q (Pend L) l.toArray.size (Array.replicate l.toArray.size false) a w.drew) : (Code.region id l.toArray true).wpIn (Fence.wide.inRound r) n P Q a w :=
  wpIn_region_any hm (Wn.any_in hl (fun i o ho => by
    rw [List.all_eq_true] at hnd
    exact hnd o (List.mem_of_getElem? (by simpa using ho))) _ _ _ _ (wpAny_of_T _ _ _ _ h))
theorem blk_ty {w : World} {g : Nat} {t t' : TypeId} {l l' : List Value} (h : Blk w g t l) (h' : Blk w g t' l') : t = t' := by
  have e := Eq.trans (Eq.symm (show w.heap[g]? = _ from h)) (show w.heap[g]? = _ from h')
  injection e with e
  injection e
theorem rows_fn (x : WorldM) (p : WoA) (w : World) : Calls Tryz.prog 32 #[woQ x p] w (fun e w' => e = .returned (.func (.func 58) #[] #[.pointer (some ⟨w.heap.size, 0, none⟩)]) ∧ Blk w' w.heap.size 37 (woL x p) ∧ Below w.heap.size w w') := by
  go_enter Tryz.func32, Tryz.ntmps32
  go_wp2
  go_ret
  exact ⟨rfl, Blk.new w _ _, one_box _ _⟩
theorem all_good (x : WorldM) (p : WoA) (w : World) (h : Wo w (· < w.heap.size) x p) (hl : WLt x) (he : (wrongW x).err = 0) : Calls Tryz.prog 11 #[woQ x p] w (AllPost w x) := by
  have HM : Hid (∀ w', Below w.heap.size w w' → Calls Tryz.prog 29 #[woQ x p] w' (BPost w' true)) := HH (fun w' hb => by have := maybe_any x p w' (h.later hb) hl; rw [decide_eq_true he] at this; exact this)
  have HW := HH h
  clear h
  refine (callsIn_wide (n := 6)).1 ?_
  refine callsIn_of_wp_marks Tryz.func11 rfl trivial ?_ rfl
  simp only [Tryz.ntmps11, List.size_toArray, List.length_cons, List.length_nil, Nat.reduceAdd, Nat.reduceSub, Array.replicate_succ, Array.replicate_zero, List.push_toArray, List.append_toArray, List.nil_append, List.cons_append]
  gi_wp2_with (first
    | (refine ⟨trivial, ?_⟩; gi_at_call 29; refine (callsIn_wide.2 (HM.out _ (box3b _ _ _ _))).mono ?_; rintro e w1 ⟨rfl, hb⟩; have HB1 := HH (keep_trans (box3b _ _ _ _) hb); have KW1 : Hid (Blk w1 w.heap.size 37 (woL x p)) := HH ((blk1b w (.cells #[.slice none 0 0] 39) (.cells #[.int .i64 0] 25) 37 (woL x p)).after hb); have K21 := HH ((blk2b w (.cells (woL x p).toArray 37) (.cells #[.int .i64 0] 25) 39 [.slice none 0 0]).after hb); have K31 := HH ((blk3b w (.cells (woL x p).toArray 37) (.cells #[.slice none 0 0] 39) 25 [.int .i64 0]).after hb); obtain ⟨z0, z1, z2, z3, z4, z5, z6, z7, z8, z9, z10, z11⟩ := wo_cells KW1.out; have LW1 : w.heap.size < w1.heap.size := KW1.out.lt; clear hb)
    | (refine ⟨trivial, ?_⟩; gi_at_call 32; refine (callsIn_wide.2 (rows_fn x p _)).mono ?_; rintro e w2 ⟨rfl, kb, hb⟩; have KL1 := HH ((Blk.new w1 39 [.slice none 0 0]).after hb); have KBn : Hid (Blk w2 (w1.heap.size + 1) 37 (woL x p)) := HH (by rw [World.size_alloc] at kb; exact kb); have B12 := HH (keep_trans (one_box _ _) hb); clear kb hb))
  have hs2 : w1.heap.size + 1 < w2.heap.size := KBn.out.lt
  have B2w := HH (keep_trans HB1.out B12.out)
  have K22 := HH (K21.out.after B12.out)
  have K32 := HH (K31.out.after B12.out)
  have L32 : w.heap.size + 1 + 1 < w1.heap.size := K31.out.lt
  clear z0 z1 z2 z3 z4 z5 z6 z7 z8 z9 z10 z11 HM
  refine range_G (w0 := w2) (encs := encR) (Kp := KpL w.heap.size (w1.heap.size + 1)) (S := fun xs => xs.length = x.trips.length) (N := x.trips.length) (G := GR w.heap.size x) (gf := 58) (lb := #[.pointer (some ⟨w1.heap.size + 1, 0, none⟩)]) rfl (enters_of Tryz.func58 (by kernel_rfl) rfl)
    (rows_seq x p w HW.out hl (goodw he) (w1.heap.size + 1) w2 B2w.out KBn.out (by omega)) KpL.t (fun W l o o' hle h _ _ => ⟨belowK_b (w := w2) B2w.out.size W l o o' hle h ‹_› ‹_›, World.putObj_heap_other (by omega)⟩) (Below.refl _ _) (fun _ => rfl)
    (fun pre W => AI w w2.heap.size w1.heap.size (runsTo x pre.length) W) (AxE w x) (fun s A B row hs hg hr => hs.grown B2w.out.size hg hr)
    (fun s A B row hs hg hr => ⟨blk_grown hs.1 hg (fun r e => (hr r e).2), blk_grown hs.2.1 hg (fun r e => (hr r e).2), hs.2.2.1, hs.2.2.2.grown hg (Nat.le_trans hs.2.2.2.size (Nat.le_refl _) |> fun _ => hs.2.2.2.size) (fun k e => Nat.le_trans B2w.out.size (hr k e).1)⟩)
    ?h0 (AxA w w1 x p) (fun pre e a' s A B row hs hg hr => by obtain ⟨g, h1, h2, h3, h4⟩ := hs; exact ⟨g, h1, blk_grown h2 hg (fun r e => (hr r e).2), h3.grown hg (fun r e => (hr r e).2), h4⟩) ?assign ?body ?done ?stop
  case h0 => exact ⟨⟨.slice none 0 0, [], KL1.out, own_nil, rfl⟩, K22.out, K32.out, B2w.out, Nat.le_refl _, by simp [runsTo]⟩
  case assign =>
    intro l pre e W K hI hG hK
    dsimp only [encR]
    gi_wp2
    exact hK _ _ ⟨by simp, fun k o _ h _ => (Below.heap_alloc W _ k (Array.getElem?_eq_some_iff.1 h).1).trans h⟩ ⟨(Below.refl _ _).alloc (Nat.le_trans B2w.out.size hI.siz) _, Below.heap_alloc W _ _ (by have := hI.siz; omega)⟩ (hI.grown B2w.out.size (World.grownBy_alloc W _ none) (fun r e => by cases e)) ⟨W.heap.size, by have := hI.siz; omega, Blk.new _ _ _, hG.grown (World.grownBy_alloc W _ none) (fun r e => by cases e), rfl⟩
  case body =>
    intro l pre e a' W hl2 hex hI hA hlen
    obtain ⟨g, hgB, HG, ⟨t, q, r, ht, hq, hr, hcnt, hRA⟩, rfl⟩ := hA
    obtain ⟨q', r', hq', hr', hrow⟩ := row_some (goodw he) ht
    obtain rfl : q = q' := by omega
    rw [hr] at hr'
    obtain rfl := Option.some.inj hr'
    obtain ⟨N, hN⟩ : ∃ N : Nat, e.cnt = (N : Int) ∧ N = (cntT x.horizon r t).toNat ∧ N ≤ 1099511627777 := ⟨(cntT x.horizon r t).toNat, by have := cntR_bd t.frm t.every t.til (lngR r) x.horizon; unfold cntT at hcnt ⊢; omega⟩
    obtain ⟨hN1, hN2, hN3⟩ := hN
    have hTL := HH (runsT_len hrow)
    obtain ⟨v, ss, hv, hrw, hrn⟩ := hI.row
    obtain ⟨A, c, rfl, hmc, -⟩ := own_form hrw
    have HGb := HH HG
    have HRA := HH hRA
    have HI := HH hI
    have hm : (runsTo x pre.length).length ≤ 16384 := hI.few
    have c4 : W.cell? ⟨w1.heap.size, 0, none⟩ = some (.slice A (runsTo x pre.length).length c) := hv.cell 0
    have g0 : W.cell? ⟨g, 0, none⟩ = some (.int .i64 (N : Int)) := by rw [← hN1]; exact HG.cell 0
    have hsum : Hid ((runsTo x (pre.length + 1)).length = (runsTo x pre.length).length + N) := HH (by rw [runsTo_succ, List.length_append, hTL.out, hN2])
    have HROW := HH hrow
    have HN2 := HH hN2
    clear hcnt hq hr hq' hRA HG hv hrw hrn hex hrow hN2
    by_cases hbig : 16384 < (runsTo x pre.length).length + N
    · have hb : (16384 : Int) < ((runsTo x pre.length).length : Int) + (N : Int) := by omega
      have HBIG := HH (show 16384 < (runsTo x x.trips.length).length by have := runsTo_mono x (pre.length + 1) x.trips.length (by omega); have := hsum.out; omega)
      obtain ⟨b20, b21⟩ : W.cell? ⟨w.heap.size + 1, 0, none⟩ = some (.slice none 0 0) ∧ W.frozen? ⟨w.heap.size + 1, 0, none⟩ = false := ⟨hI.b2.cell 0, hI.b2.frozen 0⟩
      obtain ⟨b30, b31⟩ : W.cell? ⟨w.heap.size + 1 + 1, 0, none⟩ = some (.int .i64 0) ∧ W.frozen? ⟨w.heap.size + 1 + 1, 0, none⟩ = false := ⟨hI.b3.cell 0, hI.b3.frozen 0⟩
      generalize (runsTo x pre.length).length = m at *
      clear hbig hsum
      gi_wp2
      refine ⟨(KeepsFrom.of_grownBy (grownBy_setCell' W (w.heap.size + 1) (.slice none 0 0)) (fun j e => by cases e; omega)).trans (KeepsFrom.of_grownBy (grownBy_setCell' _ (w.heap.size + 1 + 1) (.int .i64 3)) (fun j e => by cases e; omega)), ?_⟩
      exact ⟨(HI.out.b2.set_ 0 (.slice none 0 0)).far (by simp) _, (HI.out.b3.far (by simp) _).set_ 0 (.int .i64 3), HBIG.out, below_set (below_set HI.out.bel (by simp) _) (by simp; omega) _⟩
    · have hb : ¬ (16384 : Int) < ((runsTo x pre.length).length : Int) + (N : Int) := by omega
      have HFEW := HH (show (runsTo x pre.length).length + N ≤ 16384 by omega)
      have HGO : Hid (∀ wr : World, AI w w2.heap.size w1.heap.size (runsTo x pre.length ++ (runsT x pre.length).take 0) wr → AI w w2.heap.size w1.heap.size (runsTo x pre.length) wr) := HH (fun wr h => by simpa using h)
      have HI0 : Hid (AI w w2.heap.size w1.heap.size (runsTo x pre.length ++ (runsT x pre.length).take 0) W) := HH (by simpa using HI.out)
      have HLN : Hid ((runsT x pre.length).length = N) := HH (by rw [hTL.out, HN2.out])
      have hN16 : N ≤ 16384 := by omega
      have hSU := HH (runsTo_succ x pre.length)
      generalize runsTo x pre.length = L0 at *
      have hm2 : L0.length + N ≤ 16384 := HFEW.out
      clear hbig hsum HGO
      gi_wp2
      gi_loopw [21] (fun v wr => ∃ j : Nat, v = .int .i64 j ∧ j ≤ N ∧ Hid (AI w w2.heap.size w1.heap.size (L0 ++ (runsT x pre.length).take j) wr) ∧ Hid (KeepsFrom w2.heap.size W wr) ∧ Hid (KpL w.heap.size (w1.heap.size + 1) W wr) ∧ Hid (Blk wr g 67 [.int .i64 e.cnt, .func (.func 56) #[] #[.pointer (some ⟨e.T, 0, none⟩), .pointer (some ⟨e.F, 0, none⟩), .pointer (some ⟨e.I, 0, none⟩)]]) ∧ Hid (RunsAt wr w.heap.size r.rides r.stays t.frm t.every pre.length e.T e.F e.I)) (fun v _ => N - (intOf v).toNat)
      case atStart => exact ⟨0, rfl, by omega, HI0, HH (KeepsFrom.refl _ _), HH ⟨Below.refl _ _, rfl⟩, HGb, HRA⟩
      case round =>
        obtain ⟨j, rfl, hj, JI, JK, JP, JG, JR⟩ := hrel
        by_cases hjn : j < N
        · have hji : (j : Int) < (N : Int) := by omega
          have hLL : Hid ((L0 ++ (runsT x pre.length).take j).length = L0.length + j) := HH (by rw [List.length_append, List.length_take, HLN.out]; omega)
          obtain ⟨v, ss, hv, hrw, hrn⟩ := JI.out.row
          obtain ⟨A', c', rfl, hmc', -⟩ := own_form hrw
          obtain ⟨M, hM⟩ : ∃ M, M = (L0 ++ (runsT x pre.length).take j).length := ⟨_, rfl⟩
          have HML : Hid (M = L0.length + j) := HH (hM.trans hLL.out)
          rw [← hM] at hv hrw hrn hmc'
          have HM2 := HH hM
          have HV := HH hv
          have HRW := HH hrw
          have HRN := HH hrn
          have HM3 : M + 1 ≤ 1000000 := by have := HML.out; omega
          have d0 : wr.drew.cell? ⟨w1.heap.size, 0, none⟩ = some (.slice A' M c') := hv.cell 0
          have d1 : wr.drew.cell? ⟨g, 1, none⟩ = some (.func (.func 56) #[] #[.pointer (some ⟨e.T, 0, none⟩), .pointer (some ⟨e.F, 0, none⟩), .pointer (some ⟨e.I, 0, none⟩)]) := JG.out.cell 1
          have hS0 : ∀ l, Pend [(7, ⟨w1.heap.size, 0, none⟩, .slice A' M c'), (7, ⟨g, 1, none⟩, .func (.func 56) #[] #[.pointer (some ⟨e.T, 0, none⟩), .pointer (some ⟨e.F, 0, none⟩), .pointer (some ⟨e.I, 0, none⟩)])] l wr.drew := fun l q hq hl => by
            simp only [List.mem_cons, List.not_mem_nil, or_false] at hq
            rcases hq with rfl | rfl
            · exact d0
            · exact d1
          clear hv hrw hrn hM d0 d1
          gi_wp2
          refine region_T_in [(7, ⟨w1.heap.size, 0, none⟩, .slice A' M c'), (7, ⟨g, 1, none⟩, .func (.func 56) #[] #[.pointer (some ⟨e.T, 0, none⟩), .pointer (some ⟨e.F, 0, none⟩), .pointer (some ⟨e.I, 0, none⟩)])] (fun ⟨_, _, h⟩ => h) mixed (by kernel_rfl) ?_
          refine tal 0 7 ⟨w1.heap.size, 0, none⟩ (.slice A' M c') ?va0 rfl rfl (hS0 _) ?ha0 ?ra0
          case ha0 => (intro w' hSw; go_simp; try with_reducible rfl)
          simp only [ptk]
          refine tap 1 ?va1 rfl (hS0 _) ?ha1 ?ra1
          case ha1 => (intro w' hSw; clear hSw; go_simp; try with_reducible rfl)
          simp only [ptk]
          refine tal 2 7 ⟨g, 1, none⟩ (.func (.func 56) #[] #[.pointer (some ⟨e.T, 0, none⟩), .pointer (some ⟨e.F, 0, none⟩), .pointer (some ⟨e.I, 0, none⟩)]) ?va2 rfl rfl (hS0 _) ?ha2 ?ra2
          case ha2 => (intro w' hSw; go_simp; try with_reducible rfl)
          simp only [ptk]
          refine tap 3 ?va3 rfl (hS0 _) ?ha3 ?ra3
          case ha3 => (intro w' hSw; clear hSw; go_simp; try with_reducible rfl)
          simp only [ptk]
          refine tan 4 rfl fun K hK => ?_
          go_simp
          go_at_call 56
          refine (run_any wr.drew _ _ _ _ _ _ _ _ _ _ (JR.out.later (below_drew (Below.refl _ _))) (by omega)).mono ?_
          rintro e' w4 ⟨RA, RB, rc, rd', rfl, hra, hrb, hb4⟩
          have B4 : Hid (Below wr.heap.size wr w4) := HH (keep_trans (below_drew (Below.refl _ _)) hb4.out)
          have V4 := HH (HV.out.after B4.out)
          have G4 := HH (JG.out.after B4.out)
          have hS1 : ∀ l, Pend [(7, ⟨w1.heap.size, 0, none⟩, .slice A' M c'), (7, ⟨g, 1, none⟩, .func (.func 56) #[] #[.pointer (some ⟨e.T, 0, none⟩), .pointer (some ⟨e.F, 0, none⟩), .pointer (some ⟨e.I, 0, none⟩)])] l w4 := fun l q hq hl => by
            simp only [List.mem_cons, List.not_mem_nil, or_false] at hq
            rcases hq with rfl | rfl
            · exact V4.out.cell 0
            · exact G4.out.cell 1
          refine hK.out _ _ (hS1 _) ?_
          clear hK K hS0 hb4
          refine tan 5 rfl fun K hK => ?_
          go_simp
          have hsz4 : (w4.alloc (.cells #[.int .i64 (pre.length : Int), .int .i64 (j : Int), .slice RA (r.rides.length + 1) rc, .slice RB (r.rides.length + 1) rd'] 24)).heap.size = w4.heap.size + 1 := by simp
          have hS2 : ∀ l, Pend [(7, ⟨w1.heap.size, 0, none⟩, .slice A' M c'), (7, ⟨g, 1, none⟩, .func (.func 56) #[] #[.pointer (some ⟨e.T, 0, none⟩), .pointer (some ⟨e.F, 0, none⟩), .pointer (some ⟨e.I, 0, none⟩)])] l (w4.alloc (.cells #[.int .i64 (pre.length : Int), .int .i64 (j : Int), .slice RA (r.rides.length + 1) rc, .slice RB (r.rides.length + 1) rd'] 24)) := fun l q hq hl => by
            simp only [List.mem_cons, List.not_mem_nil, or_false] at hq
            rcases hq with rfl | rfl
            · exact (V4.out.alloc _).cell 0
            · exact (G4.out.alloc _).cell 1
          refine hK.out _ _ (hS2 _) ?_
          clear hK K hS1
          refine tan 6 rfl fun K hK => ?_
          have hwr : w2.heap.size ≤ wr.heap.size := JI.out.siz
          refine step_append_g (by rfl) (.tmp 24) (.tmp 29) 39 (by rfl) w2.heap.size 24 _ 4 64 Tryz.underlying39 info_Run rfl (by omega) (by omega) (.slice A' M c') M ss (by rfl) (HH (own_after HRW.out (keep_trans B4.out (one_box w4 (.cells #[.int .i64 (pre.length : Int), .int .i64 (j : Int), .slice RA (r.rides.length + 1) rc, .slice RB (r.rides.length + 1) rd'] 24))))) (fun _ => True) (some ⟨w4.heap.size, 0, none⟩) 1 1 [.int .i64 (pre.length : Int), .int .i64 (j : Int), .slice RA (r.rides.length + 1) rc, .slice RB (r.rides.length + 1) rd'] (by rfl) (HH rfl) (HH ((Sh.lit_rd w4 _ 24 [.int .i64 (pre.length : Int), .int .i64 (j : Int), .slice RA (r.rides.length + 1) rc, .slice RB (r.rides.length + 1) rd'] rfl).more fun _ _ => trivial)) (by simp [Value.oneCell']) (by omega) (by have := B4.out.size; omega) ?_
          intro v' w6 hown hgrow hob
          obtain ⟨A2, c2, rfl, hc2, -⟩ := own_form hown.out
          obtain ⟨V6, hkeep, hsz7, hown7⟩ := all_step (v' := .slice A2 (M + 1) c2) HV.out HRW.out (show w1.heap.size < w2.heap.size by omega) B4.out hgrow.out
          have hng : (Value.slice A' M c').ownBlock ≠ some g := fun e => by
            obtain ⟨-, -, cur, hc⟩ := hown7 g e
            rw [show wr.heap[g]? = _ from JG.out] at hc
            cases hc
          have G6 := HH (((G4.out.alloc (.cells #[.int .i64 (pre.length : Int), .int .i64 (j : Int), .slice RA (r.rides.length + 1) rc, .slice RB (r.rides.length + 1) rd'] 24))).grown hgrow.out (fun e => hng e.symm))
          have V6 := HH V6
          have hS6 : ∀ l, Pend [(7, ⟨w1.heap.size, 0, none⟩, .slice A' M c'), (7, ⟨g, 1, none⟩, .func (.func 56) #[] #[.pointer (some ⟨e.T, 0, none⟩), .pointer (some ⟨e.F, 0, none⟩), .pointer (some ⟨e.I, 0, none⟩)])] l w6 := fun l q hq hl => by
            simp only [List.mem_cons, List.not_mem_nil, or_false] at hq
            rcases hq with rfl | rfl
            · exact V6.out.cell 0
            · exact G6.out.cell 1
          refine hK.out _ _ (hS6 _) ?_
          clear hK K hS2
          refine tan 7 rfl fun K hK => ?_
          have c60 : w6.cell? ⟨w1.heap.size, 0, none⟩ = some (.slice A' M c') := V6.out.cell 0
          have f60 : w6.frozen? ⟨w1.heap.size, 0, none⟩ = false := V6.out.frozen 0
          go_simp
          have hS7 : ∀ l : Array Bool, l.getD 7 true = true → Pend [(7, ⟨w1.heap.size, 0, none⟩, .slice A' M c'), (7, ⟨g, 1, none⟩, .func (.func 56) #[] #[.pointer (some ⟨e.T, 0, none⟩), .pointer (some ⟨e.F, 0, none⟩), .pointer (some ⟨e.I, 0, none⟩)])] l (w6.setCell ⟨w1.heap.size, 0, none⟩ (.slice A2 (M + 1) c2)) := fun l h7 q hq hl => by
            simp only [List.mem_cons, List.not_mem_nil, or_false] at hq
            rcases hq with rfl | rfl
            · rw [h7] at hl; cases hl
            · rw [h7] at hl; cases hl
          refine hK.out _ _ (hS7 _ (by kernel_rfl)) ?_
          clear hK K hS6 hS7 c60 f60
          have V7 := HH (V6.out.set_ 0 (.slice A2 (M + 1) c2))
          have O7 := HH (ownsRow_setCell_below hown.out (a := ⟨w1.heap.size, 0, none⟩) (show w1.heap.size < w2.heap.size by omega) (.slice A2 (M + 1) c2))
          have BB : Hid (Below w.heap.size wr (w6.setCell ⟨w1.heap.size, 0, none⟩ (.slice A2 (M + 1) c2))) := HH (below_set ((((B4.out.mono (show w.heap.size ≤ wr.heap.size from JI.out.bel.size)).alloc (show w.heap.size ≤ w4.heap.size from Nat.le_trans JI.out.bel.size B4.out.size) (.cells #[.int .i64 (pre.length : Int), .int .i64 (j : Int), .slice RA (r.rides.length + 1) rc, .slice RB (r.rides.length + 1) rd'] 24))).grown hgrow.out (by have := JI.out.bel.size; have := B4.out.size; omega) (fun k e => by have := (hown7 k e).1; have := B2w.out.size; omega)) (show w.heap.size ≤ w1.heap.size from HB1.out.size) _)
          have HKP := HH (fun b (hb : b < wr.heap.size) (h1 : (Value.slice A' M c').ownBlock ≠ some b) (h2 : b ≠ w1.heap.size) => (hkeep b (Nat.lt_of_lt_of_le hb B4.out.size) h1 h2).trans (B4.out.block b hb))
          have HOB := hob
          generalize w6.setCell ⟨w1.heap.size, 0, none⟩ (.slice A2 (M + 1) c2) = w7 at *
          refine wpAnyT_done (by kernel_rfl) ?_ _
          have HTK : Hid (L0 ++ (runsT x pre.length).take (j + 1) = (L0 ++ (runsT x pre.length).take j) ++ [⟨(pre.length : Int), (j : Int), arrT r.rides r.stays (Tk.atV t.frm t.every j) r.rides.length, depT r.rides r.stays (Tk.atV t.frm t.every j) r.rides.length⟩]) := HH (by
            rw [List.take_add_one, runsT_at HROW.out (by rw [← HN2.out]; exact hjn), List.append_assoc]; rfl)
          have HNEW : Hid (AI w w2.heap.size w1.heap.size (L0 ++ (runsT x pre.length).take (j + 1)) w7) := HH (by
            have hlen : (L0 ++ (runsT x pre.length).take (j + 1)).length = M + 1 := by rw [HTK.out, List.length_append, ← HM2.out]; rfl
            have hfar : ∀ b, b < w2.heap.size → (Value.slice A' M c').ownBlock ≠ some b := fun b hb e => by have := (hown7 b e).1; omega
            refine ⟨⟨.slice A2 (M + 1) c2, ss ++ [.int .i64 (pre.length : Int), .int .i64 (j : Int), .slice RA (r.rides.length + 1) rc, .slice RB (r.rides.length + 1) rd'], V7.out, by rw [hlen]; exact O7.out, ?_⟩, (HKP.out _ (by omega) (hfar _ (by omega)) (by omega)).trans JI.out.b2, (HKP.out _ (by omega) (hfar _ (by omega)) (by omega)).trans JI.out.b3, JI.out.bel.trans BB.out, by have := B4.out.size; omega, by rw [hlen]; have := HML.out; omega⟩
            rw [HTK.out]
            have hvo : ∀ b, b < w4.heap.size → (Value.slice A' M c').ownBlock ≠ some b → (Value.slice A2 (M + 1) c2).ownBlock ≠ some b := fun b hb h1 h2 => by
              rcases HOB.out with h3 | h3
              · rw [h3] at h2; exact h1 h2
              · rw [h3, hsz4] at h2; injection h2 with h2; omega
            refine Rns.snoc ⟨RA, rc, RB, rd', [], ?_, ?_, ?_, rfl⟩ (HRN.out.map fun A0 xs h0 => (h0.keep fun b hb => HKP.out b hb.2.1 hb.2.2 (by have := hb.1; omega)).more fun b hb => ⟨hb.1, by have := hb.2.1; have := B4.out.size; omega, hvo b (Nat.lt_of_lt_of_le hb.2.1 B4.out.size) hb.2.2⟩)
            · simp only [arrT_len, depT_len]
            · exact (Rd.keep hra.out fun b hb => hkeep b hb.2 (fun e => by have := (hown7 b e).2.1; have h9 : wr.heap.size ≤ b := hb.1; omega) (by have h9 : wr.heap.size ≤ b := hb.1; omega)).more fun b hb => ⟨Nat.le_trans hwr hb.1, by have := hb.2; omega, hvo b hb.2 (fun e => by have := (hown7 b e).2.1; have h9 : wr.heap.size ≤ b := hb.1; omega)⟩
            · exact (Rd.keep hrb.out fun b hb => hkeep b hb.2 (fun e => by have := (hown7 b e).2.1; have h9 : wr.heap.size ≤ b := hb.1; omega) (by have h9 : wr.heap.size ≤ b := hb.1; omega)).more fun b hb => ⟨Nat.le_trans hwr hb.1, by have := hb.2; omega, hvo b hb.2 (fun e => by have := (hown7 b e).2.1; have h9 : wr.heap.size ≤ b := hb.1; omega)⟩)
          have HK7 : Hid (KeepsFrom w2.heap.size wr w7) := HH ⟨by have := B4.out.size; omega, fun k o hk h hc => (HKP.out k (Array.getElem?_eq_some_iff.1 h).1 (fun e => by obtain ⟨-, -, cur, h3⟩ := hown7 k e; rw [h] at h3; cases h3; cases hc) (by omega)).trans h⟩
          have HP7 : Hid (KpL w.heap.size (w1.heap.size + 1) wr w7) := HH ⟨BB.out, HKP.out _ (by omega) (fun e => by have := (hown7 _ e).1; omega) (by omega)⟩
          have G7 := HH ((HKP.out g JG.out.lt hng (by omega)).trans JG.out)
          have R7 := HH (JR.out.kept (by have := B4.out.size; omega) (fun b hb => HKP.out b (Nat.lt_of_lt_of_le hb JI.out.bel.size) (fun e => by have := (hown7 b e).1; have := B2w.out.size; omega) (by have := HB1.out.size; omega)) (fun g2 t2 l2 hB h1 h2 => HKP.out g2 hB.lt (fun e => by obtain ⟨-, -, cur, h3⟩ := hown7 g2 e; rw [show wr.heap[g2]? = _ from hB] at h3; injection h3 with h3; injection h3 with h3 h4; exact h1 h4) (fun e => by subst e; exact h2 (blk_ty hB HV.out))))
          clear hkeep hown7 hsz7 hra hrb hown hgrow hob hng hsz4
          gi_wp2
          go_roundw
          case rel => exact ⟨j + 1, by go_num, by omega, HNEW, HH (JK.out.trans HK7.out), HH (JP.out.t HP7.out), G7, R7⟩
          case measure => simp [intOf]; omega
        · obtain rfl : j = N := by omega
          have hji : ¬ (j : Int) < (j : Int) := by omega
          gi_wp2
          refine ⟨JK.out, JP.out, ?_⟩
          have := JI.out
          rw [List.take_of_length_le (by rw [HLN.out]; exact Nat.le_refl _), ← hSU.out] at this
          simpa using this
  case done =>
    intro D xs W hD hS hI hK
    obtain ⟨v, ss, hv, hrw, hrn⟩ := hI.row
    obtain ⟨A, c, rfl, hmc, hrd⟩ := own_form hrw
    rw [hS] at hv hrw hrn hmc
    have c4 : W.cell? ⟨w1.heap.size, 0, none⟩ = some (.slice A (runsTo x x.trips.length).length c) := hv.cell 0
    obtain ⟨b20, b21⟩ : W.cell? ⟨w.heap.size + 1, 0, none⟩ = some (.slice none 0 0) ∧ W.frozen? ⟨w.heap.size + 1, 0, none⟩ = false := ⟨hI.b2.cell 0, hI.b2.frozen 0⟩
    obtain ⟨b30, b31⟩ : W.cell? ⟨w.heap.size + 1 + 1, 0, none⟩ = some (.int .i64 0) ∧ W.frozen? ⟨w.heap.size + 1 + 1, 0, none⟩ = false := ⟨hI.b3.cell 0, hI.b3.frozen 0⟩
    have HI := HH hI
    have HRD := HH hrd
    have HRN := HH hrn
    have HK := HH hK
    have HF := HH (show (runsTo x x.trips.length).length ≤ 16384 by rw [← hS]; exact hI.few)
    clear hv hrw hrn hrd hK hS hI
    have HMM : Hid (AllPost w x = AllPost w x) := HH rfl
    obtain ⟨m, hm⟩ : ∃ m, m = (runsTo x x.trips.length).length := ⟨_, rfl⟩
    have HM := HH hm
    rw [← hm] at c4 hmc
    clear hm HMM
    gi_wp2
    have C2 := HH ((HI.out.b2.set_ 0 (.slice A m c)).far (p := ⟨w.heap.size + 1 + 1, 0, none⟩) (by simp) (.int .i64 0))
    have C3 := HH ((HI.out.b3.far (p := ⟨w.heap.size + 1, 0, none⟩) (by simp) (.slice A m c)).set_ 0 (.int .i64 0))
    have CB := HH (below_set (below_set HI.out.bel (show w.heap.size ≤ (⟨w.heap.size + 1, 0, none⟩ : Addr).block by simp) (.slice A m c)) (show w.heap.size ≤ (⟨w.heap.size + 1 + 1, 0, none⟩ : Addr).block by simp; omega) (.int .i64 0))
    have CK := HH (fun (b : Nat) (hb : w2.heap.size ≤ b) => (Below.heap_setCell (W.setCell ⟨w.heap.size + 1, 0, none⟩ (.slice A m c)) ⟨w.heap.size + 1 + 1, 0, none⟩ (.int .i64 0) b (by simp; omega)).trans (Below.heap_setCell W ⟨w.heap.size + 1, 0, none⟩ (.slice A m c) b (by simp; omega)))
    have CS : Hid (((W.setCell ⟨w.heap.size + 1, 0, none⟩ (.slice A m c)).setCell ⟨w.heap.size + 1 + 1, 0, none⟩ (.int .i64 0)).heap.size = W.heap.size) := HH (by simp [World.setCell])
    generalize (W.setCell ⟨w.heap.size + 1, 0, none⟩ (.slice A m c)).setCell ⟨w.heap.size + 1 + 1, 0, none⟩ (.int .i64 0) = Wf at *
    have hKf := (CK.out D hD).trans HK.out
    have hgf := grownBy_putObj' Wf D (.deferred none)
    have hrf : ∀ r, some D = some r → ∃ o : Obj, Wf.heap[r]? = some o ∧ o.isCells = false := fun r e => by cases e; exact ⟨_, hKf, rfl⟩
    refine ⟨by simp, .inl ⟨_, _, rfl, run_takeDeferred hKf, ?_⟩⟩
    refine ⟨_, al_read rfl rfl (blk_grown C2.out hgf hrf) (blk_grown C3.out hgf hrf), ?_⟩
    refine .inl ⟨HF.out, A, c, ss, by rw [← HM.out], HH ?_, HH ?_, HH (CB.out.trans (belowK_b (w := w) (Nat.le_refl _) Wf D _ _ (by have := B2w.out.size; omega) hKf rfl rfl))⟩
    · exact (rd_grown (HRD.out.keep fun b hb => CK.out b hb.1) hgf hrf).more fun b hb => by have := hb.2; have := CS.out; have := hgf.size; omega
    · exact HRN.out.map fun A0 xs h0 => (rd_grown (h0.keep fun b hb => CK.out b hb.1) hgf hrf).more fun b hb => by have := hb.2.1; have := CS.out; have := hgf.size; omega
  case stop =>
    intro D W hD hI hK
    have hgf := grownBy_putObj' W D (.deferred none)
    have hrf : ∀ r, some D = some r → ∃ o : Obj, W.heap[r]? = some o ∧ o.isCells = false := fun r e => by cases e; exact ⟨_, hK, rfl⟩
    gi_wp2
    refine ⟨by simp, .inl ⟨_, _, rfl, run_takeDeferred hK, ?_⟩⟩
    refine ⟨_, al_read rfl rfl (blk_grown hI.1 hgf hrf) (blk_grown hI.2.1 hgf hrf), ?_⟩
    exact .inr ⟨hI.2.2.1, rfl, hI.2.2.2.trans (belowK_b (w := w) (Nat.le_refl _) W D _ _ (by have := B2w.out.size; omega) hK rfl rfl)⟩
theorem all_bad (x : WorldM) (p : WoA) (w : World) (h : Wo w (· < w.heap.size) x p) (hl : WLt x) (he : (wrongW x).err ≠ 0) : Calls Tryz.prog 11 #[woQ x p] w (fun e w' => e = .returned (.tuple #[.slice none 0 0, .int .i64 2]) ∧ Below w.heap.size w w') := by
  have HM : Hid (∀ w', Below w.heap.size w w' → Calls Tryz.prog 29 #[woQ x p] w' (BPost w' false)) := HH (fun w' hb => by have := maybe_any x p w' (h.later hb) hl; rw [decide_eq_false he] at this; exact this)
  clear h
  refine (callsIn_wide (n := 6)).1 ?_
  refine callsIn_of_wp_marks Tryz.func11 rfl trivial ?_ rfl
  simp only [Tryz.ntmps11, List.size_toArray, List.length_cons, List.length_nil, Nat.reduceAdd, Nat.reduceSub, Array.replicate_succ, Array.replicate_zero, List.push_toArray, List.append_toArray, List.nil_append, List.cons_append]
  gi_wp2_with (refine ⟨trivial, ?_⟩; gi_at_call 29; refine (callsIn_wide.2 (HM.out _ (box3b _ _ _ _))).mono ?_; rintro e w1 ⟨rfl, hb⟩; have HB1 := HH (keep_trans (box3b _ _ _ _) hb); have K21 := HH ((blk2b w (.cells (woL x p).toArray 37) (.cells #[.int .i64 0] 25) 39 [.slice none 0 0]).after hb); have K31 := HH ((blk3b w (.cells (woL x p).toArray 37) (.cells #[.slice none 0 0] 39) 25 [.int .i64 0]).after hb); have b20 : w1.cell? ⟨w.heap.size + 1, 0, none⟩ = some (.slice none 0 0) := K21.out.cell 0; have b21 : w1.frozen? ⟨w.heap.size + 1, 0, none⟩ = false := K21.out.frozen 0; have b30 : w1.cell? ⟨w.heap.size + 1 + 1, 0, none⟩ = some (.int .i64 0) := K31.out.cell 0; have b31 : w1.frozen? ⟨w.heap.size + 1 + 1, 0, none⟩ = false := K31.out.frozen 0; clear hb)
  have C2 := HH ((K21.out.set_ 0 (.slice none 0 0)).far (p := ⟨w.heap.size + 1 + 1, 0, none⟩) (by simp) (.int .i64 2))
  have C3 := HH ((K31.out.far (p := ⟨w.heap.size + 1, 0, none⟩) (by simp) (.slice none 0 0)).set_ 0 (.int .i64 2))
  have CB := HH (below_set (below_set HB1.out (show w.heap.size ≤ (⟨w.heap.size + 1, 0, none⟩ : Addr).block by simp) (.slice none 0 0)) (show w.heap.size ≤ (⟨w.heap.size + 1 + 1, 0, none⟩ : Addr).block by simp; omega) (.int .i64 2))
  exact ⟨_, al_read rfl rfl C2.out C3.out, rfl, CB.out⟩
end Go.Proofs.YtfefnfifeaihhaaGreat.Wo
