/- Comparing routes that are the same, proved by walking the texts. Conditions: at most a million things. · Comparing sheets that are the same, proved by walking the texts. Conditions: at most a million things. · Comparing sheets that are the same, proved by walking the texts. Conditions: at most a million things. -/
import Derived.Test.YtcmlmfcnbmpajaaGreatDoorSameA
import Derived.Test.YtcmlmfcnbmpajaaGreatDoorEachB
import Derived.Test.YtcmlmfcnbmpajaaGreatDoorSheetCheck
namespace Go.Proofs.YtcmlmfcnbmpajaaGreatDoor.Sh
open Go.ChangeShapes Go.WideShapes Go.ChangeAt Go.RowKit
open Lx
set_option linter.unusedVariables false
set_option linter.unusedSimpArgs false

theorem Blk.new2 (w : World) (o : Obj) (t : TypeId) (l : List Value) : Blk ((w.alloc o).alloc (.cells l.toArray t)) (w.heap.size + 1) t l := by
  have := Blk.new (w.alloc o) t l
  simpa using this

set_option maxRecDepth 100000 in
set_option maxHeartbeats 1000000 in
theorem kroute_any (r : RouteM) (sa ra ya sb rb yb : Option Addr) (sc rc yc sd rd yd : Nat) (w : World) (h : RtAt w (· < w.heap.size) r sa ra ya) (g : RtAt w (· < w.heap.size) r sb rb yb) (hf : Few r) : Calls Tryz.prog 67 #[rtV r sa ra ya sc rc yc, rtV r sb rb yb sd rd yd] w (BPost w true) := by
  obtain ⟨nm, st, ri, sy⟩ := r
  obtain ⟨f1, f2, f3⟩ := hf
  dsimp only at f1 f2 f3
  have H1 := Lib.hid (fun w' (hb : Below w.heap.size w w') => same_str w' sa sb st.length sc sd st (Lib.hid rfl) f1 (rd_later h.hs hb) (rd_later g.hs hb))
  have H2 := Lib.hid (fun w' (hb : Below w.heap.size w w') => same_int w' ra rb ri.length rc rd ri (Lib.hid rfl) f2 (rd_later h.hr hb) (rd_later g.hr hb))
  have H3 := Lib.hid (fun w' (hb : Below w.heap.size w w') => same_int w' ya yb sy.length yc yd sy (Lib.hid rfl) f3 (rd_later h.hy hb) (rd_later g.hy hb))
  clear h g
  show Calls _ _ #[.agg #[.string ⟨nm.toArray⟩, .slice sa st.length sc, .slice ra ri.length rc, .slice ya sy.length yc], .agg #[.string ⟨nm.toArray⟩, .slice sb st.length sd, .slice rb ri.length rd, .slice yb sy.length yd]] _ _
  generalize st.length = n1 at *
  generalize ri.length = n2 at *
  generalize sy.length = n3 at *
  go_enter Tryz.func67, Tryz.ntmps67
  go_wp2_with (first
    | (go_at_call 94; (with_reducible refine (H3.out _ HB2.out).mono ?_); rintro e' w3 ⟨rfl, hb⟩; have HB3 := Lib.hid (keep_trans HB2.out hb); clear hb)
    | (go_at_call 94; (with_reducible refine (H2.out _ HB1.out).mono ?_); rintro e' w2 ⟨rfl, hb⟩; have HB2 := Lib.hid (keep_trans HB1.out hb); have HA2 := Lib.hid (HA1.out.after hb); have HC2 := Lib.hid (HC1.out.after hb); have k2a2 : w2.cell? ⟨w.heap.size, 2, none⟩ = some (.slice ra n2 rc) := HA2.out.cell 2; have k2b2 : w2.cell? ⟨w.heap.size + 1, 2, none⟩ = some (.slice rb n2 rd) := HC2.out.cell 2; have k2a3 : w2.cell? ⟨w.heap.size, 3, none⟩ = some (.slice ya n3 yc) := HA2.out.cell 3; have k2b3 : w2.cell? ⟨w.heap.size + 1, 3, none⟩ = some (.slice yb n3 yd) := HC2.out.cell 3; clear hb)
    | (go_at_call 14; (with_reducible refine (H1.out _ (two_box _ _ _)).mono ?_); rintro e' w1 ⟨rfl, hb⟩; have HB1 := Lib.hid (keep_trans (two_box w _ _) hb); have HA1 := Lib.hid (((Blk.new w 38 [.string ⟨nm.toArray⟩, .slice sa n1 sc, .slice ra n2 rc, .slice ya n3 yc]).alloc _).after hb); have HC1 := Lib.hid ((Blk.new2 w _ 38 [.string ⟨nm.toArray⟩, .slice sb n1 sd, .slice rb n2 rd, .slice yb n3 yd]).after hb); have k1a2 : w1.cell? ⟨w.heap.size, 2, none⟩ = some (.slice ra n2 rc) := HA1.out.cell 2; have k1b2 : w1.cell? ⟨w.heap.size + 1, 2, none⟩ = some (.slice rb n2 rd) := HC1.out.cell 2; have k1a3 : w1.cell? ⟨w.heap.size, 3, none⟩ = some (.slice ya n3 yc) := HA1.out.cell 3; have k1b3 : w1.cell? ⟨w.heap.size + 1, 3, none⟩ = some (.slice yb n3 yd) := HC1.out.cell 3; clear hb))
  go_ret
  exact ⟨rfl, HB3.out⟩

end Go.Proofs.YtcmlmfcnbmpajaaGreatDoor.Sh
namespace Go.Proofs.YtcmlmfcnbmpajaaGreatDoor.Sh
open Go.ChangeShapes Go.WideShapes Go.ChangeAt Go.RowKit
open Lx
set_option linter.unusedVariables false
set_option linter.unusedSimpArgs false

end Go.Proofs.YtcmlmfcnbmpajaaGreatDoor.Sh
namespace Go.Proofs.YtcmlmfcnbmpajaaGreatDoor.Sh
open Go.ChangeShapes Go.WideShapes Go.ChangeAt Go.RowKit
open Lx
set_option linter.unusedVariables false
set_option linter.unusedSimpArgs false

set_option maxRecDepth 100000 in
set_option maxHeartbeats 2000000 in
theorem ksheet_any (x : SheetM) (p q : ShA) (w : World) (h : Sh w (· < w.heap.size) x p) (g : Sh w (· < w.heap.size) x q) (hf : ShFew x) : Calls Tryz.prog 27 #[shV x p, shV x q] w (BPost w true) := by
  obtain ⟨r1, r2, r3, ⟨cr, r4, r4'⟩, r5, r6⟩ := h
  obtain ⟨g1, g2, g3, ⟨cg, g4, g4'⟩, g5, g6⟩ := g
  obtain ⟨l1, l2, l3, l4, l5, l6, lr⟩ := hf
  obtain ⟨hz, st, pa, dos, ro, tr, ha⟩ := x
  obtain ⟨a1, a2, a3, a4, a5, a6, c1, c2, c3, c4, c5, c6⟩ := p
  obtain ⟨b1, b2, b3, b4, b5, b6, d1, d2, d3, d4, d5, d6⟩ := q
  dsimp only at r1 r2 r3 r4 r4' r5 r6 g1 g2 g3 g4 g4' g5 g6 l1 l2 l3 l4 l5 l6 lr
  have H1 := Lib.hid (fun w' (hb : Below w.heap.size w w') => same_str w' a1 b1 st.length c1 d1 st (Lib.hid rfl) l1 (rd_later r1 hb) (rd_later g1 hb))
  have H2 := Lib.hid (fun w' (hb : Below w.heap.size w w') => same_path w' a2 b2 pa.length c2 d2 pa (Lib.hid rfl) l2 (rd_later r2 hb) (rd_later g2 hb))
  have H3 := Lib.hid (fun w' (hb : Below w.heap.size w w') => same_door w' a3 b3 dos.length c3 d3 dos (Lib.hid rfl) l3 (rd_later r3 hb) (rd_later g3 hb))
  have H5 := Lib.hid (fun w' (hb : Below w.heap.size w w') => same_trip w' a5 b5 tr.length c5 d5 tr (Lib.hid rfl) l5 (rd_later r5 hb) (rd_later g5 hb))
  have H6 := Lib.hid (fun w' (hb : Below w.heap.size w w') => same_haz w' a6 b6 ha.length c6 d6 ha (Lib.hid rfl) l6 (rd_later r6 hb) (rd_later g6 hb))
  have HX := Lib.hid r4
  have HY := Lib.hid g4
  have HR := Lib.hid r4'
  have HS := Lib.hid g4'
  have HW := Lib.hid lr
  obtain ⟨n4, hn4⟩ : ∃ n, n = ro.length := ⟨_, rfl⟩
  rw [← hn4] at l4
  have hn := Lib.hid hn4
  clear r1 r2 r3 r4 r4' r5 r6 g1 g2 g3 g4 g4' g5 g6 l1 l2 l3 l5 l6 lr
  show Calls _ _ #[.agg #[.int .i64 hz, .slice a1 st.length c1, .slice a2 pa.length c2, .slice a3 dos.length c3, .slice a4 ro.length c4, .slice a5 tr.length c5, .slice a6 ha.length c6], .agg #[.int .i64 hz, .slice b1 st.length d1, .slice b2 pa.length d2, .slice b3 dos.length d3, .slice b4 ro.length d4, .slice b5 tr.length d5, .slice b6 ha.length d6]] _ _
  rw [← hn4]
  clear hn4
  generalize st.length = n1 at *
  generalize pa.length = n2 at *
  generalize dos.length = n3 at *
  generalize tr.length = n5 at *
  generalize ha.length = n6 at *
  go_enter Tryz.func27, Tryz.ntmps27
  go_wp2_with (first
    | (go_at_call 14; (with_reducible refine (H1.out _ (two_box _ _ _)).mono ?_); rintro e' w1 ⟨rfl, hb⟩; have HB1 := Lib.hid (keep_trans (two_box w _ _) hb); have HA1 := Lib.hid (((Blk.new w 29 [.int .i64 hz, .slice a1 n1 c1, .slice a2 n2 c2, .slice a3 n3 c3, .slice a4 n4 c4, .slice a5 n5 c5, .slice a6 n6 c6]).alloc _).after hb); have HC1 := Lib.hid ((Blk.new2 w _ 29 [.int .i64 hz, .slice b1 n1 d1, .slice b2 n2 d2, .slice b3 n3 d3, .slice b4 n4 d4, .slice b5 n5 d5, .slice b6 n6 d6]).after hb); have ka1_2 : w1.cell? ⟨w.heap.size, 2, none⟩ = some (.slice a2 n2 c2) := HA1.out.cell 2; have kb1_2 : w1.cell? ⟨w.heap.size + 1, 2, none⟩ = some (.slice b2 n2 d2) := HC1.out.cell 2; clear hb)
    | (go_at_call 63; (with_reducible refine (H2.out _ HB1.out).mono ?_); rintro e' w2 ⟨rfl, hb⟩; have HB2 := Lib.hid (keep_trans HB1.out hb); have HA2 := Lib.hid (HA1.out.after hb); have HC2 := Lib.hid (HC1.out.after hb); have ka2_3 : w2.cell? ⟨w.heap.size, 3, none⟩ = some (.slice a3 n3 c3) := HA2.out.cell 3; have kb2_3 : w2.cell? ⟨w.heap.size + 1, 3, none⟩ = some (.slice b3 n3 d3) := HC2.out.cell 3; clear hb)
    | (go_at_call 64; (with_reducible refine (H3.out _ HB2.out).mono ?_); rintro e' w3 ⟨rfl, hb⟩; have HB3 := Lib.hid (keep_trans HB2.out hb); have HA3 := Lib.hid (HA2.out.after hb); have HC3 := Lib.hid (HC2.out.after hb); have ka3_5 : w3.cell? ⟨w.heap.size, 5, none⟩ = some (.slice a5 n5 c5) := HA3.out.cell 5; have kb3_5 : w3.cell? ⟨w.heap.size + 1, 5, none⟩ = some (.slice b5 n5 d5) := HC3.out.cell 5; clear hb)
    | (go_at_call 65; (with_reducible refine (H5.out _ HB3.out).mono ?_); rintro e' w4 ⟨rfl, hb⟩; have HB4 := Lib.hid (keep_trans HB3.out hb); have HA4 := Lib.hid (HA3.out.after hb); have HC4 := Lib.hid (HC3.out.after hb); have ka4_6 : w4.cell? ⟨w.heap.size, 6, none⟩ = some (.slice a6 n6 c6) := HA4.out.cell 6; have kb4_6 : w4.cell? ⟨w.heap.size + 1, 6, none⟩ = some (.slice b6 n6 d6) := HC4.out.cell 6; clear hb)
    | (go_at_call 66; (with_reducible refine (H6.out _ HB4.out).mono ?_); rintro e' w5 ⟨rfl, hb⟩; have HB5 := Lib.hid (keep_trans HB4.out hb); have HA5 := Lib.hid (HA4.out.after hb); have HC5 := Lib.hid (HC4.out.after hb); have ka5_4 : w5.cell? ⟨w.heap.size, 4, none⟩ = some (.slice a4 n4 c4) := HA5.out.cell 4; have kb5_4 : w5.cell? ⟨w.heap.size + 1, 4, none⟩ = some (.slice b4 n4 d4) := HC5.out.cell 4; clear hb))
  go_loopw [5] (fun v wr => ∃ k : Nat, v = .int .i64 k ∧ k ≤ n4 ∧ Hid (Below w.heap.size w wr) ∧ Hid (Blk wr w.heap.size 29 [.int .i64 hz, .slice a1 n1 c1, .slice a2 n2 c2, .slice a3 n3 c3, .slice a4 n4 c4, .slice a5 n5 c5, .slice a6 n6 c6]) ∧ Hid (Blk wr (w.heap.size + 1) 29 [.int .i64 hz, .slice b1 n1 d1, .slice b2 n2 d2, .slice b3 n3 d3, .slice b4 n4 d4, .slice b5 n5 d5, .slice b6 n6 d6])) (fun v _ => n4 - (intOf v).toNat)
  case atStart => exact ⟨0, rfl, by omega, HB5, HA5, HC5⟩
  case round =>
    obtain ⟨k, rfl, hk, HB, HA, HC⟩ := hrel
    have e4 : wr.cell? ⟨w.heap.size, 4, none⟩ = some (.slice a4 n4 c4) := HA.out.cell 4
    have f4 : wr.cell? ⟨w.heap.size + 1, 4, none⟩ = some (.slice b4 n4 d4) := HC.out.cell 4
    by_cases hlt : k < n4
    · obtain ⟨a, ha⟩ := at_in ro hn hlt
      obtain ⟨ad, rfl, hA, sa, sc, ra, rc, ya, yc, x0, x1, x2, x3, ga⟩ := rts_at (rd_later HX.out HB.out) (HR.out.later HB.out) ha
      obtain ⟨bd, rfl, hB, sb, sd, rb, rd, yb, yd, y0, y1, y2, y3, gb⟩ := rts_at (rd_later HY.out HB.out) (HS.out.later HB.out) ha
      have HG : ∀ w', Below wr.heap.size wr w' → Calls Tryz.prog 67 #[rtV a sa ra ya sc rc yc, rtV a sb rb yb sd rd yd] w' (BPost w' true) := fun w' hb => kroute_any a sa ra ya sb rb yb sc rc yc sd rd yd w' (ga.later hb) (gb.later hb) (HW.out a (List.mem_of_getElem? ha))
      obtain ⟨nm, ts, ri, sy⟩ := a
      dsimp only at x0 x1 x2 x3 y0 y1 y2 y3 HG
      simp only [rtV] at HG
      clear ga gb ha
      generalize ts.length = m1 at *
      generalize ri.length = m2 at *
      generalize sy.length = m3 at *
      have HGG := Lib.hid HG
      have hi : (k : Int) < (n4 : Int) := by omega
      clear HG
      go_wp2
      go_region_with (go_at_call 67; (with_reducible refine (HGG.out _ ?_).mono ?_); (first | exact Below.refl _ _ | exact below_drew (Below.refl _ _) | exact two_box _ _ _ | exact one_box _ _); rintro e w9 ⟨rfl, hb⟩; have HB2 : Hid (Below wr.heap.size wr w9) := Lib.hid (by first | exact hb | exact keep_trans (below_drew (Below.refl _ _)) hb); clear hb)
      all_goals go_wp2
      all_goals (go_roundw; (case rel => exact ⟨k + 1, by go_num, by omega, Lib.hid (keep_trans HB.out HB2.out), Lib.hid (HA.out.after HB2.out), Lib.hid (HC.out.after HB2.out)⟩); (case measure => simp [intOf]; omega))
    · go_wp2
      go_ret
      exact ⟨rfl, HB.out⟩

end Go.Proofs.YtcmlmfcnbmpajaaGreatDoor.Sh

