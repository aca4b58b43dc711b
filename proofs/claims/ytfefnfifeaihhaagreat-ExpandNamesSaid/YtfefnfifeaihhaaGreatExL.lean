/- Package expand: One, walked. Conditions: the world is light (WLt). -/
import Derived.Test.YtfefnfifeaihhaaGreatExJ
set_option linter.unusedVariables false
set_option linter.unusedSimpArgs false
set_option maxHeartbeats 4000000
set_option maxRecDepth 100000
namespace Go.Proofs.YtfefnfifeaihhaaGreat.Wo
open Go.ChangeShapes Go.WideShapes Go.ChangeAt Go.RowKit Go.Maps
open Lx Sh
theorem on_read {W : World} {n0 : Nat} {b0 b1 b2 b3 z : Value} {tmps : Array Value} (h2 : tmps[6]? = some (.pointer (some ⟨n0, 0, none⟩))) (h3 : tmps[7]? = some z) (k1 : Blk W n0 24 [b0, b1, b2, b3]) :
    (results Tryz.f9 tmps).run Tryz.prog W = .ok (.tuple #[.agg #[b0, b1, b2, b3], z]) W := by
  have x0 : W.cell? ⟨n0, 0, none⟩ = some b0 := k1.cell 0
  have x1 : W.cell? ⟨n0, 1, none⟩ = some b1 := k1.cell 1
  have x2 : W.cell? ⟨n0, 2, none⟩ = some b2 := k1.cell 2
  have x3 : W.cell? ⟨n0, 3, none⟩ = some b3 := k1.cell 3
  simp [results, Tryz.results9, go_sem, h2, h3, x0, x1, x2, x3]
/-- a run of n stops that is told, in rows of its own -/
def RunOk (w : World) (tr no : Int) (n : Nat) (a d : List Int) (e : Ending) (w' : World) : Prop := ∃ (A B : Option Addr) (c c' : Nat), e = .returned (.tuple #[.agg #[.int .i64 tr, .int .i64 no, .slice A n c, .slice B n c'], .int .i64 0]) ∧ Hid (Fr w' w.heap.size A (cs intC a)) ∧ Hid (Fr w' w.heap.size B (cs intC d)) ∧ Hid (Below w.heap.size w w')
theorem one_bad (x : WorldM) (p : WoA) (w : World) (h : Wo w (· < w.heap.size) x p) (hl : WLt x) (i no : Int) (he : (wrongW x).err ≠ 0) : Calls Tryz.prog 9 #[woQ x p, .int .i64 i, .int .i64 no] w (LaNo w 2) := by
  have HM : Hid (∀ w', Below w.heap.size w w' → Calls Tryz.prog 29 #[woQ x p] w' (BPost w' (decide ((wrongW x).err = 0)))) := HH (fun w' hb => maybe_any x p w' (h.later hb) hl)
  rw [decide_eq_false he] at HM
  clear h hl he
  go_enter Tryz.func9, Tryz.ntmps9
  go_wp2_with (go_at_call 29; (with_reducible refine (HM.out _ ?q).mono ?_); (case q => exact two_box _ _ _); rintro e w1 ⟨rfl, hb⟩; have HB1 := HH (keep_trans (two_box _ _ _) hb); have K1 : Hid (Blk w1 (w.heap.size + 1) 24 [.int .i64 0, .int .i64 0, .slice none 0 0, .slice none 0 0]) := HH ((Blk.new2 w (.cells (woL x p).toArray 37) 24 [.int .i64 0, .int .i64 0, .slice none 0 0, .slice none 0 0]).after hb); obtain ⟨z0, z1, z2, z3, z4, z5, z6, z7, z8, z9, z10, z11⟩ := wo_cells (((Blk.new w 37 (woL x p)).alloc (.cells #[.int .i64 0, .int .i64 0, .slice none 0 0, .slice none 0 0] 24)).after hb); clear hb; have t0 : w1.cell? ⟨w.heap.size + 1, 0, none⟩ = some (.int .i64 0) := K1.out.cell 0; have t1 : w1.cell? ⟨w.heap.size + 1, 1, none⟩ = some (.int .i64 0) := K1.out.cell 1; have t2 : w1.cell? ⟨w.heap.size + 1, 2, none⟩ = some (.slice none 0 0) := K1.out.cell 2; have t3 : w1.cell? ⟨w.heap.size + 1, 3, none⟩ = some (.slice none 0 0) := K1.out.cell 3; have r0 : w1.frozen? ⟨w.heap.size + 1, 0, none⟩ = false := K1.out.frozen 0; have r1 : w1.frozen? ⟨w.heap.size + 1, 1, none⟩ = false := K1.out.frozen 1; have r2 : w1.frozen? ⟨w.heap.size + 1, 2, none⟩ = false := K1.out.frozen 2; have r3 : w1.frozen? ⟨w.heap.size + 1, 3, none⟩ = false := K1.out.frozen 3)
  exact bodyPost_ret (on_read rfl rfl ((((K1.out.set_ 0 (.int .i64 0)).set_ 1 (.int .i64 0)).set_ 2 (.slice none 0 0)).set_ 3 (.slice none 0 0))) rfl ⟨rfl, la_st HB1.out⟩
theorem one_none (x : WorldM) (p : WoA) (w : World) (h : Wo w (· < w.heap.size) x p) (hl : WLt x) (i no : Int) (he : (wrongW x).err = 0) (hrow : rowW x i = none) : Calls Tryz.prog 9 #[woQ x p, .int .i64 i, .int .i64 no] w (LaNo w 5) := by
  have HM : Hid (∀ w', Below w.heap.size w w' → Calls Tryz.prog 29 #[woQ x p] w' (BPost w' (decide ((wrongW x).err = 0)))) := HH (fun w' hb => maybe_any x p w' (h.later hb) hl)
  have HR : Hid (∀ w', Below w.heap.size w w' → Calls Tryz.prog 30 #[woQ x p, .int .i64 i] w' (RoAny w.heap.size w' x i)) := HH (fun w' hb => rowOf_both x p w.heap.size w' (h.keep fun b hl => hb.block b hl) hb.size hl (goodw he) i)
  rw [decide_eq_true he] at HM
  unfold RoAny at HR
  rw [hrow] at HR
  clear h hl he hrow
  have hh : hasB 0 no = false := by unfold hasB; by_cases h0 : 0 ≤ no <;> simp [h0] <;> omega
  have HHas : Hid (∀ w', Calls Tryz.prog 31 #[.agg #[.int .i64 0, .nilFunc], .int .i64 no] w' (fun e w'' => e = .returned (.bool false) ∧ Below w'.heap.size w' w'')) := HH (fun w' => by have := has_any w' 0 no .nilFunc; rw [hh] at this; exact this)
  clear hh
  go_enter Tryz.func9, Tryz.ntmps9
  go_wp2_with (first
    | (go_at_call 29; (with_reducible refine (HM.out _ ?q).mono ?_); (case q => exact two_box _ _ _); rintro e w1 ⟨rfl, hb⟩; have HB1 := HH (keep_trans (two_box _ _ _) hb); have K1 : Hid (Blk w1 (w.heap.size + 1) 24 [.int .i64 0, .int .i64 0, .slice none 0 0, .slice none 0 0]) := HH ((Blk.new2 w (.cells (woL x p).toArray 37) 24 [.int .i64 0, .int .i64 0, .slice none 0 0, .slice none 0 0]).after hb); obtain ⟨z0, z1, z2, z3, z4, z5, z6, z7, z8, z9, z10, z11⟩ := wo_cells (((Blk.new w 37 (woL x p)).alloc (.cells #[.int .i64 0, .int .i64 0, .slice none 0 0, .slice none 0 0] 24)).after hb); clear hb)
    | (go_at_call 30; (with_reducible refine (HR.out _ HB1.out).mono ?_); rintro e w2 ⟨rfl, hb2⟩; have HB2 := HH (keep_trans HB1.out hb2); have K2 := HH (K1.out.after hb2); clear hb2)
    | (go_at_call 31; (with_reducible refine (HHas.out _).mono ?_); rintro e w3 ⟨rfl, hb3⟩; have hb3 := keep_trans (one_box _ _) hb3; have HB3 := HH (keep_trans HB2.out hb3); have K3 := HH (K2.out.after hb3); clear hb3; have t0 : w3.cell? ⟨w.heap.size + 1, 0, none⟩ = some (.int .i64 0) := K3.out.cell 0; have t1 : w3.cell? ⟨w.heap.size + 1, 1, none⟩ = some (.int .i64 0) := K3.out.cell 1; have t2 : w3.cell? ⟨w.heap.size + 1, 2, none⟩ = some (.slice none 0 0) := K3.out.cell 2; have t3 : w3.cell? ⟨w.heap.size + 1, 3, none⟩ = some (.slice none 0 0) := K3.out.cell 3; have r0 : w3.frozen? ⟨w.heap.size + 1, 0, none⟩ = false := K3.out.frozen 0; have r1 : w3.frozen? ⟨w.heap.size + 1, 1, none⟩ = false := K3.out.frozen 1; have r2 : w3.frozen? ⟨w.heap.size + 1, 2, none⟩ = false := K3.out.frozen 2; have r3 : w3.frozen? ⟨w.heap.size + 1, 3, none⟩ = false := K3.out.frozen 3))
  exact bodyPost_ret (on_read rfl rfl ((((K3.out.set_ 0 (.int .i64 0)).set_ 1 (.int .i64 0)).set_ 2 (.slice none 0 0)).set_ 3 (.slice none 0 0))) rfl ⟨rfl, la_st HB3.out⟩
theorem one_over (x : WorldM) (p : WoA) (w : World) (h : Wo w (· < w.heap.size) x p) (hl : WLt x) (i no : Int) (he : (wrongW x).err = 0) (t : TripO) (r : RouteO) (hrow : rowW x i = some (t, r)) (hh : hasB (cntT x.horizon r t) no = false) : Calls Tryz.prog 9 #[woQ x p, .int .i64 i, .int .i64 no] w (LaNo w 5) := by
  have HM : Hid (∀ w', Below w.heap.size w w' → Calls Tryz.prog 29 #[woQ x p] w' (BPost w' (decide ((wrongW x).err = 0)))) := HH (fun w' hb => maybe_any x p w' (h.later hb) hl)
  have HR : Hid (∀ w', Below w.heap.size w w' → Calls Tryz.prog 30 #[woQ x p, .int .i64 i] w' (RoAny w.heap.size w' x i)) := HH (fun w' hb => rowOf_both x p w.heap.size w' (h.keep fun b hl => hb.block b hl) hb.size hl (goodw he) i)
  rw [decide_eq_true he] at HM
  unfold RoAny at HR
  rw [hrow] at HR
  clear h hl he hrow
  have HHas : Hid (∀ w' f, Calls Tryz.prog 31 #[.agg #[.int .i64 (cntT x.horizon r t), f], .int .i64 no] w' (fun e w'' => e = .returned (.bool false) ∧ Below w'.heap.size w' w'')) := HH (fun w' f => by have := has_any w' (cntT x.horizon r t) no f; rw [hh] at this; exact this)
  clear hh
  go_enter Tryz.func9, Tryz.ntmps9
  go_wp2_with (first
    | (go_at_call 29; (with_reducible refine (HM.out _ ?q).mono ?_); (case q => exact two_box _ _ _); rintro e w1 ⟨rfl, hb⟩; have HB1 := HH (keep_trans (two_box _ _ _) hb); have K1 : Hid (Blk w1 (w.heap.size + 1) 24 [.int .i64 0, .int .i64 0, .slice none 0 0, .slice none 0 0]) := HH ((Blk.new2 w (.cells (woL x p).toArray 37) 24 [.int .i64 0, .int .i64 0, .slice none 0 0, .slice none 0 0]).after hb); obtain ⟨z0, z1, z2, z3, z4, z5, z6, z7, z8, z9, z10, z11⟩ := wo_cells (((Blk.new w 37 (woL x p)).alloc (.cells #[.int .i64 0, .int .i64 0, .slice none 0 0, .slice none 0 0] 24)).after hb); clear hb)
    | (go_at_call 30; (with_reducible refine (HR.out _ HB1.out).mono ?_); rintro e w2 ⟨T, F, I, rfl, hRA, hb2⟩; have HB2 := HH (keep_trans HB1.out hb2.out); have K2 := HH (K1.out.after hb2.out); clear hb2)
    | (go_at_call 31; (with_reducible refine (HHas.out _ _).mono ?_); rintro e w3 ⟨rfl, hb3⟩; have hb3 := keep_trans (one_box _ _) hb3; have HB3 := HH (keep_trans HB2.out hb3); have K3 := HH (K2.out.after hb3); clear hb3; have t0 : w3.cell? ⟨w.heap.size + 1, 0, none⟩ = some (.int .i64 0) := K3.out.cell 0; have t1 : w3.cell? ⟨w.heap.size + 1, 1, none⟩ = some (.int .i64 0) := K3.out.cell 1; have t2 : w3.cell? ⟨w.heap.size + 1, 2, none⟩ = some (.slice none 0 0) := K3.out.cell 2; have t3 : w3.cell? ⟨w.heap.size + 1, 3, none⟩ = some (.slice none 0 0) := K3.out.cell 3; have r0 : w3.frozen? ⟨w.heap.size + 1, 0, none⟩ = false := K3.out.frozen 0; have r1 : w3.frozen? ⟨w.heap.size + 1, 1, none⟩ = false := K3.out.frozen 1; have r2 : w3.frozen? ⟨w.heap.size + 1, 2, none⟩ = false := K3.out.frozen 2; have r3 : w3.frozen? ⟨w.heap.size + 1, 3, none⟩ = false := K3.out.frozen 3))
  exact bodyPost_ret (on_read rfl rfl ((((K3.out.set_ 0 (.int .i64 0)).set_ 1 (.int .i64 0)).set_ 2 (.slice none 0 0)).set_ 3 (.slice none 0 0))) rfl ⟨rfl, la_st HB3.out⟩
theorem one_ok (x : WorldM) (p : WoA) (w : World) (h : Wo w (· < w.heap.size) x p) (hl : WLt x) (i no : Int) (he : (wrongW x).err = 0) (t : TripO) (r : RouteO) (hrow : rowW x i = some (t, r)) (hno : no ≤ 9223372036854775807) (hh : hasB (cntT x.horizon r t) no = true) : Calls Tryz.prog 9 #[woQ x p, .int .i64 i, .int .i64 no] w (RunOk w i no (r.rides.length + 1) (arrT r.rides r.stays (Tk.atV t.frm t.every no) r.rides.length) (depT r.rides r.stays (Tk.atV t.frm t.every no) r.rides.length)) := by
  have HM : Hid (∀ w', Below w.heap.size w w' → Calls Tryz.prog 29 #[woQ x p] w' (BPost w' (decide ((wrongW x).err = 0)))) := HH (fun w' hb => maybe_any x p w' (h.later hb) hl)
  have HR : Hid (∀ w', Below w.heap.size w w' → Calls Tryz.prog 30 #[woQ x p, .int .i64 i] w' (RoAny w.heap.size w' x i)) := HH (fun w' hb => rowOf_both x p w.heap.size w' (h.keep fun b hl => hb.block b hl) hb.size hl (goodw he) i)
  rw [decide_eq_true he] at HM
  unfold RoAny at HR
  rw [hrow] at HR
  clear h hl he hrow
  have HHas : Hid (∀ w' f, Calls Tryz.prog 31 #[.agg #[.int .i64 (cntT x.horizon r t), f], .int .i64 no] w' (fun e w'' => e = .returned (.bool true) ∧ Below w'.heap.size w' w'')) := HH (fun w' f => by have := has_any w' (cntT x.horizon r t) no f; rw [hh] at this; exact this)
  clear hh
  go_enter Tryz.func9, Tryz.ntmps9
  go_wp2_with (first
    | (go_at_call 29; (with_reducible refine (HM.out _ ?q).mono ?_); (case q => exact two_box _ _ _); rintro e w1 ⟨rfl, hb⟩; have HB1 := HH (keep_trans (two_box _ _ _) hb); have K1 : Hid (Blk w1 (w.heap.size + 1) 24 [.int .i64 0, .int .i64 0, .slice none 0 0, .slice none 0 0]) := HH ((Blk.new2 w (.cells (woL x p).toArray 37) 24 [.int .i64 0, .int .i64 0, .slice none 0 0, .slice none 0 0]).after hb); obtain ⟨z0, z1, z2, z3, z4, z5, z6, z7, z8, z9, z10, z11⟩ := wo_cells (((Blk.new w 37 (woL x p)).alloc (.cells #[.int .i64 0, .int .i64 0, .slice none 0 0, .slice none 0 0] 24)).after hb); clear hb)
    | (go_at_call 30; (with_reducible refine (HR.out _ HB1.out).mono ?_); rintro e w2 ⟨T, F, I, rfl, hRA, hb2⟩; have HB2 := HH (keep_trans HB1.out hb2.out); have K2 := HH (K1.out.after hb2.out); have KB := HH (Blk.new w2 67 [.int .i64 (cntT x.horizon r t), .func (.func 56) #[] #[.pointer (some ⟨T, 0, none⟩), .pointer (some ⟨F, 0, none⟩), .pointer (some ⟨I, 0, none⟩)]]); clear hb2)
    | (go_at_call 31; (with_reducible refine (HHas.out _ _).mono ?_); rintro e w3 ⟨rfl, hb3⟩; have hb3' := hb3; have hb3 := keep_trans (one_box _ _) hb3; have HB3 := HH (keep_trans HB2.out hb3); have K3 := HH (K2.out.after hb3); have hRA3 := HH (hRA.out.later hb3); have kb1 : w3.cell? ⟨w2.heap.size, 1, none⟩ = some (.func (.func 56) #[] #[.pointer (some ⟨T, 0, none⟩), .pointer (some ⟨F, 0, none⟩), .pointer (some ⟨I, 0, none⟩)]) := (KB.out.after hb3').cell 1; clear hb3 hb3')
    | (go_at_call 56; (with_reducible refine (run_any w3 _ _ _ _ _ _ _ _ _ _ hRA3.out hno).mono ?_); rintro e w4 ⟨A, B, c, d, rfl, hA, hB, hb4⟩; have HB4 := HH (keep_trans HB3.out hb4.out); have K4 := HH (K3.out.after hb4.out); clear hb4; have t0 : w4.cell? ⟨w.heap.size + 1, 0, none⟩ = some (.int .i64 0) := K4.out.cell 0; have t1 : w4.cell? ⟨w.heap.size + 1, 1, none⟩ = some (.int .i64 0) := K4.out.cell 1; have t2 : w4.cell? ⟨w.heap.size + 1, 2, none⟩ = some (.slice none 0 0) := K4.out.cell 2; have t3 : w4.cell? ⟨w.heap.size + 1, 3, none⟩ = some (.slice none 0 0) := K4.out.cell 3; have r0 : w4.frozen? ⟨w.heap.size + 1, 0, none⟩ = false := K4.out.frozen 0; have r1 : w4.frozen? ⟨w.heap.size + 1, 1, none⟩ = false := K4.out.frozen 1; have r2 : w4.frozen? ⟨w.heap.size + 1, 2, none⟩ = false := K4.out.frozen 2; have r3 : w4.frozen? ⟨w.heap.size + 1, 3, none⟩ = false := K4.out.frozen 3))
  have KF := HH ((((K4.out.set_ 0 (.int .i64 i)).set_ 1 (.int .i64 no)).set_ 2 (.slice A (r.rides.length + 1) c)).set_ 3 (.slice B (r.rides.length + 1) d))
  have CF := HH (st4_ch w4 (w.heap.size + 1) (.int .i64 i) (.int .i64 no) (.slice A (r.rides.length + 1) c) (.slice B (r.rides.length + 1) d))
  have hlt : w.heap.size + 1 < w3.heap.size := K3.out.lt
  exact bodyPost_ret (on_read rfl rfl KF.out) rfl ⟨A, B, c, d, rfl, HH (((hA.out.low CF.out (fun k e => by omega))).down HB3.out.size), HH ((hB.out.low CF.out (fun k e => by omega)).down HB3.out.size), HH (((Ch.of_below (X := fun i => i = w.heap.size + 1) HB4.out).trans' CF.out (fun _ _ h => h)).below (Nat.le_refl _) (fun k e => by omega))⟩
end Go.Proofs.YtfefnfifeaihhaaGreat.Wo
