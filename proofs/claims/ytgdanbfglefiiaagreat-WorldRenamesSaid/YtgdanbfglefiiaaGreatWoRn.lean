/- A sheet whose names are longer by one byte has the same world, but for the names: walked. Conditions: no name is longer than the weight that an argument may have. -/
import Derived.Test.YtgdanbfglefiiaaGreatWoRnT
import Derived.Test.YtgdanbfglefiiaaGreatWoRnE
import Derived.ChangeSlices
import Derived.Deep.Strs
import Derived.Deep.SlicePairs
import Derived.ChangeArms
import Derived.Carry
import Derived.Deep.RegionHeld3
import Derived.Deep.RegionHeldLaw
import Derived.Deep.CutRange
import Derived.StillTailTactics
import Derived.WalkSpells
import Derived.Lib.QuietBelow
import Derived.Deep.QuietTactic
namespace Go.Proofs.YtgdanbfglefiiaaGreat.Wo
open Go.ChangeShapes Go.WideShapes Go.ChangeAt Go.RowKit Go.Maps
open Lx Sh It
set_option linter.unusedVariables false
set_option linter.unusedSimpArgs false
theorem lt_of7 {x : SheetM} (h : lightM x = true) : Lt x := by
  simp only [lightM, Bool.and_eq_true, decide_eq_true_eq, List.all_eq_true, lightR] at h
  obtain ⟨⟨⟨⟨⟨⟨h1, h2⟩, h3⟩, h4⟩, h5⟩, h6⟩, h7⟩ := h
  exact ⟨h1, h2, h3, h4, h5, h6, fun r hr => ⟨(h7 r hr).1, (h7 r hr).2.1, (h7 r hr).2.2⟩⟩
theorem lt_xl7 {x : SheetM} (h : Lt x) : XLt x := ⟨by have := h.l1; omega, by have := h.l2; omega, by have := h.l3; omega, by have := h.l4; omega, by have := h.l5; omega, by have := h.l6; omega, fun r hr => by have := h.lr r hr; omega⟩
/-- the longest so far -/
def Lg (L : Int) (P : Prop) : Prop := 0 ≤ L ∧ (L ≤ 22 → P)
theorem Lg.next {α : Type} {L L' : Int} {Pp : Prop} {ok : α → Prop} {l : List α} {i : Nat} {a : α} (h : Lg L (Pp ∧ ∀ b ∈ l.take i, ok b)) (ha : l[i]? = some a) (h0 : 0 ≤ L') (hL : L' ≤ 22 → L ≤ 22 ∧ ok a) : Lg L' (Pp ∧ ∀ b ∈ l.take (i + 1), ok b) := by
  refine ⟨h0, fun h2 => ?_⟩
  obtain ⟨g1, g2⟩ := hL h2
  obtain ⟨e1, e2⟩ := h.2 g1
  refine ⟨e1, fun b hb => ?_⟩
  have hi := List.getElem?_eq_some_iff.1 ha
  obtain ⟨hi, e⟩ := hi
  rw [List.take_succ_eq_append_getElem hi, e] at hb
  rcases List.mem_append.1 hb with hb | hb
  · exact e2 b hb
  · simp at hb; rw [hb]; exact g2
theorem Lg.full {α : Type} {L : Int} {Pp : Prop} {ok : α → Prop} {l : List α} (h : Lg L (Pp ∧ ∀ b ∈ l.take l.length, ok b)) : Lg L (Pp ∧ ∀ b ∈ l, ok b) := by rwa [List.take_length] at h
theorem Lg.zero {α : Type} {L : Int} {Pp : Prop} (ok : α → Prop) (l : List α) (h : Lg L Pp) : Lg L (Pp ∧ ∀ b ∈ l.take 0, ok b) := ⟨h.1, fun g => ⟨h.2 g, by simp⟩⟩
theorem Lg.done {α : Type} {L : Int} {Pp Q1 Q2 : Prop} {ok : α → Prop} {l : List α} {i : Nat} {a : α} (h : Lg L (((Pp ∧ ∀ b ∈ l.take i, ok b) ∧ Q1) ∧ Q2)) (ha : l[i]? = some a) (hq : Q1 → Q2 → ok a) : Lg L (Pp ∧ ∀ b ∈ l.take (i + 1), ok b) :=
  Lg.next (L := L) (Pp := Pp) (ok := ok) ⟨h.1, fun g => (h.2 g).1.1⟩ ha h.1 fun g => ⟨g, hq (h.2 g).1.2 (h.2 g).2⟩
theorem rz_bytes (a : Nm) : (⟨#[122]⟩ ++ ⟨a.toArray⟩ : ByteArray) = ⟨(rz a).toArray⟩ := by
  apply ByteArray.ext
  simp [rz, ByteArray.data_append]
set_option maxRecDepth 100000 in
set_option maxHeartbeats 32000000 in
theorem renames_all (x : SheetM) (p : ShA) (w : World) (h : Sh w (· < w.heap.size) x p) (hsb : StrB x) : Calls Tryz.prog 7 #[shV x p] w (fun e w' => e = .returned (.bool true) ∧ Below w.heap.size w w') := by
  obtain ⟨p1, p2, p3, p4, p5, p6, q1, q2, q3, q4, q5, q6⟩ := p
  have HS := Lib.hid h
  have HSB := Lib.hid hsb
  have HLI := Lib.hid (fun w1 (hb : Below w.heap.size w w1) => light_any x ⟨p1, p2, p3, p4, p5, p6, q1, q2, q3, q4, q5, q6⟩ w1 (h.later hb))
  have HLV := Lib.hid (fun w1 => lives_any w1)
  dsimp only [shV] at HLI ⊢
  clear h hsb
  cases hlm : lightM x with
  | false =>
    rw [hlm] at HLI
    go_enter Tryz.func7, Tryz.ntmps7
    go_wp2_with (first
      | (go_at_call 9; refine (HLV.out _).mono ?_; rintro e w1 ⟨rfl, hb⟩; have B1 : Hid (Below w.heap.size w w1) := Lib.hid (keep_trans (one_box _ _) hb); have K1 := Lib.hid ((Blk.new w 44 [.int .i64 x.horizon, .slice p1 x.stops.length q1, .slice p2 x.paths.length q2, .slice p3 x.doors.length q3, .slice p4 x.routes.length q4, .slice p5 x.trips.length q5, .slice p6 x.hazards.length q6]).after hb); have s0 : w1.cell? ⟨w.heap.size, 0, none⟩ = some (.int .i64 x.horizon) := K1.out.cell 0; have s1 : w1.cell? ⟨w.heap.size, 1, none⟩ = some (.slice p1 x.stops.length q1) := K1.out.cell 1; have s2 : w1.cell? ⟨w.heap.size, 2, none⟩ = some (.slice p2 x.paths.length q2) := K1.out.cell 2; have s3 : w1.cell? ⟨w.heap.size, 3, none⟩ = some (.slice p3 x.doors.length q3) := K1.out.cell 3; have s4 : w1.cell? ⟨w.heap.size, 4, none⟩ = some (.slice p4 x.routes.length q4) := K1.out.cell 4; have s5 : w1.cell? ⟨w.heap.size, 5, none⟩ = some (.slice p5 x.trips.length q5) := K1.out.cell 5; have s6 : w1.cell? ⟨w.heap.size, 6, none⟩ = some (.slice p6 x.hazards.length q6) := K1.out.cell 6; clear hb)
      | (go_at_call 16; refine (HLI.out _ B1.out).mono ?_; rintro e w2 ⟨rfl, hb⟩; have B2 : Hid (Below w.heap.size w w2) := Lib.hid (keep_trans B1.out hb); have K2 := Lib.hid (K1.out.after hb); clear s0 s1 s2 s3 s4 s5 s6; have s0 : w2.cell? ⟨w.heap.size, 0, none⟩ = some (.int .i64 x.horizon) := K2.out.cell 0; have s1 : w2.cell? ⟨w.heap.size, 1, none⟩ = some (.slice p1 x.stops.length q1) := K2.out.cell 1; have s2 : w2.cell? ⟨w.heap.size, 2, none⟩ = some (.slice p2 x.paths.length q2) := K2.out.cell 2; have s3 : w2.cell? ⟨w.heap.size, 3, none⟩ = some (.slice p3 x.doors.length q3) := K2.out.cell 3; have s4 : w2.cell? ⟨w.heap.size, 4, none⟩ = some (.slice p4 x.routes.length q4) := K2.out.cell 4; have s5 : w2.cell? ⟨w.heap.size, 5, none⟩ = some (.slice p5 x.trips.length q5) := K2.out.cell 5; have s6 : w2.cell? ⟨w.heap.size, 6, none⟩ = some (.slice p6 x.hazards.length q6) := K2.out.cell 6; clear hb))
    go_ret
    exact ⟨rfl, B2.out⟩
  | true =>
    rw [hlm] at HLI
    have HX : Hid (XLt x) := Lib.hid (lt_xl7 (lt_of7 hlm))
    have HLT : Hid (Lt x) := Lib.hid (lt_of7 hlm)
    clear hlm
    have HMK := Lib.hid (fun w1 (hb : Below w.heap.size w w1) => make_any x ⟨p1, p2, p3, p4, p5, p6, q1, q2, q3, q4, q5, q6⟩ w1 (HS.out.later hb) HX.out)
    have HOS := Lib.hid (fun w1 (hb : Below w.heap.size w w1) => own_sheetX x ⟨p1, p2, p3, p4, p5, p6, q1, q2, q3, q4, q5, q6⟩ w1 (HS.out.later hb) HX.out.few)
    obtain ⟨z, hz⟩ : ∃ z, z = makeX x := ⟨_, rfl⟩
    obtain ⟨⟨we, wk, wa⟩, hk⟩ : ∃ k, k = wrongX x := ⟨_, rfl⟩
    unfold MkPost at HMK
    rw [← hz, ← hk] at HMK
    dsimp only [shV, woF, wrV] at HMK HOS
    have HZ := Lib.hid hz
    have HKW := Lib.hid hk
    clear hz hk
    go_enter Tryz.func7, Tryz.ntmps7
    go_upto_region 6 with (first
      | (go_at_call 9; refine (HLV.out _).mono ?_; rintro e w1 ⟨rfl, hb⟩; have B1 : Hid (Below w.heap.size w w1) := Lib.hid (keep_trans (one_box _ _) hb); have K1 := Lib.hid ((Blk.new w 44 [.int .i64 x.horizon, .slice p1 x.stops.length q1, .slice p2 x.paths.length q2, .slice p3 x.doors.length q3, .slice p4 x.routes.length q4, .slice p5 x.trips.length q5, .slice p6 x.hazards.length q6]).after hb); have s0 : w1.cell? ⟨w.heap.size, 0, none⟩ = some (.int .i64 x.horizon) := K1.out.cell 0; have s1 : w1.cell? ⟨w.heap.size, 1, none⟩ = some (.slice p1 x.stops.length q1) := K1.out.cell 1; have s2 : w1.cell? ⟨w.heap.size, 2, none⟩ = some (.slice p2 x.paths.length q2) := K1.out.cell 2; have s3 : w1.cell? ⟨w.heap.size, 3, none⟩ = some (.slice p3 x.doors.length q3) := K1.out.cell 3; have s4 : w1.cell? ⟨w.heap.size, 4, none⟩ = some (.slice p4 x.routes.length q4) := K1.out.cell 4; have s5 : w1.cell? ⟨w.heap.size, 5, none⟩ = some (.slice p5 x.trips.length q5) := K1.out.cell 5; have s6 : w1.cell? ⟨w.heap.size, 6, none⟩ = some (.slice p6 x.hazards.length q6) := K1.out.cell 6; clear hb)
      | (go_at_call 16; refine (HLI.out _ B1.out).mono ?_; rintro e w2 ⟨rfl, hb⟩; have B2 : Hid (Below w.heap.size w w2) := Lib.hid (keep_trans B1.out hb); have K2 := Lib.hid (K1.out.after hb); clear s0 s1 s2 s3 s4 s5 s6; have s0 : w2.cell? ⟨w.heap.size, 0, none⟩ = some (.int .i64 x.horizon) := K2.out.cell 0; have s1 : w2.cell? ⟨w.heap.size, 1, none⟩ = some (.slice p1 x.stops.length q1) := K2.out.cell 1; have s2 : w2.cell? ⟨w.heap.size, 2, none⟩ = some (.slice p2 x.paths.length q2) := K2.out.cell 2; have s3 : w2.cell? ⟨w.heap.size, 3, none⟩ = some (.slice p3 x.doors.length q3) := K2.out.cell 3; have s4 : w2.cell? ⟨w.heap.size, 4, none⟩ = some (.slice p4 x.routes.length q4) := K2.out.cell 4; have s5 : w2.cell? ⟨w.heap.size, 5, none⟩ = some (.slice p5 x.trips.length q5) := K2.out.cell 5; have s6 : w2.cell? ⟨w.heap.size, 6, none⟩ = some (.slice p6 x.hazards.length q6) := K2.out.cell 6; clear hb)
      | (go_at_call 10; refine (HMK.out _ B2.out).mono ?_; rintro e w3 ⟨q, rfl, hw, hb⟩; obtain ⟨⟨a1, a2, a3, a4, a5, a6, c1, c2, c3, c4, c5, c6⟩, b2, b3, b4, b5, b6, d2, d3, d4, d5, d6⟩ := q; have B3 : Hid (Below w.heap.size w w3) := Lib.hid (keep_trans B2.out hb); have K3 := Lib.hid (K2.out.after hb); have HW3 : Hid (Wo w3 (· < w3.heap.size) z ⟨⟨a1, a2, a3, a4, a5, a6, c1, c2, c3, c4, c5, c6⟩, b2, b3, b4, b5, b6, d2, d3, d4, d5, d6⟩) := Lib.hid (hw.more fun b hk => hk.2); clear hb hw))
    obtain ⟨w5, hW⟩ : ∃ W, W = (w3.alloc (.cells #[.int .i64 z.horizon, .slice a1 z.names.stops.length c1, .slice a2 z.names.paths.length c2, .slice a3 z.names.doors.length c3, .slice a4 z.names.routes.length c4, .slice a5 z.names.trips.length c5, .slice a6 z.names.hazards.length c6, .slice b2 z.paths.length d2, .slice b3 z.doors.length d3, .slice b4 z.routes.length d4, .slice b5 z.trips.length d5, .slice b6 z.hazards.length d6] 32)).alloc (.cells #[.int .i64 we, .int .i64 wk, .int .i64 wa] 35) := ⟨_, rfl⟩
    have B35 : Hid (Below w3.heap.size w3 w5) := Lib.hid (by rw [hW]; exact two_box _ _ _)
    have KM : Hid (Blk w5 w3.heap.size 32 [.int .i64 z.horizon, .slice a1 z.names.stops.length c1, .slice a2 z.names.paths.length c2, .slice a3 z.names.doors.length c3, .slice a4 z.names.routes.length c4, .slice a5 z.names.trips.length c5, .slice a6 z.names.hazards.length c6, .slice b2 z.paths.length d2, .slice b3 z.doors.length d3, .slice b4 z.routes.length d4, .slice b5 z.trips.length d5, .slice b6 z.hazards.length d6]) := Lib.hid (by rw [hW]; exact (Blk.new _ _ _).alloc _)
    have KE : Hid (Blk w5 (w3.heap.size + 1) 35 [.int .i64 we, .int .i64 wk, .int .i64 wa]) := Lib.hid (by rw [hW]; exact Blk.new2 _ _ _ _)
    have KX := Lib.hid (K3.out.after B35.out)
    have HW5 := Lib.hid (HW3.out.later B35.out)
    have BW5 : Hid (Below w.heap.size w w5) := Lib.hid (keep_trans B3.out B35.out)
    rw [← hW]
    clear hW B1 B2 B3 K1 K2 K3 HW3 B35 HMK HLV HLI s0 s1 s2 s3 s4 s5 s6
    have s0 : w5.cell? ⟨w.heap.size, 0, none⟩ = some (.int .i64 x.horizon) := KX.out.cell 0; have s1 : w5.cell? ⟨w.heap.size, 1, none⟩ = some (.slice p1 x.stops.length q1) := KX.out.cell 1; have s2 : w5.cell? ⟨w.heap.size, 2, none⟩ = some (.slice p2 x.paths.length q2) := KX.out.cell 2; have s3 : w5.cell? ⟨w.heap.size, 3, none⟩ = some (.slice p3 x.doors.length q3) := KX.out.cell 3; have s4 : w5.cell? ⟨w.heap.size, 4, none⟩ = some (.slice p4 x.routes.length q4) := KX.out.cell 4; have s5 : w5.cell? ⟨w.heap.size, 5, none⟩ = some (.slice p5 x.trips.length q5) := KX.out.cell 5; have s6 : w5.cell? ⟨w.heap.size, 6, none⟩ = some (.slice p6 x.hazards.length q6) := KX.out.cell 6
    go_upto_region 7 with (go_at_call 18; refine (HOS.out _ BW5.out).mono ?_; rintro e w6 ⟨A1, A2, A3, A4, A5, A6, k1, k2, k3, k4, k5, k6, rfl, ⟨sb, ho⟩, hb⟩; have HO6 := Lib.hid ho; have B56 := Lib.hid hb; clear ho hb)
    obtain ⟨W7, hW⟩ : ∃ W, W = w6.alloc (.cells #[.int .i64 x.horizon, .slice A1 x.stops.length k1, .slice A2 x.paths.length k2, .slice A3 x.doors.length k3, .slice A4 x.routes.length k4, .slice A5 x.trips.length k5, .slice A6 x.hazards.length k6] 44) := ⟨_, rfl⟩
    have KY : Hid (Blk W7 w6.heap.size 44 [.int .i64 x.horizon, .slice A1 x.stops.length k1, .slice A2 x.paths.length k2, .slice A3 x.doors.length k3, .slice A4 x.routes.length k4, .slice A5 x.trips.length k5, .slice A6 x.hazards.length k6]) := Lib.hid (by rw [hW]; exact Blk.new _ _ _)
    have HO7 : Hid (OwX W7 (w5.heap.size + 1) sb x (.slice A1 x.stops.length k1) (.slice A2 x.paths.length k2) (.slice A3 x.doors.length k3) (.slice A4 x.routes.length k4) (.slice A5 x.trips.length k5) (.slice A6 x.hazards.length k6)) := Lib.hid (by rw [hW]; exact HO6.out.after (one_box _ _))
    have B57 : Hid (Below w5.heap.size w5 W7) := Lib.hid (by rw [hW]; exact keep_trans B56.out (one_box _ _))
    have Z5 : Hid (w5.heap.size ≤ w6.heap.size) := Lib.hid B56.out.size
    rw [← hW]
    clear hW HO6 B56 HOS KX HS s0 s1 s2 s3 s4 s5 s6
    have LG0 : Hid (Lg 0 True) := Lib.hid ⟨by omega, fun _ => trivial⟩
    have HR0 : Hid (Rn w5 w6.heap.size sb [.int .i64 x.horizon, .slice A1 x.stops.length k1, .slice A2 x.paths.length k2, .slice A3 x.doors.length k3, .slice A4 x.routes.length k4, .slice A5 x.trips.length k5, .slice A6 x.hazards.length k6] (.slice A1 x.stops.length k1) (.slice A2 x.paths.length k2) (.slice A3 x.doors.length k3) (.slice A4 x.routes.length k4) (.slice A5 x.trips.length k5) (.slice A6 x.hazards.length k6) x W7) := Lib.hid ⟨HO7.out, KY.out, B57.out⟩
    clear HO7 KY B57
    go_wp2_with fail
    go_loopw [6, 7] (fun v6 v7 wr => ∃ (L : Int) (i : Nat), v6 = .int .i64 L ∧ v7 = .int .i64 i ∧ i ≤ x.stops.length ∧ Hid (Lg L (True ∧ ∀ b ∈ x.stops.take i, (fun a : Nm => a.length ≤ 22) b)) ∧ Hid (Rn w5 w6.heap.size sb [.int .i64 x.horizon, .slice A1 x.stops.length k1, .slice A2 x.paths.length k2, .slice A3 x.doors.length k3, .slice A4 x.routes.length k4, .slice A5 x.trips.length k5, .slice A6 x.hazards.length k6] (.slice A1 x.stops.length k1) (.slice A2 x.paths.length k2) (.slice A3 x.doors.length k3) (.slice A4 x.routes.length k4) (.slice A5 x.trips.length k5) (.slice A6 x.hazards.length k6) (⟨x.horizon, upd rz i x.stops, x.paths, x.doors, x.routes, x.trips, x.hazards⟩ : SheetM) wr)) (fun _ v _ => x.stops.length - (intOf v).toNat)
    case atStart => exact ⟨_, 0, rfl, rfl, by omega, Lib.hid (Lg.zero _ _ LG0.out), Lib.hid (by rw [upd_zero]; exact HR0.out)⟩
    case round =>
      clear HR0 LG0
      obtain ⟨L, i, rfl, rfl, hi, HLG, HR⟩ := hrel
      have y1 : wr.cell? ⟨w6.heap.size, 1, none⟩ = some (.slice A1 x.stops.length k1) := HR.out.k.cell 1
      by_cases hlt : i < x.stops.length
      · as_aux_lemma =>
          obtain ⟨a, ha⟩ : ∃ a, x.stops[i]? = some a := ⟨_, List.getElem?_eq_getElem hlt⟩
          have hi1 : (i : Int) < (x.stops.length : Int) := by omega
          have hn0 := HX.out.l1
          have hr : wr.ownsRow (w5.heap.size + 1 + 1) 9 1 (.slice A1 x.stops.length k1) x.stops.length (cs strC (upd rz i x.stops)) := by have h1 : wr.ownsRow _ _ _ _ (upd rz i x.stops).length _ := HR.out.o.r1; rw [upd_len] at h1; exact h1
          obtain ⟨ad, hE⟩ := own_el hr (by omega)
          have hA := hE.hA
          subst hA
          have HE := Lib.hid hE
          have HA := Lib.hid ha
          have i0 : wr.cell? (ad.add i) = some (.string ⟨a.toArray⟩) := hE.cell i _ (by have := cs_at strC 1 (fun _ => rfl) _ i a (upd_at rz ha) 0 (by omega); simpa [strC] using this)
          have f0 : wr.frozen? (ad.add i) = false := hE.fz i
          have hbd := HSB.out.s a (List.mem_of_getElem? ha)
          have g0 : ¬ 9223372036854775807 < 1 + a.length := by omega
          clear hr hE ha hbd
          go_upto_region 12 with fail
          refine wp_region_still_tail 10 (by kernel_rfl) (by as_aux_lemma => kernel_rfl) ?_
          simp only [List.take_succ_cons, List.take_zero, List.drop_succ_cons, List.drop_zero]
          iterate 10 still_step
          refine wpStill_nil ?_
          simp only [rz_bytes]
          go_wp2_with fail
          go_roundw
          case rel => exact ⟨_, i + 1, rfl, by go_num, by omega, Lib.hid (Lg.next HLG.out HA.out (by have := HLG.out.1; omega) (fun h => ⟨by omega, by omega⟩)), Lib.hid (Rn.drew (Rn.put1 (x := (⟨x.horizon, x.stops, x.paths, x.doors, x.routes, x.trips, x.hazards⟩ : SheetM)) HR.out (by have := Z5.out; omega) rfl HA.out HE.out))⟩
          case measure => simp [intOf]; omega
      · obtain rfl : i = x.stops.length := by omega
        have hi1 : ¬ (x.stops.length : Int) < (x.stops.length : Int) := by omega
        have LG1 := Lib.hid (Lg.full HLG.out)
        have HR1 : Hid (Rn w5 w6.heap.size sb [.int .i64 x.horizon, .slice A1 x.stops.length k1, .slice A2 x.paths.length k2, .slice A3 x.doors.length k3, .slice A4 x.routes.length k4, .slice A5 x.trips.length k5, .slice A6 x.hazards.length k6] (.slice A1 x.stops.length k1) (.slice A2 x.paths.length k2) (.slice A3 x.doors.length k3) (.slice A4 x.routes.length k4) (.slice A5 x.trips.length k5) (.slice A6 x.hazards.length k6) (⟨x.horizon, x.stops.map rz, x.paths, x.doors, x.routes, x.trips, x.hazards⟩ : SheetM) wr) := Lib.hid (by have h := HR.out; rw [upd_all] at h; exact h)
        clear HLG HR hi hlt
        go_wp2_with fail
        go_loopw [6, 8] (fun v6 v7 wr => ∃ (L : Int) (i : Nat), v6 = .int .i64 L ∧ v7 = .int .i64 i ∧ i ≤ x.paths.length ∧ Hid (Lg L ((True ∧ ∀ b ∈ x.stops, (fun a : Nm => a.length ≤ 22) b) ∧ ∀ b ∈ x.paths.take i, (fun q : PathM => q.name.length ≤ 22 ∧ q.a.length ≤ 22 ∧ q.b.length ≤ 22) b)) ∧ Hid (Rn w5 w6.heap.size sb [.int .i64 x.horizon, .slice A1 x.stops.length k1, .slice A2 x.paths.length k2, .slice A3 x.doors.length k3, .slice A4 x.routes.length k4, .slice A5 x.trips.length k5, .slice A6 x.hazards.length k6] (.slice A1 x.stops.length k1) (.slice A2 x.paths.length k2) (.slice A3 x.doors.length k3) (.slice A4 x.routes.length k4) (.slice A5 x.trips.length k5) (.slice A6 x.hazards.length k6) (⟨x.horizon, x.stops.map rz, upd rzP i x.paths, x.doors, x.routes, x.trips, x.hazards⟩ : SheetM) wr)) (fun _ v _ => x.paths.length - (intOf v).toNat)
        case atStart => exact ⟨_, 0, rfl, rfl, by omega, Lib.hid (Lg.zero _ _ LG1.out), Lib.hid (by rw [upd_zero]; exact HR1.out)⟩
        case round =>
          clear HR1 LG1
          obtain ⟨L, i, rfl, rfl, hi, HLG, HR⟩ := hrel
          have y1 : wr.cell? ⟨w6.heap.size, 2, none⟩ = some (.slice A2 x.paths.length k2) := HR.out.k.cell 2
          by_cases hlt : i < x.paths.length
          · skip
            obtain ⟨a, ha⟩ : ∃ a, x.paths[i]? = some a := ⟨_, List.getElem?_eq_getElem hlt⟩
            have hi1 : (i : Int) < (x.paths.length : Int) := by omega
            have hn0 := HX.out.l2
            have hr : wr.ownsRow (w5.heap.size + 1 + 1) 65 4 (.slice A2 x.paths.length k2) x.paths.length (cs paC (upd rzP i x.paths)) := by have h1 : wr.ownsRow _ _ _ _ (upd rzP i x.paths).length _ := HR.out.o.r2; rw [upd_len] at h1; exact h1
            obtain ⟨ad, hE⟩ := own_el hr (by omega)
            have hA := hE.hA
            subst hA
            have HE := Lib.hid hE
            have HA := Lib.hid ha
            have i0 : wr.cell? (ad.add (i * 4)) = some (.string ⟨a.name.toArray⟩) := hE.cell (i * 4) _ (by have := cs_at paC 4 (fun _ => rfl) _ i a (upd_at rzP ha) 0 (by omega); simpa [paC] using this)
            have f0 : wr.frozen? (ad.add (i * 4)) = false := hE.fz (i * 4)
            have i1 : wr.cell? ⟨(ad.add (i * 4)).block, (ad.add (i * 4)).off + 1, none⟩ = some (.string ⟨a.a.toArray⟩) := by rw [hE.eq]; exact hE.cell _ _ (by have := cs_at paC 4 (fun _ => rfl) _ i a (upd_at rzP ha) 1 (by omega); simpa [paC] using this)
            have f1 : wr.frozen? ⟨(ad.add (i * 4)).block, (ad.add (i * 4)).off + 1, none⟩ = false := by rw [hE.eq]; exact hE.fz _
            have i2 : wr.cell? ⟨(ad.add (i * 4)).block, (ad.add (i * 4)).off + 2, none⟩ = some (.string ⟨a.b.toArray⟩) := by rw [hE.eq]; exact hE.cell _ _ (by have := cs_at paC 4 (fun _ => rfl) _ i a (upd_at rzP ha) 2 (by omega); simpa [paC] using this)
            have f2 : wr.frozen? ⟨(ad.add (i * 4)).block, (ad.add (i * 4)).off + 2, none⟩ = false := by rw [hE.eq]; exact hE.fz _
            have hbd := HSB.out.p a (List.mem_of_getElem? ha)
            have g0 : ¬ 9223372036854775807 < 1 + a.name.length := by omega
            have g1 : ¬ 9223372036854775807 < 1 + a.a.length := by omega
            have g2 : ¬ 9223372036854775807 < 1 + a.b.length := by omega
            clear hr hE ha hbd
            go_upto_region 17 with fail
            refine wp_region_still_tail 16 (by kernel_rfl) (by as_aux_lemma => kernel_rfl) ?_
            simp only [List.take_succ_cons, List.take_zero, List.drop_succ_cons, List.drop_zero]
            iterate 16 still_step
            refine wpStill_nil ?_
            change wpList _ _ _ _ _ (World.drew wr)
            obtain ⟨wz, hwz⟩ : ∃ v, v = World.drew wr := ⟨_, rfl⟩
            rw [← hwz]
            have z0 : wz.cell? (ad.add (i * 4)) = some (.string ⟨a.name.toArray⟩) := by rw [hwz]; exact i0
            have zf0 : wz.frozen? (ad.add (i * 4)) = false := by rw [hwz]; exact f0
            have z1 : wz.cell? ⟨(ad.add (i * 4)).block, (ad.add (i * 4)).off + 1, none⟩ = some (.string ⟨a.a.toArray⟩) := by rw [hwz]; exact i1
            have zf1 : wz.frozen? ⟨(ad.add (i * 4)).block, (ad.add (i * 4)).off + 1, none⟩ = false := by rw [hwz]; exact f1
            have z2 : wz.cell? ⟨(ad.add (i * 4)).block, (ad.add (i * 4)).off + 2, none⟩ = some (.string ⟨a.b.toArray⟩) := by rw [hwz]; exact i2
            have zf2 : wz.frozen? ⟨(ad.add (i * 4)).block, (ad.add (i * 4)).off + 2, none⟩ = false := by rw [hwz]; exact f2
            have zc1 : ∀ u, (wz.setCell (ad.add (i * 4)) u).cell? ⟨(ad.add (i * 4)).block, (ad.add (i * 4)).off + 1, none⟩ = some (.string ⟨a.a.toArray⟩) := fun u => (World.cell?_setCell_other _ _ _ _ (by intro e; have := congrArg Addr.off e; dsimp only at this; omega)).trans z1
            have zc2 : ∀ u v, ((wz.setCell (ad.add (i * 4)) u).setCell ⟨(ad.add (i * 4)).block, (ad.add (i * 4)).off + 1, none⟩ v).cell? ⟨(ad.add (i * 4)).block, (ad.add (i * 4)).off + 2, none⟩ = some (.string ⟨a.b.toArray⟩) := fun u v => (World.cell?_setCell_other _ _ _ _ (by intro e; have := congrArg Addr.off e; dsimp only at this; omega)).trans ((World.cell?_setCell_other _ _ _ _ (by intro e; have := congrArg Addr.off e; dsimp only at this; omega)).trans z2)
            have HRz : Hid (Rn w5 w6.heap.size sb [.int .i64 x.horizon, .slice A1 x.stops.length k1, .slice (some ad) x.paths.length k2, .slice A3 x.doors.length k3, .slice A4 x.routes.length k4, .slice A5 x.trips.length k5, .slice A6 x.hazards.length k6] (.slice A1 x.stops.length k1) (.slice (some ad) x.paths.length k2) (.slice A3 x.doors.length k3) (.slice A4 x.routes.length k4) (.slice A5 x.trips.length k5) (.slice A6 x.hazards.length k6) (⟨x.horizon, x.stops.map rz, upd rzP i x.paths, x.doors, x.routes, x.trips, x.hazards⟩ : SheetM) wz) := Lib.hid (by rw [hwz]; exact Rn.drew HR.out)
            have HEz := Lib.hid (El.drew HE.out)
            rw [← hwz] at HEz
            clear hwz HR HE y1 i0 f0 i1 f1 i2 f2
            have HR := HRz
            have HE := HEz
            clear HRz HEz
            refine wpList_max4 rfl (.tmp 69) (.tmp 74) (.tmp 79) (.tmp 84) _ rfl rfl rfl rfl rfl  ?_
            go_upto_region 18 with fail
            have hS0 : ∀ l, Pend [(20, (ad.add (i * 4)), .string ⟨a.name.toArray⟩), (23, ⟨(ad.add (i * 4)).block, (ad.add (i * 4)).off + 1, none⟩, .string ⟨a.a.toArray⟩), (26, ⟨(ad.add (i * 4)).block, (ad.add (i * 4)).off + 2, none⟩, .string ⟨a.b.toArray⟩)] l (World.drew wz) := fun l k hk _ => by simp only [List.mem_cons, List.not_mem_nil, or_false] at hk; rcases hk with rfl | rfl | rfl <;> first | exact z0 | exact z1 | exact z2
            have hS1 : ∀ (u : Value) (W : World) (l : Array Bool), W.heap = (wz.setCell (ad.add (i * 4)) u).heap → l.getD 20 true = true → Pend [(20, (ad.add (i * 4)), .string ⟨a.name.toArray⟩), (23, ⟨(ad.add (i * 4)).block, (ad.add (i * 4)).off + 1, none⟩, .string ⟨a.a.toArray⟩), (26, ⟨(ad.add (i * 4)).block, (ad.add (i * 4)).off + 2, none⟩, .string ⟨a.b.toArray⟩)] l W := by
              intro u W l hW hl0 k hk hp
              simp only [List.mem_cons, List.not_mem_nil, or_false] at hk; rcases hk with rfl | rfl | rfl
              · rw [hl0] at hp; cases hp
              · exact (cell_heap hW).trans ((World.cell?_setCell_other _ _ _ _ (by intro e; have := congrArg Addr.off e; dsimp only at this; omega)).trans (z1))
              · exact (cell_heap hW).trans ((World.cell?_setCell_other _ _ _ _ (by intro e; have := congrArg Addr.off e; dsimp only at this; omega)).trans (z2))
            have hS2 : ∀ (u v : Value) (W : World) (l : Array Bool), W.heap = ((wz.setCell (ad.add (i * 4)) u).setCell ⟨(ad.add (i * 4)).block, (ad.add (i * 4)).off + 1, none⟩ v).heap → l.getD 20 true = true → l.getD 23 true = true → Pend [(20, (ad.add (i * 4)), .string ⟨a.name.toArray⟩), (23, ⟨(ad.add (i * 4)).block, (ad.add (i * 4)).off + 1, none⟩, .string ⟨a.a.toArray⟩), (26, ⟨(ad.add (i * 4)).block, (ad.add (i * 4)).off + 2, none⟩, .string ⟨a.b.toArray⟩)] l W := by
              intro u v W l hW hl0 hl1 k hk hp
              simp only [List.mem_cons, List.not_mem_nil, or_false] at hk; rcases hk with rfl | rfl | rfl
              · rw [hl0] at hp; cases hp
              · rw [hl1] at hp; cases hp
              · exact (cell_heap hW).trans ((World.cell?_setCell_other _ _ _ _ (by intro e; have := congrArg Addr.off e; dsimp only at this; omega)).trans ((World.cell?_setCell_other _ _ _ _ (by intro e; have := congrArg Addr.off e; dsimp only at this; omega)).trans (z2)))
            have hS3 : ∀ (u v t : Value) (W : World) (l : Array Bool), W.heap = (((wz.setCell (ad.add (i * 4)) u).setCell ⟨(ad.add (i * 4)).block, (ad.add (i * 4)).off + 1, none⟩ v).setCell ⟨(ad.add (i * 4)).block, (ad.add (i * 4)).off + 2, none⟩ t).heap → l.getD 20 true = true → l.getD 23 true = true → l.getD 26 true = true → Pend [(20, (ad.add (i * 4)), .string ⟨a.name.toArray⟩), (23, ⟨(ad.add (i * 4)).block, (ad.add (i * 4)).off + 1, none⟩, .string ⟨a.a.toArray⟩), (26, ⟨(ad.add (i * 4)).block, (ad.add (i * 4)).off + 2, none⟩, .string ⟨a.b.toArray⟩)] l W := by
              intro u v t W l hW hl0 hl1 hl2 k hk hp
              simp only [List.mem_cons, List.not_mem_nil, or_false] at hk; rcases hk with rfl | rfl | rfl
              · rw [hl0] at hp; cases hp
              · rw [hl1] at hp; cases hp
              · rw [hl2] at hp; cases hp
            refine wp_region_T [(20, (ad.add (i * 4)), .string ⟨a.name.toArray⟩), (23, ⟨(ad.add (i * 4)).block, (ad.add (i * 4)).off + 1, none⟩, .string ⟨a.a.toArray⟩), (26, ⟨(ad.add (i * 4)).block, (ad.add (i * 4)).off + 2, none⟩, .string ⟨a.b.toArray⟩)] (by kernel_rfl) ?_
            refine wpAnyT_pure (i := 0) (v := ?vrn1) rfl (by as_aux_lemma => kernel_rfl) (by as_aux_lemma => kernel_rfl) (by as_aux_lemma => kernel_rfl) (by rfl) (fun _ _ _ h => h) (Or.inl ⟨by rfl, ?hyrn1⟩) (hS0 _) ?restrn1
            case hyrn1 => (intro w' hSw; clear hSw; go_simp; try with_reducible rfl)
            try simp only [Act.put, List.setIfInBounds_toArray, List.set_cons_zero, List.set_cons_succ]
            refine wpAnyT_pure (i := 1) (v := ?vrn2) rfl (by as_aux_lemma => kernel_rfl) (by as_aux_lemma => kernel_rfl) (by as_aux_lemma => kernel_rfl) (by rfl) (fun _ _ _ h => h) (Or.inl ⟨by rfl, ?hyrn2⟩) (hS0 _) ?restrn2
            case hyrn2 => (intro w' hSw; clear hSw; go_simp; try with_reducible rfl)
            try simp only [Act.put, List.setIfInBounds_toArray, List.set_cons_zero, List.set_cons_succ]
            refine wpAnyT_pure (i := 2) (v := ?vrn3) rfl (by as_aux_lemma => kernel_rfl) (by as_aux_lemma => kernel_rfl) (by as_aux_lemma => kernel_rfl) (by rfl) (fun _ _ _ h => h) (Or.inl ⟨by rfl, ?hyrn3⟩) (hS0 _) ?restrn3
            case hyrn3 => (intro w' hSw; clear hSw; go_simp; try with_reducible rfl)
            try simp only [Act.put, List.setIfInBounds_toArray, List.set_cons_zero, List.set_cons_succ]
            refine wpAnyT_pure (i := 3) (v := ?vrn4) rfl (by as_aux_lemma => kernel_rfl) (by as_aux_lemma => kernel_rfl) (by as_aux_lemma => kernel_rfl) (by rfl) (fun _ _ _ h => h) (Or.inl ⟨by rfl, ?hyrn4⟩) (hS0 _) ?restrn4
            case hyrn4 => (intro w' hSw; clear hSw; go_simp; try with_reducible rfl)
            try simp only [Act.put, List.setIfInBounds_toArray, List.set_cons_zero, List.set_cons_succ]
            refine wpAnyT_pure (i := 4) (v := ?vrn5) rfl (by as_aux_lemma => kernel_rfl) (by as_aux_lemma => kernel_rfl) (by as_aux_lemma => kernel_rfl) (by rfl) (fun _ _ _ h => h) (Or.inl ⟨by rfl, ?hyrn5⟩) (hS0 _) ?restrn5
            case hyrn5 => (intro w' hSw; clear hSw; go_simp; try with_reducible rfl)
            try simp only [Act.put, List.setIfInBounds_toArray, List.set_cons_zero, List.set_cons_succ]
            refine wpAnyT_pure (i := 5) (v := ?vrn6) rfl (by as_aux_lemma => kernel_rfl) (by as_aux_lemma => kernel_rfl) (by as_aux_lemma => kernel_rfl) (by rfl) (fun _ _ _ h => h) (Or.inl ⟨by rfl, ?hyrn6⟩) (hS0 _) ?restrn6
            case hyrn6 => (intro w' hSw; clear hSw; go_simp; try with_reducible rfl)
            try simp only [Act.put, List.setIfInBounds_toArray, List.set_cons_zero, List.set_cons_succ]
            refine wpAnyT_load (i := 6) (st := 20) (p := (ad.add (i * 4))) (u := .string ⟨a.name.toArray⟩) (v := ?vrn7) rfl rfl (by as_aux_lemma => kernel_rfl) (by simp) (by as_aux_lemma => kernel_rfl) (by as_aux_lemma => kernel_rfl) (by as_aux_lemma => kernel_rfl) (by as_aux_lemma => kernel_rfl) (by rfl) (fun _ _ _ h => h) (Or.inl ⟨by rfl, ?hyrn7⟩) (hS0 _) ?restrn7
            case hyrn7 => (intro w' hSw; go_simp; try with_reducible rfl)
            try simp only [Act.put, List.setIfInBounds_toArray, List.set_cons_zero, List.set_cons_succ]
            refine wpAnyT_pure (i := 7) (v := ?vrn8) rfl (by as_aux_lemma => kernel_rfl) (by as_aux_lemma => kernel_rfl) (by as_aux_lemma => kernel_rfl) (by rfl) (fun _ _ _ h => h) (Or.inl ⟨by rfl, ?hyrn8⟩) (hS0 _) ?restrn8
            case hyrn8 => (intro w' hSw; clear hSw; go_simp; try with_reducible rfl)
            try simp only [Act.put, List.setIfInBounds_toArray, List.set_cons_zero, List.set_cons_succ]
            refine wpAnyT_pure (i := 8) (v := ?vrn9) rfl (by as_aux_lemma => kernel_rfl) (by as_aux_lemma => kernel_rfl) (by as_aux_lemma => kernel_rfl) (by rfl) (fun _ _ _ h => h) (Or.inl ⟨by rfl, ?hyrn9⟩) (hS0 _) ?restrn9
            case hyrn9 => (intro w' hSw; clear hSw; go_simp; try with_reducible rfl)
            try simp only [Act.put, List.setIfInBounds_toArray, List.set_cons_zero, List.set_cons_succ]
            refine wpAnyT_pure (i := 9) (v := ?vrn10) rfl (by as_aux_lemma => kernel_rfl) (by as_aux_lemma => kernel_rfl) (by as_aux_lemma => kernel_rfl) (by rfl) (fun _ _ _ h => h) (Or.inl ⟨by rfl, ?hyrn10⟩) (hS0 _) ?restrn10
            case hyrn10 => (intro w' hSw; clear hSw; go_simp; try with_reducible rfl)
            try simp only [Act.put, List.setIfInBounds_toArray, List.set_cons_zero, List.set_cons_succ]
            refine wpAnyT_pure (i := 10) (v := ?vrn11) rfl (by as_aux_lemma => kernel_rfl) (by as_aux_lemma => kernel_rfl) (by as_aux_lemma => kernel_rfl) (by rfl) (fun _ _ _ h => h) (Or.inl ⟨by rfl, ?hyrn11⟩) (hS0 _) ?restrn11
            case hyrn11 => (intro w' hSw; clear hSw; go_simp; try with_reducible rfl)
            try simp only [Act.put, List.setIfInBounds_toArray, List.set_cons_zero, List.set_cons_succ]
            refine wpAnyT_load (i := 11) (st := 23) (p := ⟨(ad.add (i * 4)).block, (ad.add (i * 4)).off + 1, none⟩) (u := .string ⟨a.a.toArray⟩) (v := ?vrn12) rfl rfl (by as_aux_lemma => kernel_rfl) (by simp) (by as_aux_lemma => kernel_rfl) (by as_aux_lemma => kernel_rfl) (by as_aux_lemma => kernel_rfl) (by as_aux_lemma => kernel_rfl) (by rfl) (fun _ _ _ h => h) (Or.inl ⟨by rfl, ?hyrn12⟩) (hS0 _) ?restrn12
            case hyrn12 => (intro w' hSw; go_simp; try with_reducible rfl)
            try simp only [Act.put, List.setIfInBounds_toArray, List.set_cons_zero, List.set_cons_succ]
            refine wpAnyT_pure (i := 12) (v := ?vrn13) rfl (by as_aux_lemma => kernel_rfl) (by as_aux_lemma => kernel_rfl) (by as_aux_lemma => kernel_rfl) (by rfl) (fun _ _ _ h => h) (Or.inl ⟨by rfl, ?hyrn13⟩) (hS0 _) ?restrn13
            case hyrn13 => (intro w' hSw; clear hSw; go_simp; try with_reducible rfl)
            try simp only [Act.put, List.setIfInBounds_toArray, List.set_cons_zero, List.set_cons_succ]
            refine wpAnyT_pure (i := 13) (v := ?vrn14) rfl (by as_aux_lemma => kernel_rfl) (by as_aux_lemma => kernel_rfl) (by as_aux_lemma => kernel_rfl) (by rfl) (fun _ _ _ h => h) (Or.inl ⟨by rfl, ?hyrn14⟩) (hS0 _) ?restrn14
            case hyrn14 => (intro w' hSw; clear hSw; go_simp; try with_reducible rfl)
            try simp only [Act.put, List.setIfInBounds_toArray, List.set_cons_zero, List.set_cons_succ]
            refine wpAnyT_pure (i := 14) (v := ?vrn15) rfl (by as_aux_lemma => kernel_rfl) (by as_aux_lemma => kernel_rfl) (by as_aux_lemma => kernel_rfl) (by rfl) (fun _ _ _ h => h) (Or.inl ⟨by rfl, ?hyrn15⟩) (hS0 _) ?restrn15
            case hyrn15 => (intro w' hSw; clear hSw; go_simp; try with_reducible rfl)
            try simp only [Act.put, List.setIfInBounds_toArray, List.set_cons_zero, List.set_cons_succ]
            refine wpAnyT_pure (i := 15) (v := ?vrn16) rfl (by as_aux_lemma => kernel_rfl) (by as_aux_lemma => kernel_rfl) (by as_aux_lemma => kernel_rfl) (by rfl) (fun _ _ _ h => h) (Or.inl ⟨by rfl, ?hyrn16⟩) (hS0 _) ?restrn16
            case hyrn16 => (intro w' hSw; clear hSw; go_simp; try with_reducible rfl)
            try simp only [Act.put, List.setIfInBounds_toArray, List.set_cons_zero, List.set_cons_succ]
            refine wpAnyT_load (i := 16) (st := 26) (p := ⟨(ad.add (i * 4)).block, (ad.add (i * 4)).off + 2, none⟩) (u := .string ⟨a.b.toArray⟩) (v := ?vrn17) rfl rfl (by as_aux_lemma => kernel_rfl) (by simp) (by as_aux_lemma => kernel_rfl) (by as_aux_lemma => kernel_rfl) (by as_aux_lemma => kernel_rfl) (by as_aux_lemma => kernel_rfl) (by rfl) (fun _ _ _ h => h) (Or.inl ⟨by rfl, ?hyrn17⟩) (hS0 _) ?restrn17
            case hyrn17 => (intro w' hSw; go_simp; try with_reducible rfl)
            try simp only [Act.put, List.setIfInBounds_toArray, List.set_cons_zero, List.set_cons_succ]
            refine wpAnyT_pure (i := 17) (v := ?vrn18) rfl (by as_aux_lemma => kernel_rfl) (by as_aux_lemma => kernel_rfl) (by as_aux_lemma => kernel_rfl) (by rfl) (fun _ _ _ h => h) (Or.inl ⟨by rfl, ?hyrn18⟩) (hS0 _) ?restrn18
            case hyrn18 => (intro w' hSw; clear hSw; go_simp; try with_reducible rfl)
            try simp only [Act.put, List.setIfInBounds_toArray, List.set_cons_zero, List.set_cons_succ]
            have HRv : Hid (Rn w5 w6.heap.size sb [.int .i64 x.horizon, .slice A1 x.stops.length k1, .slice (some ad) x.paths.length k2, .slice A3 x.doors.length k3, .slice A4 x.routes.length k4, .slice A5 x.trips.length k5, .slice A6 x.hazards.length k6] (.slice A1 x.stops.length k1) (.slice (some ad) x.paths.length k2) (.slice A3 x.doors.length k3) (.slice A4 x.routes.length k4) (.slice A5 x.trips.length k5) (.slice A6 x.hazards.length k6) (⟨x.horizon, x.stops.map rz, upd rzP i x.paths, x.doors, x.routes, x.trips, x.hazards⟩ : SheetM) wz) := HR
            have HEv := HE
            have HLn : Hid (Lg (max L (max (a.name.length : Int) (max (a.a.length : Int) (a.b.length : Int)))) ((True ∧ ∀ b ∈ x.stops, (fun a : Nm => a.length ≤ 22) b) ∧ ∀ b ∈ x.paths.take (i + 1), (fun q : PathM => q.name.length ≤ 22 ∧ q.a.length ≤ 22 ∧ q.b.length ≤ 22) b)) := Lib.hid (Lg.next HLG.out HA.out (by have := HLG.out.1; omega) (fun h => ⟨by omega, by omega⟩))
            refine wpAnyT_pure (i := 18) (v := ?vrn19) rfl (by as_aux_lemma => kernel_rfl) (by as_aux_lemma => kernel_rfl) (by as_aux_lemma => kernel_rfl) (by rfl) (fun _ _ _ h => h) (Or.inl ⟨by rfl, ?hyrn19⟩) (hS0 _) ?restrn19
            case hyrn19 => (intro w' hSw; clear hSw; go_simp; try with_reducible rfl)
            try simp only [Act.put, List.setIfInBounds_toArray, List.set_cons_zero, List.set_cons_succ]
            refine wpAnyT_pure (i := 19) (v := ?vrn20) rfl (by as_aux_lemma => kernel_rfl) (by as_aux_lemma => kernel_rfl) (by as_aux_lemma => kernel_rfl) (by rfl) (fun _ _ _ h => h) (Or.inl ⟨by rfl, ?hyrn20⟩) (hS0 _) ?restrn20
            case hyrn20 => (intro w' hSw; clear hSw; go_simp; try with_reducible rfl)
            try simp only [Act.put, List.setIfInBounds_toArray, List.set_cons_zero, List.set_cons_succ]
            refine wpAnyT_next (i := 20) rfl (by as_aux_lemma => kernel_rfl) (fun K hK => ?_)
            go_simp
            refine hK.out _ _ (hS1 _ _ _ rfl (by as_aux_lemma => kernel_rfl)) ?_
            clear hK K
            refine wpAnyT_pure (i := 21) (v := ?vrn21) rfl (by as_aux_lemma => kernel_rfl) (by as_aux_lemma => kernel_rfl) (by as_aux_lemma => kernel_rfl) (by rfl) (fun _ _ _ h => h) (Or.inl ⟨by rfl, ?hyrn21⟩) (hS1 _ _ _ rfl (by as_aux_lemma => kernel_rfl)) ?restrn21
            case hyrn21 => (intro w' hSw; clear hSw; go_simp; try with_reducible rfl)
            try simp only [Act.put, List.setIfInBounds_toArray, List.set_cons_zero, List.set_cons_succ]
            refine wpAnyT_pure (i := 22) (v := ?vrn22) rfl (by as_aux_lemma => kernel_rfl) (by as_aux_lemma => kernel_rfl) (by as_aux_lemma => kernel_rfl) (by rfl) (fun _ _ _ h => h) (Or.inl ⟨by rfl, ?hyrn22⟩) (hS1 _ _ _ rfl (by as_aux_lemma => kernel_rfl)) ?restrn22
            case hyrn22 => (intro w' hSw; clear hSw; go_simp; try with_reducible rfl)
            try simp only [Act.put, List.setIfInBounds_toArray, List.set_cons_zero, List.set_cons_succ]
            refine wpAnyT_next (i := 23) rfl (by as_aux_lemma => kernel_rfl) (fun K hK => ?_)
            go_simp
            refine hK.out _ _ (hS2 _ _ _ _ rfl (by as_aux_lemma => kernel_rfl) (by as_aux_lemma => kernel_rfl)) ?_
            clear hK K
            refine wpAnyT_pure (i := 24) (v := ?vrn23) rfl (by as_aux_lemma => kernel_rfl) (by as_aux_lemma => kernel_rfl) (by as_aux_lemma => kernel_rfl) (by rfl) (fun _ _ _ h => h) (Or.inl ⟨by rfl, ?hyrn23⟩) (hS2 _ _ _ _ rfl (by as_aux_lemma => kernel_rfl) (by as_aux_lemma => kernel_rfl)) ?restrn23
            case hyrn23 => (intro w' hSw; clear hSw; go_simp; try with_reducible rfl)
            try simp only [Act.put, List.setIfInBounds_toArray, List.set_cons_zero, List.set_cons_succ]
            refine wpAnyT_pure (i := 25) (v := ?vrn24) rfl (by as_aux_lemma => kernel_rfl) (by as_aux_lemma => kernel_rfl) (by as_aux_lemma => kernel_rfl) (by rfl) (fun _ _ _ h => h) (Or.inl ⟨by rfl, ?hyrn24⟩) (hS2 _ _ _ _ rfl (by as_aux_lemma => kernel_rfl) (by as_aux_lemma => kernel_rfl)) ?restrn24
            case hyrn24 => (intro w' hSw; clear hSw; go_simp; try with_reducible rfl)
            try simp only [Act.put, List.setIfInBounds_toArray, List.set_cons_zero, List.set_cons_succ]
            refine wpAnyT_next (i := 26) rfl (by as_aux_lemma => kernel_rfl) (fun K hK => ?_)
            go_simp
            refine hK.out _ _ (hS3 _ _ _ _ _ rfl (by as_aux_lemma => kernel_rfl) (by as_aux_lemma => kernel_rfl) (by as_aux_lemma => kernel_rfl)) ?_
            clear hK K
            refine wpAnyT_done (by as_aux_lemma => kernel_rfl) ?_ _
            clear hS0 hS1 hS2 hS3
            simp only [rz_bytes]
            go_wp2_with fail
            go_roundw
            case rel => exact ⟨_, i + 1, rfl, by go_num, by omega, HLn, Lib.hid (Rn.drew (Rn.put2 (x := (⟨x.horizon, x.stops.map rz, x.paths, x.doors, x.routes, x.trips, x.hazards⟩ : SheetM)) HRv.out (by have := Z5.out; omega) rfl HA.out HEv.out))⟩
            case measure => simp [intOf]; omega
          · obtain rfl : i = x.paths.length := by omega
            have hi1 : ¬ (x.paths.length : Int) < (x.paths.length : Int) := by omega
            have LG2 := Lib.hid (Lg.full HLG.out)
            have HR2 : Hid (Rn w5 w6.heap.size sb [.int .i64 x.horizon, .slice A1 x.stops.length k1, .slice A2 x.paths.length k2, .slice A3 x.doors.length k3, .slice A4 x.routes.length k4, .slice A5 x.trips.length k5, .slice A6 x.hazards.length k6] (.slice A1 x.stops.length k1) (.slice A2 x.paths.length k2) (.slice A3 x.doors.length k3) (.slice A4 x.routes.length k4) (.slice A5 x.trips.length k5) (.slice A6 x.hazards.length k6) (⟨x.horizon, x.stops.map rz, x.paths.map rzP, x.doors, x.routes, x.trips, x.hazards⟩ : SheetM) wr) := Lib.hid (by have h := HR.out; rw [upd_all] at h; exact h)
            clear HLG HR hi hlt
            go_wp2_with fail
            go_loopw [6, 10] (fun v6 v7 wr => ∃ (L : Int) (i : Nat), v6 = .int .i64 L ∧ v7 = .int .i64 i ∧ i ≤ x.doors.length ∧ Hid (Lg L (((True ∧ ∀ b ∈ x.stops, (fun a : Nm => a.length ≤ 22) b) ∧ ∀ b ∈ x.paths, (fun q : PathM => q.name.length ≤ 22 ∧ q.a.length ≤ 22 ∧ q.b.length ≤ 22) b) ∧ ∀ b ∈ x.doors.take i, (fun q : DoorM => q.name.length ≤ 22 ∧ q.a.length ≤ 22 ∧ q.b.length ≤ 22) b)) ∧ Hid (Rn w5 w6.heap.size sb [.int .i64 x.horizon, .slice A1 x.stops.length k1, .slice A2 x.paths.length k2, .slice A3 x.doors.length k3, .slice A4 x.routes.length k4, .slice A5 x.trips.length k5, .slice A6 x.hazards.length k6] (.slice A1 x.stops.length k1) (.slice A2 x.paths.length k2) (.slice A3 x.doors.length k3) (.slice A4 x.routes.length k4) (.slice A5 x.trips.length k5) (.slice A6 x.hazards.length k6) (⟨x.horizon, x.stops.map rz, x.paths.map rzP, upd rzD i x.doors, x.routes, x.trips, x.hazards⟩ : SheetM) wr)) (fun _ v _ => x.doors.length - (intOf v).toNat)
            case atStart => exact ⟨_, 0, rfl, rfl, by omega, Lib.hid (Lg.zero _ _ LG2.out), Lib.hid (by rw [upd_zero]; exact HR2.out)⟩
            case round =>
              clear HR2 LG2
              obtain ⟨L, i, rfl, rfl, hi, HLG, HR⟩ := hrel
              have y1 : wr.cell? ⟨w6.heap.size, 3, none⟩ = some (.slice A3 x.doors.length k3) := HR.out.k.cell 3
              by_cases hlt : i < x.doors.length
              · skip
                obtain ⟨a, ha⟩ : ∃ a, x.doors[i]? = some a := ⟨_, List.getElem?_eq_getElem hlt⟩
                have hi1 : (i : Int) < (x.doors.length : Int) := by omega
                have hn0 := HX.out.l3
                have hr : wr.ownsRow (w5.heap.size + 1 + 1) 55 7 (.slice A3 x.doors.length k3) x.doors.length (cs doC (upd rzD i x.doors)) := by have h1 : wr.ownsRow _ _ _ _ (upd rzD i x.doors).length _ := HR.out.o.r3; rw [upd_len] at h1; exact h1
                obtain ⟨ad, hE⟩ := own_el hr (by omega)
                have hA := hE.hA
                subst hA
                have HE := Lib.hid hE
                have HA := Lib.hid ha
                have i0 : wr.cell? (ad.add (i * 7)) = some (.string ⟨a.name.toArray⟩) := hE.cell (i * 7) _ (by have := cs_at doC 7 (fun _ => rfl) _ i a (upd_at rzD ha) 0 (by omega); simpa [doC] using this)
                have f0 : wr.frozen? (ad.add (i * 7)) = false := hE.fz (i * 7)
                have i1 : wr.cell? ⟨(ad.add (i * 7)).block, (ad.add (i * 7)).off + 1, none⟩ = some (.string ⟨a.a.toArray⟩) := by rw [hE.eq]; exact hE.cell _ _ (by have := cs_at doC 7 (fun _ => rfl) _ i a (upd_at rzD ha) 1 (by omega); simpa [doC] using this)
                have f1 : wr.frozen? ⟨(ad.add (i * 7)).block, (ad.add (i * 7)).off + 1, none⟩ = false := by rw [hE.eq]; exact hE.fz _
                have i2 : wr.cell? ⟨(ad.add (i * 7)).block, (ad.add (i * 7)).off + 2, none⟩ = some (.string ⟨a.b.toArray⟩) := by rw [hE.eq]; exact hE.cell _ _ (by have := cs_at doC 7 (fun _ => rfl) _ i a (upd_at rzD ha) 2 (by omega); simpa [doC] using this)
                have f2 : wr.frozen? ⟨(ad.add (i * 7)).block, (ad.add (i * 7)).off + 2, none⟩ = false := by rw [hE.eq]; exact hE.fz _
                have hbd := HSB.out.d a (List.mem_of_getElem? ha)
                have g0 : ¬ 9223372036854775807 < 1 + a.name.length := by omega
                have g1 : ¬ 9223372036854775807 < 1 + a.a.length := by omega
                have g2 : ¬ 9223372036854775807 < 1 + a.b.length := by omega
                clear hr hE ha hbd
                go_upto_region 23 with fail
                refine wp_region_still_tail 16 (by kernel_rfl) (by as_aux_lemma => kernel_rfl) ?_
                simp only [List.take_succ_cons, List.take_zero, List.drop_succ_cons, List.drop_zero]
                iterate 16 still_step
                refine wpStill_nil ?_
                change wpList _ _ _ _ _ (World.drew wr)
                obtain ⟨wz, hwz⟩ : ∃ v, v = World.drew wr := ⟨_, rfl⟩
                rw [← hwz]
                have z0 : wz.cell? (ad.add (i * 7)) = some (.string ⟨a.name.toArray⟩) := by rw [hwz]; exact i0
                have zf0 : wz.frozen? (ad.add (i * 7)) = false := by rw [hwz]; exact f0
                have z1 : wz.cell? ⟨(ad.add (i * 7)).block, (ad.add (i * 7)).off + 1, none⟩ = some (.string ⟨a.a.toArray⟩) := by rw [hwz]; exact i1
                have zf1 : wz.frozen? ⟨(ad.add (i * 7)).block, (ad.add (i * 7)).off + 1, none⟩ = false := by rw [hwz]; exact f1
                have z2 : wz.cell? ⟨(ad.add (i * 7)).block, (ad.add (i * 7)).off + 2, none⟩ = some (.string ⟨a.b.toArray⟩) := by rw [hwz]; exact i2
                have zf2 : wz.frozen? ⟨(ad.add (i * 7)).block, (ad.add (i * 7)).off + 2, none⟩ = false := by rw [hwz]; exact f2
                have zc1 : ∀ u, (wz.setCell (ad.add (i * 7)) u).cell? ⟨(ad.add (i * 7)).block, (ad.add (i * 7)).off + 1, none⟩ = some (.string ⟨a.a.toArray⟩) := fun u => (World.cell?_setCell_other _ _ _ _ (by intro e; have := congrArg Addr.off e; dsimp only at this; omega)).trans z1
                have zc2 : ∀ u v, ((wz.setCell (ad.add (i * 7)) u).setCell ⟨(ad.add (i * 7)).block, (ad.add (i * 7)).off + 1, none⟩ v).cell? ⟨(ad.add (i * 7)).block, (ad.add (i * 7)).off + 2, none⟩ = some (.string ⟨a.b.toArray⟩) := fun u v => (World.cell?_setCell_other _ _ _ _ (by intro e; have := congrArg Addr.off e; dsimp only at this; omega)).trans ((World.cell?_setCell_other _ _ _ _ (by intro e; have := congrArg Addr.off e; dsimp only at this; omega)).trans z2)
                have HRz : Hid (Rn w5 w6.heap.size sb [.int .i64 x.horizon, .slice A1 x.stops.length k1, .slice A2 x.paths.length k2, .slice (some ad) x.doors.length k3, .slice A4 x.routes.length k4, .slice A5 x.trips.length k5, .slice A6 x.hazards.length k6] (.slice A1 x.stops.length k1) (.slice A2 x.paths.length k2) (.slice (some ad) x.doors.length k3) (.slice A4 x.routes.length k4) (.slice A5 x.trips.length k5) (.slice A6 x.hazards.length k6) (⟨x.horizon, x.stops.map rz, x.paths.map rzP, upd rzD i x.doors, x.routes, x.trips, x.hazards⟩ : SheetM) wz) := Lib.hid (by rw [hwz]; exact Rn.drew HR.out)
                have HEz := Lib.hid (El.drew HE.out)
                rw [← hwz] at HEz
                clear hwz HR HE y1 i0 f0 i1 f1 i2 f2
                have HR := HRz
                have HE := HEz
                clear HRz HEz
                refine wpList_max4 rfl (.tmp 121) (.tmp 126) (.tmp 131) (.tmp 136) _ rfl rfl rfl rfl rfl  ?_
                go_upto_region 24 with fail
                have hS0 : ∀ l, Pend [(20, (ad.add (i * 7)), .string ⟨a.name.toArray⟩), (23, ⟨(ad.add (i * 7)).block, (ad.add (i * 7)).off + 1, none⟩, .string ⟨a.a.toArray⟩), (26, ⟨(ad.add (i * 7)).block, (ad.add (i * 7)).off + 2, none⟩, .string ⟨a.b.toArray⟩)] l (World.drew wz) := fun l k hk _ => by simp only [List.mem_cons, List.not_mem_nil, or_false] at hk; rcases hk with rfl | rfl | rfl <;> first | exact z0 | exact z1 | exact z2
                have hS1 : ∀ (u : Value) (W : World) (l : Array Bool), W.heap = (wz.setCell (ad.add (i * 7)) u).heap → l.getD 20 true = true → Pend [(20, (ad.add (i * 7)), .string ⟨a.name.toArray⟩), (23, ⟨(ad.add (i * 7)).block, (ad.add (i * 7)).off + 1, none⟩, .string ⟨a.a.toArray⟩), (26, ⟨(ad.add (i * 7)).block, (ad.add (i * 7)).off + 2, none⟩, .string ⟨a.b.toArray⟩)] l W := by
                  intro u W l hW hl0 k hk hp
                  simp only [List.mem_cons, List.not_mem_nil, or_false] at hk; rcases hk with rfl | rfl | rfl
                  · rw [hl0] at hp; cases hp
                  · exact (cell_heap hW).trans ((World.cell?_setCell_other _ _ _ _ (by intro e; have := congrArg Addr.off e; dsimp only at this; omega)).trans (z1))
                  · exact (cell_heap hW).trans ((World.cell?_setCell_other _ _ _ _ (by intro e; have := congrArg Addr.off e; dsimp only at this; omega)).trans (z2))
                have hS2 : ∀ (u v : Value) (W : World) (l : Array Bool), W.heap = ((wz.setCell (ad.add (i * 7)) u).setCell ⟨(ad.add (i * 7)).block, (ad.add (i * 7)).off + 1, none⟩ v).heap → l.getD 20 true = true → l.getD 23 true = true → Pend [(20, (ad.add (i * 7)), .string ⟨a.name.toArray⟩), (23, ⟨(ad.add (i * 7)).block, (ad.add (i * 7)).off + 1, none⟩, .string ⟨a.a.toArray⟩), (26, ⟨(ad.add (i * 7)).block, (ad.add (i * 7)).off + 2, none⟩, .string ⟨a.b.toArray⟩)] l W := by
                  intro u v W l hW hl0 hl1 k hk hp
                  simp only [List.mem_cons, List.not_mem_nil, or_false] at hk; rcases hk with rfl | rfl | rfl
                  · rw [hl0] at hp; cases hp
                  · rw [hl1] at hp; cases hp
                  · exact (cell_heap hW).trans ((World.cell?_setCell_other _ _ _ _ (by intro e; have := congrArg Addr.off e; dsimp only at this; omega)).trans ((World.cell?_setCell_other _ _ _ _ (by intro e; have := congrArg Addr.off e; dsimp only at this; omega)).trans (z2)))
                have hS3 : ∀ (u v t : Value) (W : World) (l : Array Bool), W.heap = (((wz.setCell (ad.add (i * 7)) u).setCell ⟨(ad.add (i * 7)).block, (ad.add (i * 7)).off + 1, none⟩ v).setCell ⟨(ad.add (i * 7)).block, (ad.add (i * 7)).off + 2, none⟩ t).heap → l.getD 20 true = true → l.getD 23 true = true → l.getD 26 true = true → Pend [(20, (ad.add (i * 7)), .string ⟨a.name.toArray⟩), (23, ⟨(ad.add (i * 7)).block, (ad.add (i * 7)).off + 1, none⟩, .string ⟨a.a.toArray⟩), (26, ⟨(ad.add (i * 7)).block, (ad.add (i * 7)).off + 2, none⟩, .string ⟨a.b.toArray⟩)] l W := by
                  intro u v t W l hW hl0 hl1 hl2 k hk hp
                  simp only [List.mem_cons, List.not_mem_nil, or_false] at hk; rcases hk with rfl | rfl | rfl
                  · rw [hl0] at hp; cases hp
                  · rw [hl1] at hp; cases hp
                  · rw [hl2] at hp; cases hp
                refine wp_region_T [(20, (ad.add (i * 7)), .string ⟨a.name.toArray⟩), (23, ⟨(ad.add (i * 7)).block, (ad.add (i * 7)).off + 1, none⟩, .string ⟨a.a.toArray⟩), (26, ⟨(ad.add (i * 7)).block, (ad.add (i * 7)).off + 2, none⟩, .string ⟨a.b.toArray⟩)] (by kernel_rfl) ?_
                refine wpAnyT_pure (i := 0) (v := ?vrn25) rfl (by as_aux_lemma => kernel_rfl) (by as_aux_lemma => kernel_rfl) (by as_aux_lemma => kernel_rfl) (by rfl) (fun _ _ _ h => h) (Or.inl ⟨by rfl, ?hyrn25⟩) (hS0 _) ?restrn25
                case hyrn25 => (intro w' hSw; clear hSw; go_simp; try with_reducible rfl)
                try simp only [Act.put, List.setIfInBounds_toArray, List.set_cons_zero, List.set_cons_succ]
                refine wpAnyT_pure (i := 1) (v := ?vrn26) rfl (by as_aux_lemma => kernel_rfl) (by as_aux_lemma => kernel_rfl) (by as_aux_lemma => kernel_rfl) (by rfl) (fun _ _ _ h => h) (Or.inl ⟨by rfl, ?hyrn26⟩) (hS0 _) ?restrn26
                case hyrn26 => (intro w' hSw; clear hSw; go_simp; try with_reducible rfl)
                try simp only [Act.put, List.setIfInBounds_toArray, List.set_cons_zero, List.set_cons_succ]
                refine wpAnyT_pure (i := 2) (v := ?vrn27) rfl (by as_aux_lemma => kernel_rfl) (by as_aux_lemma => kernel_rfl) (by as_aux_lemma => kernel_rfl) (by rfl) (fun _ _ _ h => h) (Or.inl ⟨by rfl, ?hyrn27⟩) (hS0 _) ?restrn27
                case hyrn27 => (intro w' hSw; clear hSw; go_simp; try with_reducible rfl)
                try simp only [Act.put, List.setIfInBounds_toArray, List.set_cons_zero, List.set_cons_succ]
                refine wpAnyT_pure (i := 3) (v := ?vrn28) rfl (by as_aux_lemma => kernel_rfl) (by as_aux_lemma => kernel_rfl) (by as_aux_lemma => kernel_rfl) (by rfl) (fun _ _ _ h => h) (Or.inl ⟨by rfl, ?hyrn28⟩) (hS0 _) ?restrn28
                case hyrn28 => (intro w' hSw; clear hSw; go_simp; try with_reducible rfl)
                try simp only [Act.put, List.setIfInBounds_toArray, List.set_cons_zero, List.set_cons_succ]
                refine wpAnyT_pure (i := 4) (v := ?vrn29) rfl (by as_aux_lemma => kernel_rfl) (by as_aux_lemma => kernel_rfl) (by as_aux_lemma => kernel_rfl) (by rfl) (fun _ _ _ h => h) (Or.inl ⟨by rfl, ?hyrn29⟩) (hS0 _) ?restrn29
                case hyrn29 => (intro w' hSw; clear hSw; go_simp; try with_reducible rfl)
                try simp only [Act.put, List.setIfInBounds_toArray, List.set_cons_zero, List.set_cons_succ]
                refine wpAnyT_pure (i := 5) (v := ?vrn30) rfl (by as_aux_lemma => kernel_rfl) (by as_aux_lemma => kernel_rfl) (by as_aux_lemma => kernel_rfl) (by rfl) (fun _ _ _ h => h) (Or.inl ⟨by rfl, ?hyrn30⟩) (hS0 _) ?restrn30
                case hyrn30 => (intro w' hSw; clear hSw; go_simp; try with_reducible rfl)
                try simp only [Act.put, List.setIfInBounds_toArray, List.set_cons_zero, List.set_cons_succ]
                refine wpAnyT_load (i := 6) (st := 20) (p := (ad.add (i * 7))) (u := .string ⟨a.name.toArray⟩) (v := ?vrn31) rfl rfl (by as_aux_lemma => kernel_rfl) (by simp) (by as_aux_lemma => kernel_rfl) (by as_aux_lemma => kernel_rfl) (by as_aux_lemma => kernel_rfl) (by as_aux_lemma => kernel_rfl) (by rfl) (fun _ _ _ h => h) (Or.inl ⟨by rfl, ?hyrn31⟩) (hS0 _) ?restrn31
                case hyrn31 => (intro w' hSw; go_simp; try with_reducible rfl)
                try simp only [Act.put, List.setIfInBounds_toArray, List.set_cons_zero, List.set_cons_succ]
                refine wpAnyT_pure (i := 7) (v := ?vrn32) rfl (by as_aux_lemma => kernel_rfl) (by as_aux_lemma => kernel_rfl) (by as_aux_lemma => kernel_rfl) (by rfl) (fun _ _ _ h => h) (Or.inl ⟨by rfl, ?hyrn32⟩) (hS0 _) ?restrn32
                case hyrn32 => (intro w' hSw; clear hSw; go_simp; try with_reducible rfl)
                try simp only [Act.put, List.setIfInBounds_toArray, List.set_cons_zero, List.set_cons_succ]
                refine wpAnyT_pure (i := 8) (v := ?vrn33) rfl (by as_aux_lemma => kernel_rfl) (by as_aux_lemma => kernel_rfl) (by as_aux_lemma => kernel_rfl) (by rfl) (fun _ _ _ h => h) (Or.inl ⟨by rfl, ?hyrn33⟩) (hS0 _) ?restrn33
                case hyrn33 => (intro w' hSw; clear hSw; go_simp; try with_reducible rfl)
                try simp only [Act.put, List.setIfInBounds_toArray, List.set_cons_zero, List.set_cons_succ]
                refine wpAnyT_pure (i := 9) (v := ?vrn34) rfl (by as_aux_lemma => kernel_rfl) (by as_aux_lemma => kernel_rfl) (by as_aux_lemma => kernel_rfl) (by rfl) (fun _ _ _ h => h) (Or.inl ⟨by rfl, ?hyrn34⟩) (hS0 _) ?restrn34
                case hyrn34 => (intro w' hSw; clear hSw; go_simp; try with_reducible rfl)
                try simp only [Act.put, List.setIfInBounds_toArray, List.set_cons_zero, List.set_cons_succ]
                refine wpAnyT_pure (i := 10) (v := ?vrn35) rfl (by as_aux_lemma => kernel_rfl) (by as_aux_lemma => kernel_rfl) (by as_aux_lemma => kernel_rfl) (by rfl) (fun _ _ _ h => h) (Or.inl ⟨by rfl, ?hyrn35⟩) (hS0 _) ?restrn35
                case hyrn35 => (intro w' hSw; clear hSw; go_simp; try with_reducible rfl)
                try simp only [Act.put, List.setIfInBounds_toArray, List.set_cons_zero, List.set_cons_succ]
                refine wpAnyT_load (i := 11) (st := 23) (p := ⟨(ad.add (i * 7)).block, (ad.add (i * 7)).off + 1, none⟩) (u := .string ⟨a.a.toArray⟩) (v := ?vrn36) rfl rfl (by as_aux_lemma => kernel_rfl) (by simp) (by as_aux_lemma => kernel_rfl) (by as_aux_lemma => kernel_rfl) (by as_aux_lemma => kernel_rfl) (by as_aux_lemma => kernel_rfl) (by rfl) (fun _ _ _ h => h) (Or.inl ⟨by rfl, ?hyrn36⟩) (hS0 _) ?restrn36
                case hyrn36 => (intro w' hSw; go_simp; try with_reducible rfl)
                try simp only [Act.put, List.setIfInBounds_toArray, List.set_cons_zero, List.set_cons_succ]
                refine wpAnyT_pure (i := 12) (v := ?vrn37) rfl (by as_aux_lemma => kernel_rfl) (by as_aux_lemma => kernel_rfl) (by as_aux_lemma => kernel_rfl) (by rfl) (fun _ _ _ h => h) (Or.inl ⟨by rfl, ?hyrn37⟩) (hS0 _) ?restrn37
                case hyrn37 => (intro w' hSw; clear hSw; go_simp; try with_reducible rfl)
                try simp only [Act.put, List.setIfInBounds_toArray, List.set_cons_zero, List.set_cons_succ]
                refine wpAnyT_pure (i := 13) (v := ?vrn38) rfl (by as_aux_lemma => kernel_rfl) (by as_aux_lemma => kernel_rfl) (by as_aux_lemma => kernel_rfl) (by rfl) (fun _ _ _ h => h) (Or.inl ⟨by rfl, ?hyrn38⟩) (hS0 _) ?restrn38
                case hyrn38 => (intro w' hSw; clear hSw; go_simp; try with_reducible rfl)
                try simp only [Act.put, List.setIfInBounds_toArray, List.set_cons_zero, List.set_cons_succ]
                refine wpAnyT_pure (i := 14) (v := ?vrn39) rfl (by as_aux_lemma => kernel_rfl) (by as_aux_lemma => kernel_rfl) (by as_aux_lemma => kernel_rfl) (by rfl) (fun _ _ _ h => h) (Or.inl ⟨by rfl, ?hyrn39⟩) (hS0 _) ?restrn39
                case hyrn39 => (intro w' hSw; clear hSw; go_simp; try with_reducible rfl)
                try simp only [Act.put, List.setIfInBounds_toArray, List.set_cons_zero, List.set_cons_succ]
                refine wpAnyT_pure (i := 15) (v := ?vrn40) rfl (by as_aux_lemma => kernel_rfl) (by as_aux_lemma => kernel_rfl) (by as_aux_lemma => kernel_rfl) (by rfl) (fun _ _ _ h => h) (Or.inl ⟨by rfl, ?hyrn40⟩) (hS0 _) ?restrn40
                case hyrn40 => (intro w' hSw; clear hSw; go_simp; try with_reducible rfl)
                try simp only [Act.put, List.setIfInBounds_toArray, List.set_cons_zero, List.set_cons_succ]
                refine wpAnyT_load (i := 16) (st := 26) (p := ⟨(ad.add (i * 7)).block, (ad.add (i * 7)).off + 2, none⟩) (u := .string ⟨a.b.toArray⟩) (v := ?vrn41) rfl rfl (by as_aux_lemma => kernel_rfl) (by simp) (by as_aux_lemma => kernel_rfl) (by as_aux_lemma => kernel_rfl) (by as_aux_lemma => kernel_rfl) (by as_aux_lemma => kernel_rfl) (by rfl) (fun _ _ _ h => h) (Or.inl ⟨by rfl, ?hyrn41⟩) (hS0 _) ?restrn41
                case hyrn41 => (intro w' hSw; go_simp; try with_reducible rfl)
                try simp only [Act.put, List.setIfInBounds_toArray, List.set_cons_zero, List.set_cons_succ]
                refine wpAnyT_pure (i := 17) (v := ?vrn42) rfl (by as_aux_lemma => kernel_rfl) (by as_aux_lemma => kernel_rfl) (by as_aux_lemma => kernel_rfl) (by rfl) (fun _ _ _ h => h) (Or.inl ⟨by rfl, ?hyrn42⟩) (hS0 _) ?restrn42
                case hyrn42 => (intro w' hSw; clear hSw; go_simp; try with_reducible rfl)
                try simp only [Act.put, List.setIfInBounds_toArray, List.set_cons_zero, List.set_cons_succ]
                have HRv : Hid (Rn w5 w6.heap.size sb [.int .i64 x.horizon, .slice A1 x.stops.length k1, .slice A2 x.paths.length k2, .slice (some ad) x.doors.length k3, .slice A4 x.routes.length k4, .slice A5 x.trips.length k5, .slice A6 x.hazards.length k6] (.slice A1 x.stops.length k1) (.slice A2 x.paths.length k2) (.slice (some ad) x.doors.length k3) (.slice A4 x.routes.length k4) (.slice A5 x.trips.length k5) (.slice A6 x.hazards.length k6) (⟨x.horizon, x.stops.map rz, x.paths.map rzP, upd rzD i x.doors, x.routes, x.trips, x.hazards⟩ : SheetM) wz) := HR
                have HEv := HE
                have HLn : Hid (Lg (max L (max (a.name.length : Int) (max (a.a.length : Int) (a.b.length : Int)))) (((True ∧ ∀ b ∈ x.stops, (fun a : Nm => a.length ≤ 22) b) ∧ ∀ b ∈ x.paths, (fun q : PathM => q.name.length ≤ 22 ∧ q.a.length ≤ 22 ∧ q.b.length ≤ 22) b) ∧ ∀ b ∈ x.doors.take (i + 1), (fun q : DoorM => q.name.length ≤ 22 ∧ q.a.length ≤ 22 ∧ q.b.length ≤ 22) b)) := Lib.hid (Lg.next HLG.out HA.out (by have := HLG.out.1; omega) (fun h => ⟨by omega, by omega⟩))
                refine wpAnyT_pure (i := 18) (v := ?vrn43) rfl (by as_aux_lemma => kernel_rfl) (by as_aux_lemma => kernel_rfl) (by as_aux_lemma => kernel_rfl) (by rfl) (fun _ _ _ h => h) (Or.inl ⟨by rfl, ?hyrn43⟩) (hS0 _) ?restrn43
                case hyrn43 => (intro w' hSw; clear hSw; go_simp; try with_reducible rfl)
                try simp only [Act.put, List.setIfInBounds_toArray, List.set_cons_zero, List.set_cons_succ]
                refine wpAnyT_pure (i := 19) (v := ?vrn44) rfl (by as_aux_lemma => kernel_rfl) (by as_aux_lemma => kernel_rfl) (by as_aux_lemma => kernel_rfl) (by rfl) (fun _ _ _ h => h) (Or.inl ⟨by rfl, ?hyrn44⟩) (hS0 _) ?restrn44
                case hyrn44 => (intro w' hSw; clear hSw; go_simp; try with_reducible rfl)
                try simp only [Act.put, List.setIfInBounds_toArray, List.set_cons_zero, List.set_cons_succ]
                refine wpAnyT_next (i := 20) rfl (by as_aux_lemma => kernel_rfl) (fun K hK => ?_)
                go_simp
                refine hK.out _ _ (hS1 _ _ _ rfl (by as_aux_lemma => kernel_rfl)) ?_
                clear hK K
                refine wpAnyT_pure (i := 21) (v := ?vrn45) rfl (by as_aux_lemma => kernel_rfl) (by as_aux_lemma => kernel_rfl) (by as_aux_lemma => kernel_rfl) (by rfl) (fun _ _ _ h => h) (Or.inl ⟨by rfl, ?hyrn45⟩) (hS1 _ _ _ rfl (by as_aux_lemma => kernel_rfl)) ?restrn45
                case hyrn45 => (intro w' hSw; clear hSw; go_simp; try with_reducible rfl)
                try simp only [Act.put, List.setIfInBounds_toArray, List.set_cons_zero, List.set_cons_succ]
                refine wpAnyT_pure (i := 22) (v := ?vrn46) rfl (by as_aux_lemma => kernel_rfl) (by as_aux_lemma => kernel_rfl) (by as_aux_lemma => kernel_rfl) (by rfl) (fun _ _ _ h => h) (Or.inl ⟨by rfl, ?hyrn46⟩) (hS1 _ _ _ rfl (by as_aux_lemma => kernel_rfl)) ?restrn46
                case hyrn46 => (intro w' hSw; clear hSw; go_simp; try with_reducible rfl)
                try simp only [Act.put, List.setIfInBounds_toArray, List.set_cons_zero, List.set_cons_succ]
                refine wpAnyT_next (i := 23) rfl (by as_aux_lemma => kernel_rfl) (fun K hK => ?_)
                go_simp
                refine hK.out _ _ (hS2 _ _ _ _ rfl (by as_aux_lemma => kernel_rfl) (by as_aux_lemma => kernel_rfl)) ?_
                clear hK K
                refine wpAnyT_pure (i := 24) (v := ?vrn47) rfl (by as_aux_lemma => kernel_rfl) (by as_aux_lemma => kernel_rfl) (by as_aux_lemma => kernel_rfl) (by rfl) (fun _ _ _ h => h) (Or.inl ⟨by rfl, ?hyrn47⟩) (hS2 _ _ _ _ rfl (by as_aux_lemma => kernel_rfl) (by as_aux_lemma => kernel_rfl)) ?restrn47
                case hyrn47 => (intro w' hSw; clear hSw; go_simp; try with_reducible rfl)
                try simp only [Act.put, List.setIfInBounds_toArray, List.set_cons_zero, List.set_cons_succ]
                refine wpAnyT_pure (i := 25) (v := ?vrn48) rfl (by as_aux_lemma => kernel_rfl) (by as_aux_lemma => kernel_rfl) (by as_aux_lemma => kernel_rfl) (by rfl) (fun _ _ _ h => h) (Or.inl ⟨by rfl, ?hyrn48⟩) (hS2 _ _ _ _ rfl (by as_aux_lemma => kernel_rfl) (by as_aux_lemma => kernel_rfl)) ?restrn48
                case hyrn48 => (intro w' hSw; clear hSw; go_simp; try with_reducible rfl)
                try simp only [Act.put, List.setIfInBounds_toArray, List.set_cons_zero, List.set_cons_succ]
                refine wpAnyT_next (i := 26) rfl (by as_aux_lemma => kernel_rfl) (fun K hK => ?_)
                go_simp
                refine hK.out _ _ (hS3 _ _ _ _ _ rfl (by as_aux_lemma => kernel_rfl) (by as_aux_lemma => kernel_rfl) (by as_aux_lemma => kernel_rfl)) ?_
                clear hK K
                refine wpAnyT_done (by as_aux_lemma => kernel_rfl) ?_ _
                clear hS0 hS1 hS2 hS3
                simp only [rz_bytes]
                go_wp2_with fail
                go_roundw
                case rel => exact ⟨_, i + 1, rfl, by go_num, by omega, HLn, Lib.hid (Rn.drew (Rn.put3 (x := (⟨x.horizon, x.stops.map rz, x.paths.map rzP, x.doors, x.routes, x.trips, x.hazards⟩ : SheetM)) HRv.out (by have := Z5.out; omega) rfl HA.out HEv.out))⟩
                case measure => simp [intOf]; omega
              · obtain rfl : i = x.doors.length := by omega
                have hi1 : ¬ (x.doors.length : Int) < (x.doors.length : Int) := by omega
                have LG3 := Lib.hid (Lg.full HLG.out)
                have HR3 : Hid (Rn w5 w6.heap.size sb [.int .i64 x.horizon, .slice A1 x.stops.length k1, .slice A2 x.paths.length k2, .slice A3 x.doors.length k3, .slice A4 x.routes.length k4, .slice A5 x.trips.length k5, .slice A6 x.hazards.length k6] (.slice A1 x.stops.length k1) (.slice A2 x.paths.length k2) (.slice A3 x.doors.length k3) (.slice A4 x.routes.length k4) (.slice A5 x.trips.length k5) (.slice A6 x.hazards.length k6) (⟨x.horizon, x.stops.map rz, x.paths.map rzP, x.doors.map rzD, x.routes, x.trips, x.hazards⟩ : SheetM) wr) := Lib.hid (by have h := HR.out; rw [upd_all] at h; exact h)
                clear HLG HR hi hlt
                go_wp2_with fail
                go_loopw [6, 12] (fun v6 v7 wr => ∃ (L : Int) (i : Nat), v6 = .int .i64 L ∧ v7 = .int .i64 i ∧ i ≤ x.routes.length ∧ Hid (Lg L ((((True ∧ ∀ b ∈ x.stops, (fun a : Nm => a.length ≤ 22) b) ∧ ∀ b ∈ x.paths, (fun q : PathM => q.name.length ≤ 22 ∧ q.a.length ≤ 22 ∧ q.b.length ≤ 22) b) ∧ ∀ b ∈ x.doors, (fun q : DoorM => q.name.length ≤ 22 ∧ q.a.length ≤ 22 ∧ q.b.length ≤ 22) b) ∧ ∀ b ∈ x.routes.take i, (fun q : RouteM => q.name.length ≤ 22 ∧ ∀ s ∈ q.stops, s.length ≤ 22) b)) ∧ Hid (Rn w5 w6.heap.size sb [.int .i64 x.horizon, .slice A1 x.stops.length k1, .slice A2 x.paths.length k2, .slice A3 x.doors.length k3, .slice A4 x.routes.length k4, .slice A5 x.trips.length k5, .slice A6 x.hazards.length k6] (.slice A1 x.stops.length k1) (.slice A2 x.paths.length k2) (.slice A3 x.doors.length k3) (.slice A4 x.routes.length k4) (.slice A5 x.trips.length k5) (.slice A6 x.hazards.length k6) (⟨x.horizon, x.stops.map rz, x.paths.map rzP, x.doors.map rzD, upd rzR i x.routes, x.trips, x.hazards⟩ : SheetM) wr)) (fun _ v _ => x.routes.length - (intOf v).toNat)
                case atStart => exact ⟨_, 0, rfl, rfl, by omega, Lib.hid (Lg.zero _ _ LG3.out), Lib.hid (by rw [upd_zero]; exact HR3.out)⟩
                case round =>
                  clear HR3 LG3
                  obtain ⟨L, i, rfl, rfl, hi, HLG, HR⟩ := hrel
                  have y1 : wr.cell? ⟨w6.heap.size, 4, none⟩ = some (.slice A4 x.routes.length k4) := HR.out.k.cell 4
                  by_cases hlt : i < x.routes.length
                  · as_aux_lemma =>
                      obtain ⟨r, ha⟩ : ∃ a, x.routes[i]? = some a := ⟨_, List.getElem?_eq_getElem hlt⟩
                      have hi1 : (i : Int) < (x.routes.length : Int) := by omega
                      have hn0 := HX.out.l4
                      have hn1 := (HX.out.lr r (List.mem_of_getElem? ha)).1
                      obtain ⟨ad, sa, sc, hA, i0, i1, f0, -, hname, -⟩ := Rn.at4 (x := (⟨x.horizon, x.stops.map rz, x.paths.map rzP, x.doors.map rzD, x.routes, x.trips, x.hazards⟩ : SheetM)) HR.out (upd_len _ _ _) (upd_at rzR ha)
                      subst hA
                      have HNM := Lib.hid (hname (rz r.name))
                      have HA := Lib.hid ha
                      have HBD := Lib.hid (HSB.out.r r (List.mem_of_getElem? ha))
                      have g0 : ¬ 9223372036854775807 < 1 + r.name.length := by have := HBD.out.1; omega
                      clear hname ha i1 HR
                      go_upto_region 31 with fail
                      simp only [rz_bytes]
                      have HR : Hid (Rn w5 w6.heap.size sb [.int .i64 x.horizon, .slice A1 x.stops.length k1, .slice A2 x.paths.length k2, .slice A3 x.doors.length k3, .slice (some ad) x.routes.length k4, .slice A5 x.trips.length k5, .slice A6 x.hazards.length k6] (.slice A1 x.stops.length k1) (.slice A2 x.paths.length k2) (.slice A3 x.doors.length k3) (.slice (some ad) x.routes.length k4) (.slice A5 x.trips.length k5) (.slice A6 x.hazards.length k6) (⟨x.horizon, x.stops.map rz, x.paths.map rzP, x.doors.map rzD, (upd rzR i x.routes).set i (rzN r 0), x.trips, x.hazards⟩ : SheetM) (wr.setCell (ad.add (i * 4)) (.string ⟨(rz r.name).toArray⟩))) := Lib.hid (by rw [rzN_zero]; exact HNM.out)
                      have LGi : Hid (Lg (max L r.name.length) ((((((True ∧ ∀ b ∈ x.stops, (fun a : Nm => a.length ≤ 22) b) ∧ ∀ b ∈ x.paths, (fun q : PathM => q.name.length ≤ 22 ∧ q.a.length ≤ 22 ∧ q.b.length ≤ 22) b) ∧ ∀ b ∈ x.doors, (fun q : DoorM => q.name.length ≤ 22 ∧ q.a.length ≤ 22 ∧ q.b.length ≤ 22) b) ∧ ∀ b ∈ x.routes.take i, (fun q : RouteM => q.name.length ≤ 22 ∧ ∀ s ∈ q.stops, s.length ≤ 22) b) ∧ r.name.length ≤ 22) ∧ ∀ s ∈ r.stops.take 0, (fun s : Nm => s.length ≤ 22) s)) := Lib.hid (Lg.zero _ _ ⟨by have := HLG.out.1; omega, fun h => ⟨HLG.out.2 (by omega), by omega⟩⟩)
                      clear HNM HLG
                      generalize wr.setCell (ad.add (i * 4)) (.string ⟨(rz r.name).toArray⟩) = wx at *
                      clear y1 i0 f0 g0 hi1
                      go_wp2_with fail
                      go_loopw [6, 14] (fun v6 v7 wr => ∃ (L : Int) (k : Nat), v6 = .int .i64 L ∧ v7 = .int .i64 k ∧ k ≤ r.stops.length ∧ Hid (Lg L ((((((True ∧ ∀ b ∈ x.stops, (fun a : Nm => a.length ≤ 22) b) ∧ ∀ b ∈ x.paths, (fun q : PathM => q.name.length ≤ 22 ∧ q.a.length ≤ 22 ∧ q.b.length ≤ 22) b) ∧ ∀ b ∈ x.doors, (fun q : DoorM => q.name.length ≤ 22 ∧ q.a.length ≤ 22 ∧ q.b.length ≤ 22) b) ∧ ∀ b ∈ x.routes.take i, (fun q : RouteM => q.name.length ≤ 22 ∧ ∀ s ∈ q.stops, s.length ≤ 22) b) ∧ r.name.length ≤ 22) ∧ ∀ s ∈ r.stops.take k, (fun s : Nm => s.length ≤ 22) s)) ∧ Hid (Rn w5 w6.heap.size sb [.int .i64 x.horizon, .slice A1 x.stops.length k1, .slice A2 x.paths.length k2, .slice A3 x.doors.length k3, .slice (some ad) x.routes.length k4, .slice A5 x.trips.length k5, .slice A6 x.hazards.length k6] (.slice A1 x.stops.length k1) (.slice A2 x.paths.length k2) (.slice A3 x.doors.length k3) (.slice (some ad) x.routes.length k4) (.slice A5 x.trips.length k5) (.slice A6 x.hazards.length k6) (⟨x.horizon, x.stops.map rz, x.paths.map rzP, x.doors.map rzD, (upd rzR i x.routes).set i (rzN r k), x.trips, x.hazards⟩ : SheetM) wr)) (fun _ v _ => r.stops.length - (intOf v).toNat)
                      case atStart => exact ⟨_, 0, rfl, rfl, by omega, LGi, HR⟩
                      case round =>
                        clear HR LGi
                        obtain ⟨L, k, rfl, rfl, hk, HLG, HR⟩ := hrel
                        obtain ⟨ad', sa, sc, hA, i0, i1, f0, hrow, -, hcont⟩ := Rn.at4 (x := (⟨x.horizon, x.stops.map rz, x.paths.map rzP, x.doors.map rzD, x.routes, x.trips, x.hazards⟩ : SheetM)) (n := x.routes.length) (r := rzN r k) HR.out (by simp [upd_len]) (by rw [List.getElem?_set_self (by rw [upd_len]; exact hlt)])
                        injection hA with hA
                        subst hA
                        have hln : (rzN r k).stops.length = r.stops.length := upd_len _ _ _
                        rw [hln] at i1 hrow hcont
                        by_cases hkt : k < r.stops.length
                        · as_aux_lemma =>
                            obtain ⟨s, hs⟩ : ∃ a, r.stops[k]? = some a := ⟨_, List.getElem?_eq_getElem hkt⟩
                            have hi1 : (k : Int) < (r.stops.length : Int) := by omega
                            have hrw : wr.ownsRow 0 9 1 (.slice sa r.stops.length sc) r.stops.length (cs strC (upd rz k r.stops)) := hrow
                            obtain ⟨ad2, hE⟩ := own_el hrw (by omega)
                            have hA := hE.hA
                            subst hA
                            have i2 : wr.cell? (ad2.add k) = some (.string ⟨s.toArray⟩) := hE.cell k _ (by have := cs_at strC 1 (fun _ => rfl) _ k s (upd_at rz hs) 0 (by omega); simpa [strC] using this)
                            have f2 : wr.frozen? (ad2.add k) = false := hE.fz k
                            have g1 : ¬ 9223372036854775807 < 1 + s.length := by have := HBD.out.2 s (List.mem_of_getElem? hs); omega
                            have hp := hE.put hrw k (.string ⟨(rz s).toArray⟩)
                            have he := cs_put1 (f := strC) (sz := 1) (a' := rz s) (u0 := .string ⟨(rz s).toArray⟩) (fun _ => rfl) (upd_at rz hs) (by omega) rfl
                            rw [Nat.mul_one, ← upd_next rz hs] at he
                            rw [he] at hp
                            have HN := Lib.hid (hcont (upd rz (k + 1) r.stops) (ad2.add k) (.string ⟨(rz s).toArray⟩) (upd_len _ _ _) hp.2.1 hp.1)
                            have HS1 := Lib.hid hs
                            clear hp he hE hrw hrow hcont hs hln
                            go_upto_region 35 with fail
                            refine wp_region_still_tail 14 (by kernel_rfl) (by as_aux_lemma => kernel_rfl) ?_
                            simp only [List.take_succ_cons, List.take_zero, List.drop_succ_cons, List.drop_zero]
                            iterate 14 still_step
                            refine wpStill_nil ?_
                            simp only [rz_bytes]
                            go_wp2_with fail
                            go_roundw
                            case rel => exact ⟨_, k + 1, rfl, by go_num, by omega, Lib.hid (Lg.next HLG.out HS1.out (by have := HLG.out.1; omega) (fun h => ⟨by omega, by omega⟩)), Lib.hid (Rn.drew (by have h := HN.out; rw [List.set_set] at h; exact h))⟩
                            case measure => simp [intOf]; omega
                        · obtain rfl : k = r.stops.length := by omega
                          have hi2 : ¬ (r.stops.length : Int) < (r.stops.length : Int) := by omega
                          have LGo := Lib.hid (Lg.done (ok := fun q : RouteM => q.name.length ≤ 22 ∧ ∀ s ∈ q.stops, s.length ≤ 22) HLG.out HA.out (fun h1 h2 => ⟨h1, by rwa [List.take_length] at h2⟩))
                          have HRo : Hid (Rn w5 w6.heap.size sb [.int .i64 x.horizon, .slice A1 x.stops.length k1, .slice A2 x.paths.length k2, .slice A3 x.doors.length k3, .slice (some ad) x.routes.length k4, .slice A5 x.trips.length k5, .slice A6 x.hazards.length k6] (.slice A1 x.stops.length k1) (.slice A2 x.paths.length k2) (.slice A3 x.doors.length k3) (.slice (some ad) x.routes.length k4) (.slice A5 x.trips.length k5) (.slice A6 x.hazards.length k6) (⟨x.horizon, x.stops.map rz, x.paths.map rzP, x.doors.map rzD, upd rzR (i + 1) x.routes, x.trips, x.hazards⟩ : SheetM) wr) := Lib.hid (by have h := HR.out; rw [rzN_all, ← upd_next rzR HA.out] at h; exact h)
                          clear hrow hcont hln HR HLG f0 i0
                          go_wp2_with fail
                          go_roundw
                          case rel => exact ⟨_, i + 1, rfl, by go_num, by omega, LGo, HRo⟩
                          case measure => simp [intOf]; omega
                  · obtain rfl : i = x.routes.length := by omega
                    have hi1 : ¬ (x.routes.length : Int) < (x.routes.length : Int) := by omega
                    have LG4 := Lib.hid (Lg.full HLG.out)
                    have HR4 : Hid (Rn w5 w6.heap.size sb [.int .i64 x.horizon, .slice A1 x.stops.length k1, .slice A2 x.paths.length k2, .slice A3 x.doors.length k3, .slice A4 x.routes.length k4, .slice A5 x.trips.length k5, .slice A6 x.hazards.length k6] (.slice A1 x.stops.length k1) (.slice A2 x.paths.length k2) (.slice A3 x.doors.length k3) (.slice A4 x.routes.length k4) (.slice A5 x.trips.length k5) (.slice A6 x.hazards.length k6) (⟨x.horizon, x.stops.map rz, x.paths.map rzP, x.doors.map rzD, x.routes.map rzR, x.trips, x.hazards⟩ : SheetM) wr) := Lib.hid (by have h := HR.out; rw [upd_all] at h; exact h)
                    clear HLG HR hi hlt
                    go_wp2_with fail
                    go_loopw [6, 15] (fun v6 v7 wr => ∃ (L : Int) (i : Nat), v6 = .int .i64 L ∧ v7 = .int .i64 i ∧ i ≤ x.trips.length ∧ Hid (Lg L (((((True ∧ ∀ b ∈ x.stops, (fun a : Nm => a.length ≤ 22) b) ∧ ∀ b ∈ x.paths, (fun q : PathM => q.name.length ≤ 22 ∧ q.a.length ≤ 22 ∧ q.b.length ≤ 22) b) ∧ ∀ b ∈ x.doors, (fun q : DoorM => q.name.length ≤ 22 ∧ q.a.length ≤ 22 ∧ q.b.length ≤ 22) b) ∧ ∀ b ∈ x.routes, (fun q : RouteM => q.name.length ≤ 22 ∧ ∀ s ∈ q.stops, s.length ≤ 22) b) ∧ ∀ b ∈ x.trips.take i, (fun q : TripM => q.name.length ≤ 22 ∧ q.route.length ≤ 22) b)) ∧ Hid (Rn w5 w6.heap.size sb [.int .i64 x.horizon, .slice A1 x.stops.length k1, .slice A2 x.paths.length k2, .slice A3 x.doors.length k3, .slice A4 x.routes.length k4, .slice A5 x.trips.length k5, .slice A6 x.hazards.length k6] (.slice A1 x.stops.length k1) (.slice A2 x.paths.length k2) (.slice A3 x.doors.length k3) (.slice A4 x.routes.length k4) (.slice A5 x.trips.length k5) (.slice A6 x.hazards.length k6) (⟨x.horizon, x.stops.map rz, x.paths.map rzP, x.doors.map rzD, x.routes.map rzR, upd rzT i x.trips, x.hazards⟩ : SheetM) wr)) (fun _ v _ => x.trips.length - (intOf v).toNat)
                    case atStart => exact ⟨_, 0, rfl, rfl, by omega, Lib.hid (Lg.zero _ _ LG4.out), Lib.hid (by rw [upd_zero]; exact HR4.out)⟩
                    case round =>
                      clear HR4 LG4
                      obtain ⟨L, i, rfl, rfl, hi, HLG, HR⟩ := hrel
                      have y1 : wr.cell? ⟨w6.heap.size, 5, none⟩ = some (.slice A5 x.trips.length k5) := HR.out.k.cell 5
                      by_cases hlt : i < x.trips.length
                      · skip
                        obtain ⟨a, ha⟩ : ∃ a, x.trips[i]? = some a := ⟨_, List.getElem?_eq_getElem hlt⟩
                        have hi1 : (i : Int) < (x.trips.length : Int) := by omega
                        have hn0 := HX.out.l5
                        have hr : wr.ownsRow (w5.heap.size + 1 + 1) 67 5 (.slice A5 x.trips.length k5) x.trips.length (cs trC (upd rzT i x.trips)) := by have h1 : wr.ownsRow _ _ _ _ (upd rzT i x.trips).length _ := HR.out.o.r5; rw [upd_len] at h1; exact h1
                        obtain ⟨ad, hE⟩ := own_el hr (by omega)
                        have hA := hE.hA
                        subst hA
                        have HE := Lib.hid hE
                        have HA := Lib.hid ha
                        have i0 : wr.cell? (ad.add (i * 5)) = some (.string ⟨a.name.toArray⟩) := hE.cell (i * 5) _ (by have := cs_at trC 5 (fun _ => rfl) _ i a (upd_at rzT ha) 0 (by omega); simpa [trC] using this)
                        have f0 : wr.frozen? (ad.add (i * 5)) = false := hE.fz (i * 5)
                        have i1 : wr.cell? ⟨(ad.add (i * 5)).block, (ad.add (i * 5)).off + 1, none⟩ = some (.string ⟨a.route.toArray⟩) := by rw [hE.eq]; exact hE.cell _ _ (by have := cs_at trC 5 (fun _ => rfl) _ i a (upd_at rzT ha) 1 (by omega); simpa [trC] using this)
                        have f1 : wr.frozen? ⟨(ad.add (i * 5)).block, (ad.add (i * 5)).off + 1, none⟩ = false := by rw [hE.eq]; exact hE.fz _
                        have hbd := HSB.out.t a (List.mem_of_getElem? ha)
                        have g0 : ¬ 9223372036854775807 < 1 + a.name.length := by omega
                        have g1 : ¬ 9223372036854775807 < 1 + a.route.length := by omega
                        clear hr hE ha hbd
                        go_upto_region 40 with fail
                        refine wp_region_still_tail 11 (by kernel_rfl) (by as_aux_lemma => kernel_rfl) ?_
                        simp only [List.take_succ_cons, List.take_zero, List.drop_succ_cons, List.drop_zero]
                        iterate 11 still_step
                        refine wpStill_nil ?_
                        change wpList _ _ _ _ _ (World.drew wr)
                        obtain ⟨wz, hwz⟩ : ∃ v, v = World.drew wr := ⟨_, rfl⟩
                        rw [← hwz]
                        have z0 : wz.cell? (ad.add (i * 5)) = some (.string ⟨a.name.toArray⟩) := by rw [hwz]; exact i0
                        have zf0 : wz.frozen? (ad.add (i * 5)) = false := by rw [hwz]; exact f0
                        have z1 : wz.cell? ⟨(ad.add (i * 5)).block, (ad.add (i * 5)).off + 1, none⟩ = some (.string ⟨a.route.toArray⟩) := by rw [hwz]; exact i1
                        have zf1 : wz.frozen? ⟨(ad.add (i * 5)).block, (ad.add (i * 5)).off + 1, none⟩ = false := by rw [hwz]; exact f1
                        have zc1 : ∀ u, (wz.setCell (ad.add (i * 5)) u).cell? ⟨(ad.add (i * 5)).block, (ad.add (i * 5)).off + 1, none⟩ = some (.string ⟨a.route.toArray⟩) := fun u => (World.cell?_setCell_other _ _ _ _ (by intro e; have := congrArg Addr.off e; dsimp only at this; omega)).trans z1
                        have HRz : Hid (Rn w5 w6.heap.size sb [.int .i64 x.horizon, .slice A1 x.stops.length k1, .slice A2 x.paths.length k2, .slice A3 x.doors.length k3, .slice A4 x.routes.length k4, .slice (some ad) x.trips.length k5, .slice A6 x.hazards.length k6] (.slice A1 x.stops.length k1) (.slice A2 x.paths.length k2) (.slice A3 x.doors.length k3) (.slice A4 x.routes.length k4) (.slice (some ad) x.trips.length k5) (.slice A6 x.hazards.length k6) (⟨x.horizon, x.stops.map rz, x.paths.map rzP, x.doors.map rzD, x.routes.map rzR, upd rzT i x.trips, x.hazards⟩ : SheetM) wz) := Lib.hid (by rw [hwz]; exact Rn.drew HR.out)
                        have HEz := Lib.hid (El.drew HE.out)
                        rw [← hwz] at HEz
                        clear hwz HR HE y1 i0 f0 i1 f1
                        have HR := HRz
                        have HE := HEz
                        clear HRz HEz
                        refine wpList_max3 rfl (.tmp 232) (.tmp 237) (.tmp 242) _ rfl rfl rfl rfl  ?_
                        go_upto_region 41 with fail
                        have hS0 : ∀ l, Pend [(14, (ad.add (i * 5)), .string ⟨a.name.toArray⟩), (17, ⟨(ad.add (i * 5)).block, (ad.add (i * 5)).off + 1, none⟩, .string ⟨a.route.toArray⟩)] l (World.drew wz) := fun l k hk _ => by simp only [List.mem_cons, List.not_mem_nil, or_false] at hk; rcases hk with rfl | rfl <;> first | exact z0 | exact z1
                        have hS1 : ∀ (u : Value) (W : World) (l : Array Bool), W.heap = (wz.setCell (ad.add (i * 5)) u).heap → l.getD 14 true = true → Pend [(14, (ad.add (i * 5)), .string ⟨a.name.toArray⟩), (17, ⟨(ad.add (i * 5)).block, (ad.add (i * 5)).off + 1, none⟩, .string ⟨a.route.toArray⟩)] l W := by
                          intro u W l hW hl0 k hk hp
                          simp only [List.mem_cons, List.not_mem_nil, or_false] at hk; rcases hk with rfl | rfl
                          · rw [hl0] at hp; cases hp
                          · exact (cell_heap hW).trans ((World.cell?_setCell_other _ _ _ _ (by intro e; have := congrArg Addr.off e; dsimp only at this; omega)).trans (z1))
                        have hS2 : ∀ (u v : Value) (W : World) (l : Array Bool), W.heap = ((wz.setCell (ad.add (i * 5)) u).setCell ⟨(ad.add (i * 5)).block, (ad.add (i * 5)).off + 1, none⟩ v).heap → l.getD 14 true = true → l.getD 17 true = true → Pend [(14, (ad.add (i * 5)), .string ⟨a.name.toArray⟩), (17, ⟨(ad.add (i * 5)).block, (ad.add (i * 5)).off + 1, none⟩, .string ⟨a.route.toArray⟩)] l W := by
                          intro u v W l hW hl0 hl1 k hk hp
                          simp only [List.mem_cons, List.not_mem_nil, or_false] at hk; rcases hk with rfl | rfl
                          · rw [hl0] at hp; cases hp
                          · rw [hl1] at hp; cases hp
                        refine wp_region_T [(14, (ad.add (i * 5)), .string ⟨a.name.toArray⟩), (17, ⟨(ad.add (i * 5)).block, (ad.add (i * 5)).off + 1, none⟩, .string ⟨a.route.toArray⟩)] (by kernel_rfl) ?_
                        refine wpAnyT_pure (i := 0) (v := ?vrn49) rfl (by as_aux_lemma => kernel_rfl) (by as_aux_lemma => kernel_rfl) (by as_aux_lemma => kernel_rfl) (by rfl) (fun _ _ _ h => h) (Or.inl ⟨by rfl, ?hyrn49⟩) (hS0 _) ?restrn49
                        case hyrn49 => (intro w' hSw; clear hSw; go_simp; try with_reducible rfl)
                        try simp only [Act.put, List.setIfInBounds_toArray, List.set_cons_zero, List.set_cons_succ]
                        refine wpAnyT_pure (i := 1) (v := ?vrn50) rfl (by as_aux_lemma => kernel_rfl) (by as_aux_lemma => kernel_rfl) (by as_aux_lemma => kernel_rfl) (by rfl) (fun _ _ _ h => h) (Or.inl ⟨by rfl, ?hyrn50⟩) (hS0 _) ?restrn50
                        case hyrn50 => (intro w' hSw; clear hSw; go_simp; try with_reducible rfl)
                        try simp only [Act.put, List.setIfInBounds_toArray, List.set_cons_zero, List.set_cons_succ]
                        refine wpAnyT_pure (i := 2) (v := ?vrn51) rfl (by as_aux_lemma => kernel_rfl) (by as_aux_lemma => kernel_rfl) (by as_aux_lemma => kernel_rfl) (by rfl) (fun _ _ _ h => h) (Or.inl ⟨by rfl, ?hyrn51⟩) (hS0 _) ?restrn51
                        case hyrn51 => (intro w' hSw; clear hSw; go_simp; try with_reducible rfl)
                        try simp only [Act.put, List.setIfInBounds_toArray, List.set_cons_zero, List.set_cons_succ]
                        refine wpAnyT_pure (i := 3) (v := ?vrn52) rfl (by as_aux_lemma => kernel_rfl) (by as_aux_lemma => kernel_rfl) (by as_aux_lemma => kernel_rfl) (by rfl) (fun _ _ _ h => h) (Or.inl ⟨by rfl, ?hyrn52⟩) (hS0 _) ?restrn52
                        case hyrn52 => (intro w' hSw; clear hSw; go_simp; try with_reducible rfl)
                        try simp only [Act.put, List.setIfInBounds_toArray, List.set_cons_zero, List.set_cons_succ]
                        refine wpAnyT_pure (i := 4) (v := ?vrn53) rfl (by as_aux_lemma => kernel_rfl) (by as_aux_lemma => kernel_rfl) (by as_aux_lemma => kernel_rfl) (by rfl) (fun _ _ _ h => h) (Or.inl ⟨by rfl, ?hyrn53⟩) (hS0 _) ?restrn53
                        case hyrn53 => (intro w' hSw; clear hSw; go_simp; try with_reducible rfl)
                        try simp only [Act.put, List.setIfInBounds_toArray, List.set_cons_zero, List.set_cons_succ]
                        refine wpAnyT_load (i := 5) (st := 14) (p := (ad.add (i * 5))) (u := .string ⟨a.name.toArray⟩) (v := ?vrn54) rfl rfl (by as_aux_lemma => kernel_rfl) (by simp) (by as_aux_lemma => kernel_rfl) (by as_aux_lemma => kernel_rfl) (by as_aux_lemma => kernel_rfl) (by as_aux_lemma => kernel_rfl) (by rfl) (fun _ _ _ h => h) (Or.inl ⟨by rfl, ?hyrn54⟩) (hS0 _) ?restrn54
                        case hyrn54 => (intro w' hSw; go_simp; try with_reducible rfl)
                        try simp only [Act.put, List.setIfInBounds_toArray, List.set_cons_zero, List.set_cons_succ]
                        refine wpAnyT_pure (i := 6) (v := ?vrn55) rfl (by as_aux_lemma => kernel_rfl) (by as_aux_lemma => kernel_rfl) (by as_aux_lemma => kernel_rfl) (by rfl) (fun _ _ _ h => h) (Or.inl ⟨by rfl, ?hyrn55⟩) (hS0 _) ?restrn55
                        case hyrn55 => (intro w' hSw; clear hSw; go_simp; try with_reducible rfl)
                        try simp only [Act.put, List.setIfInBounds_toArray, List.set_cons_zero, List.set_cons_succ]
                        refine wpAnyT_pure (i := 7) (v := ?vrn56) rfl (by as_aux_lemma => kernel_rfl) (by as_aux_lemma => kernel_rfl) (by as_aux_lemma => kernel_rfl) (by rfl) (fun _ _ _ h => h) (Or.inl ⟨by rfl, ?hyrn56⟩) (hS0 _) ?restrn56
                        case hyrn56 => (intro w' hSw; clear hSw; go_simp; try with_reducible rfl)
                        try simp only [Act.put, List.setIfInBounds_toArray, List.set_cons_zero, List.set_cons_succ]
                        refine wpAnyT_pure (i := 8) (v := ?vrn57) rfl (by as_aux_lemma => kernel_rfl) (by as_aux_lemma => kernel_rfl) (by as_aux_lemma => kernel_rfl) (by rfl) (fun _ _ _ h => h) (Or.inl ⟨by rfl, ?hyrn57⟩) (hS0 _) ?restrn57
                        case hyrn57 => (intro w' hSw; clear hSw; go_simp; try with_reducible rfl)
                        try simp only [Act.put, List.setIfInBounds_toArray, List.set_cons_zero, List.set_cons_succ]
                        refine wpAnyT_pure (i := 9) (v := ?vrn58) rfl (by as_aux_lemma => kernel_rfl) (by as_aux_lemma => kernel_rfl) (by as_aux_lemma => kernel_rfl) (by rfl) (fun _ _ _ h => h) (Or.inl ⟨by rfl, ?hyrn58⟩) (hS0 _) ?restrn58
                        case hyrn58 => (intro w' hSw; clear hSw; go_simp; try with_reducible rfl)
                        try simp only [Act.put, List.setIfInBounds_toArray, List.set_cons_zero, List.set_cons_succ]
                        refine wpAnyT_load (i := 10) (st := 17) (p := ⟨(ad.add (i * 5)).block, (ad.add (i * 5)).off + 1, none⟩) (u := .string ⟨a.route.toArray⟩) (v := ?vrn59) rfl rfl (by as_aux_lemma => kernel_rfl) (by simp) (by as_aux_lemma => kernel_rfl) (by as_aux_lemma => kernel_rfl) (by as_aux_lemma => kernel_rfl) (by as_aux_lemma => kernel_rfl) (by rfl) (fun _ _ _ h => h) (Or.inl ⟨by rfl, ?hyrn59⟩) (hS0 _) ?restrn59
                        case hyrn59 => (intro w' hSw; go_simp; try with_reducible rfl)
                        try simp only [Act.put, List.setIfInBounds_toArray, List.set_cons_zero, List.set_cons_succ]
                        refine wpAnyT_pure (i := 11) (v := ?vrn60) rfl (by as_aux_lemma => kernel_rfl) (by as_aux_lemma => kernel_rfl) (by as_aux_lemma => kernel_rfl) (by rfl) (fun _ _ _ h => h) (Or.inl ⟨by rfl, ?hyrn60⟩) (hS0 _) ?restrn60
                        case hyrn60 => (intro w' hSw; clear hSw; go_simp; try with_reducible rfl)
                        try simp only [Act.put, List.setIfInBounds_toArray, List.set_cons_zero, List.set_cons_succ]
                        have HRv : Hid (Rn w5 w6.heap.size sb [.int .i64 x.horizon, .slice A1 x.stops.length k1, .slice A2 x.paths.length k2, .slice A3 x.doors.length k3, .slice A4 x.routes.length k4, .slice (some ad) x.trips.length k5, .slice A6 x.hazards.length k6] (.slice A1 x.stops.length k1) (.slice A2 x.paths.length k2) (.slice A3 x.doors.length k3) (.slice A4 x.routes.length k4) (.slice (some ad) x.trips.length k5) (.slice A6 x.hazards.length k6) (⟨x.horizon, x.stops.map rz, x.paths.map rzP, x.doors.map rzD, x.routes.map rzR, upd rzT i x.trips, x.hazards⟩ : SheetM) wz) := HR
                        have HEv := HE
                        have HLn : Hid (Lg (max L (max (a.name.length : Int) (a.route.length : Int))) (((((True ∧ ∀ b ∈ x.stops, (fun a : Nm => a.length ≤ 22) b) ∧ ∀ b ∈ x.paths, (fun q : PathM => q.name.length ≤ 22 ∧ q.a.length ≤ 22 ∧ q.b.length ≤ 22) b) ∧ ∀ b ∈ x.doors, (fun q : DoorM => q.name.length ≤ 22 ∧ q.a.length ≤ 22 ∧ q.b.length ≤ 22) b) ∧ ∀ b ∈ x.routes, (fun q : RouteM => q.name.length ≤ 22 ∧ ∀ s ∈ q.stops, s.length ≤ 22) b) ∧ ∀ b ∈ x.trips.take (i + 1), (fun q : TripM => q.name.length ≤ 22 ∧ q.route.length ≤ 22) b)) := Lib.hid (Lg.next HLG.out HA.out (by have := HLG.out.1; omega) (fun h => ⟨by omega, by omega⟩))
                        refine wpAnyT_pure (i := 12) (v := ?vrn61) rfl (by as_aux_lemma => kernel_rfl) (by as_aux_lemma => kernel_rfl) (by as_aux_lemma => kernel_rfl) (by rfl) (fun _ _ _ h => h) (Or.inl ⟨by rfl, ?hyrn61⟩) (hS0 _) ?restrn61
                        case hyrn61 => (intro w' hSw; clear hSw; go_simp; try with_reducible rfl)
                        try simp only [Act.put, List.setIfInBounds_toArray, List.set_cons_zero, List.set_cons_succ]
                        refine wpAnyT_pure (i := 13) (v := ?vrn62) rfl (by as_aux_lemma => kernel_rfl) (by as_aux_lemma => kernel_rfl) (by as_aux_lemma => kernel_rfl) (by rfl) (fun _ _ _ h => h) (Or.inl ⟨by rfl, ?hyrn62⟩) (hS0 _) ?restrn62
                        case hyrn62 => (intro w' hSw; clear hSw; go_simp; try with_reducible rfl)
                        try simp only [Act.put, List.setIfInBounds_toArray, List.set_cons_zero, List.set_cons_succ]
                        refine wpAnyT_next (i := 14) rfl (by as_aux_lemma => kernel_rfl) (fun K hK => ?_)
                        go_simp
                        refine hK.out _ _ (hS1 _ _ _ rfl (by as_aux_lemma => kernel_rfl)) ?_
                        clear hK K
                        refine wpAnyT_pure (i := 15) (v := ?vrn63) rfl (by as_aux_lemma => kernel_rfl) (by as_aux_lemma => kernel_rfl) (by as_aux_lemma => kernel_rfl) (by rfl) (fun _ _ _ h => h) (Or.inl ⟨by rfl, ?hyrn63⟩) (hS1 _ _ _ rfl (by as_aux_lemma => kernel_rfl)) ?restrn63
                        case hyrn63 => (intro w' hSw; clear hSw; go_simp; try with_reducible rfl)
                        try simp only [Act.put, List.setIfInBounds_toArray, List.set_cons_zero, List.set_cons_succ]
                        refine wpAnyT_pure (i := 16) (v := ?vrn64) rfl (by as_aux_lemma => kernel_rfl) (by as_aux_lemma => kernel_rfl) (by as_aux_lemma => kernel_rfl) (by rfl) (fun _ _ _ h => h) (Or.inl ⟨by rfl, ?hyrn64⟩) (hS1 _ _ _ rfl (by as_aux_lemma => kernel_rfl)) ?restrn64
                        case hyrn64 => (intro w' hSw; clear hSw; go_simp; try with_reducible rfl)
                        try simp only [Act.put, List.setIfInBounds_toArray, List.set_cons_zero, List.set_cons_succ]
                        refine wpAnyT_next (i := 17) rfl (by as_aux_lemma => kernel_rfl) (fun K hK => ?_)
                        go_simp
                        refine hK.out _ _ (hS2 _ _ _ _ rfl (by as_aux_lemma => kernel_rfl) (by as_aux_lemma => kernel_rfl)) ?_
                        clear hK K
                        refine wpAnyT_done (by as_aux_lemma => kernel_rfl) ?_ _
                        clear hS0 hS1 hS2
                        simp only [rz_bytes]
                        go_wp2_with fail
                        go_roundw
                        case rel => exact ⟨_, i + 1, rfl, by go_num, by omega, HLn, Lib.hid (Rn.drew (Rn.put5 (x := (⟨x.horizon, x.stops.map rz, x.paths.map rzP, x.doors.map rzD, x.routes.map rzR, x.trips, x.hazards⟩ : SheetM)) HRv.out (by have := Z5.out; omega) rfl HA.out HEv.out))⟩
                        case measure => simp [intOf]; omega
                      · obtain rfl : i = x.trips.length := by omega
                        have hi1 : ¬ (x.trips.length : Int) < (x.trips.length : Int) := by omega
                        have LG5 := Lib.hid (Lg.full HLG.out)
                        have HR5 : Hid (Rn w5 w6.heap.size sb [.int .i64 x.horizon, .slice A1 x.stops.length k1, .slice A2 x.paths.length k2, .slice A3 x.doors.length k3, .slice A4 x.routes.length k4, .slice A5 x.trips.length k5, .slice A6 x.hazards.length k6] (.slice A1 x.stops.length k1) (.slice A2 x.paths.length k2) (.slice A3 x.doors.length k3) (.slice A4 x.routes.length k4) (.slice A5 x.trips.length k5) (.slice A6 x.hazards.length k6) (⟨x.horizon, x.stops.map rz, x.paths.map rzP, x.doors.map rzD, x.routes.map rzR, x.trips.map rzT, x.hazards⟩ : SheetM) wr) := Lib.hid (by have h := HR.out; rw [upd_all] at h; exact h)
                        clear HLG HR hi hlt
                        go_wp2_with fail
                        go_loopw [6, 17] (fun v6 v7 wr => ∃ (L : Int) (i : Nat), v6 = .int .i64 L ∧ v7 = .int .i64 i ∧ i ≤ x.hazards.length ∧ Hid (Lg L ((((((True ∧ ∀ b ∈ x.stops, (fun a : Nm => a.length ≤ 22) b) ∧ ∀ b ∈ x.paths, (fun q : PathM => q.name.length ≤ 22 ∧ q.a.length ≤ 22 ∧ q.b.length ≤ 22) b) ∧ ∀ b ∈ x.doors, (fun q : DoorM => q.name.length ≤ 22 ∧ q.a.length ≤ 22 ∧ q.b.length ≤ 22) b) ∧ ∀ b ∈ x.routes, (fun q : RouteM => q.name.length ≤ 22 ∧ ∀ s ∈ q.stops, s.length ≤ 22) b) ∧ ∀ b ∈ x.trips, (fun q : TripM => q.name.length ≤ 22 ∧ q.route.length ≤ 22) b) ∧ ∀ b ∈ x.hazards.take i, (fun q : HazM => q.name.length ≤ 22 ∧ q.at_.length ≤ 22) b)) ∧ Hid (Rn w5 w6.heap.size sb [.int .i64 x.horizon, .slice A1 x.stops.length k1, .slice A2 x.paths.length k2, .slice A3 x.doors.length k3, .slice A4 x.routes.length k4, .slice A5 x.trips.length k5, .slice A6 x.hazards.length k6] (.slice A1 x.stops.length k1) (.slice A2 x.paths.length k2) (.slice A3 x.doors.length k3) (.slice A4 x.routes.length k4) (.slice A5 x.trips.length k5) (.slice A6 x.hazards.length k6) (⟨x.horizon, x.stops.map rz, x.paths.map rzP, x.doors.map rzD, x.routes.map rzR, x.trips.map rzT, upd rzH i x.hazards⟩ : SheetM) wr)) (fun _ v _ => x.hazards.length - (intOf v).toNat)
                        case atStart => exact ⟨_, 0, rfl, rfl, by omega, Lib.hid (Lg.zero _ _ LG5.out), Lib.hid (by rw [upd_zero]; exact HR5.out)⟩
                        case round =>
                          clear HR5 LG5
                          obtain ⟨L, i, rfl, rfl, hi, HLG, HR⟩ := hrel
                          have y1 : wr.cell? ⟨w6.heap.size, 6, none⟩ = some (.slice A6 x.hazards.length k6) := HR.out.k.cell 6
                          by_cases hlt : i < x.hazards.length
                          · skip
                            obtain ⟨a, ha⟩ : ∃ a, x.hazards[i]? = some a := ⟨_, List.getElem?_eq_getElem hlt⟩
                            have hi1 : (i : Int) < (x.hazards.length : Int) := by omega
                            have hn0 := HX.out.l6
                            have hr : wr.ownsRow (w5.heap.size + 1 + 1) 78 5 (.slice A6 x.hazards.length k6) x.hazards.length (cs haC (upd rzH i x.hazards)) := by have h1 : wr.ownsRow _ _ _ _ (upd rzH i x.hazards).length _ := HR.out.o.r6; rw [upd_len] at h1; exact h1
                            obtain ⟨ad, hE⟩ := own_el hr (by omega)
                            have hA := hE.hA
                            subst hA
                            have HE := Lib.hid hE
                            have HA := Lib.hid ha
                            have i0 : wr.cell? (ad.add (i * 5)) = some (.string ⟨a.name.toArray⟩) := hE.cell (i * 5) _ (by have := cs_at haC 5 (fun _ => rfl) _ i a (upd_at rzH ha) 0 (by omega); simpa [haC] using this)
                            have f0 : wr.frozen? (ad.add (i * 5)) = false := hE.fz (i * 5)
                            have i1 : wr.cell? ⟨(ad.add (i * 5)).block, (ad.add (i * 5)).off + 1, none⟩ = some (.string ⟨a.at_.toArray⟩) := by rw [hE.eq]; exact hE.cell _ _ (by have := cs_at haC 5 (fun _ => rfl) _ i a (upd_at rzH ha) 1 (by omega); simpa [haC] using this)
                            have f1 : wr.frozen? ⟨(ad.add (i * 5)).block, (ad.add (i * 5)).off + 1, none⟩ = false := by rw [hE.eq]; exact hE.fz _
                            have hbd := HSB.out.h a (List.mem_of_getElem? ha)
                            have g0 : ¬ 9223372036854775807 < 1 + a.name.length := by omega
                            have g1 : ¬ 9223372036854775807 < 1 + a.at_.length := by omega
                            clear hr hE ha hbd
                            go_upto_region 46 with fail
                            refine wp_region_still_tail 11 (by kernel_rfl) (by as_aux_lemma => kernel_rfl) ?_
                            simp only [List.take_succ_cons, List.take_zero, List.drop_succ_cons, List.drop_zero]
                            iterate 11 still_step
                            refine wpStill_nil ?_
                            change wpList _ _ _ _ _ (World.drew wr)
                            obtain ⟨wz, hwz⟩ : ∃ v, v = World.drew wr := ⟨_, rfl⟩
                            rw [← hwz]
                            have z0 : wz.cell? (ad.add (i * 5)) = some (.string ⟨a.name.toArray⟩) := by rw [hwz]; exact i0
                            have zf0 : wz.frozen? (ad.add (i * 5)) = false := by rw [hwz]; exact f0
                            have z1 : wz.cell? ⟨(ad.add (i * 5)).block, (ad.add (i * 5)).off + 1, none⟩ = some (.string ⟨a.at_.toArray⟩) := by rw [hwz]; exact i1
                            have zf1 : wz.frozen? ⟨(ad.add (i * 5)).block, (ad.add (i * 5)).off + 1, none⟩ = false := by rw [hwz]; exact f1
                            have zc1 : ∀ u, (wz.setCell (ad.add (i * 5)) u).cell? ⟨(ad.add (i * 5)).block, (ad.add (i * 5)).off + 1, none⟩ = some (.string ⟨a.at_.toArray⟩) := fun u => (World.cell?_setCell_other _ _ _ _ (by intro e; have := congrArg Addr.off e; dsimp only at this; omega)).trans z1
                            have HRz : Hid (Rn w5 w6.heap.size sb [.int .i64 x.horizon, .slice A1 x.stops.length k1, .slice A2 x.paths.length k2, .slice A3 x.doors.length k3, .slice A4 x.routes.length k4, .slice A5 x.trips.length k5, .slice (some ad) x.hazards.length k6] (.slice A1 x.stops.length k1) (.slice A2 x.paths.length k2) (.slice A3 x.doors.length k3) (.slice A4 x.routes.length k4) (.slice A5 x.trips.length k5) (.slice (some ad) x.hazards.length k6) (⟨x.horizon, x.stops.map rz, x.paths.map rzP, x.doors.map rzD, x.routes.map rzR, x.trips.map rzT, upd rzH i x.hazards⟩ : SheetM) wz) := Lib.hid (by rw [hwz]; exact Rn.drew HR.out)
                            have HEz := Lib.hid (El.drew HE.out)
                            rw [← hwz] at HEz
                            clear hwz HR HE y1 i0 f0 i1 f1
                            have HR := HRz
                            have HE := HEz
                            clear HRz HEz
                            refine wpList_max3 rfl (.tmp 271) (.tmp 276) (.tmp 281) _ rfl rfl rfl rfl  ?_
                            go_upto_region 47 with fail
                            have hS0 : ∀ l, Pend [(14, (ad.add (i * 5)), .string ⟨a.name.toArray⟩), (17, ⟨(ad.add (i * 5)).block, (ad.add (i * 5)).off + 1, none⟩, .string ⟨a.at_.toArray⟩)] l (World.drew wz) := fun l k hk _ => by simp only [List.mem_cons, List.not_mem_nil, or_false] at hk; rcases hk with rfl | rfl <;> first | exact z0 | exact z1
                            have hS1 : ∀ (u : Value) (W : World) (l : Array Bool), W.heap = (wz.setCell (ad.add (i * 5)) u).heap → l.getD 14 true = true → Pend [(14, (ad.add (i * 5)), .string ⟨a.name.toArray⟩), (17, ⟨(ad.add (i * 5)).block, (ad.add (i * 5)).off + 1, none⟩, .string ⟨a.at_.toArray⟩)] l W := by
                              intro u W l hW hl0 k hk hp
                              simp only [List.mem_cons, List.not_mem_nil, or_false] at hk; rcases hk with rfl | rfl
                              · rw [hl0] at hp; cases hp
                              · exact (cell_heap hW).trans ((World.cell?_setCell_other _ _ _ _ (by intro e; have := congrArg Addr.off e; dsimp only at this; omega)).trans (z1))
                            have hS2 : ∀ (u v : Value) (W : World) (l : Array Bool), W.heap = ((wz.setCell (ad.add (i * 5)) u).setCell ⟨(ad.add (i * 5)).block, (ad.add (i * 5)).off + 1, none⟩ v).heap → l.getD 14 true = true → l.getD 17 true = true → Pend [(14, (ad.add (i * 5)), .string ⟨a.name.toArray⟩), (17, ⟨(ad.add (i * 5)).block, (ad.add (i * 5)).off + 1, none⟩, .string ⟨a.at_.toArray⟩)] l W := by
                              intro u v W l hW hl0 hl1 k hk hp
                              simp only [List.mem_cons, List.not_mem_nil, or_false] at hk; rcases hk with rfl | rfl
                              · rw [hl0] at hp; cases hp
                              · rw [hl1] at hp; cases hp
                            refine wp_region_T [(14, (ad.add (i * 5)), .string ⟨a.name.toArray⟩), (17, ⟨(ad.add (i * 5)).block, (ad.add (i * 5)).off + 1, none⟩, .string ⟨a.at_.toArray⟩)] (by kernel_rfl) ?_
                            refine wpAnyT_pure (i := 0) (v := ?vrn65) rfl (by as_aux_lemma => kernel_rfl) (by as_aux_lemma => kernel_rfl) (by as_aux_lemma => kernel_rfl) (by rfl) (fun _ _ _ h => h) (Or.inl ⟨by rfl, ?hyrn65⟩) (hS0 _) ?restrn65
                            case hyrn65 => (intro w' hSw; clear hSw; go_simp; try with_reducible rfl)
                            try simp only [Act.put, List.setIfInBounds_toArray, List.set_cons_zero, List.set_cons_succ]
                            refine wpAnyT_pure (i := 1) (v := ?vrn66) rfl (by as_aux_lemma => kernel_rfl) (by as_aux_lemma => kernel_rfl) (by as_aux_lemma => kernel_rfl) (by rfl) (fun _ _ _ h => h) (Or.inl ⟨by rfl, ?hyrn66⟩) (hS0 _) ?restrn66
                            case hyrn66 => (intro w' hSw; clear hSw; go_simp; try with_reducible rfl)
                            try simp only [Act.put, List.setIfInBounds_toArray, List.set_cons_zero, List.set_cons_succ]
                            refine wpAnyT_pure (i := 2) (v := ?vrn67) rfl (by as_aux_lemma => kernel_rfl) (by as_aux_lemma => kernel_rfl) (by as_aux_lemma => kernel_rfl) (by rfl) (fun _ _ _ h => h) (Or.inl ⟨by rfl, ?hyrn67⟩) (hS0 _) ?restrn67
                            case hyrn67 => (intro w' hSw; clear hSw; go_simp; try with_reducible rfl)
                            try simp only [Act.put, List.setIfInBounds_toArray, List.set_cons_zero, List.set_cons_succ]
                            refine wpAnyT_pure (i := 3) (v := ?vrn68) rfl (by as_aux_lemma => kernel_rfl) (by as_aux_lemma => kernel_rfl) (by as_aux_lemma => kernel_rfl) (by rfl) (fun _ _ _ h => h) (Or.inl ⟨by rfl, ?hyrn68⟩) (hS0 _) ?restrn68
                            case hyrn68 => (intro w' hSw; clear hSw; go_simp; try with_reducible rfl)
                            try simp only [Act.put, List.setIfInBounds_toArray, List.set_cons_zero, List.set_cons_succ]
                            refine wpAnyT_pure (i := 4) (v := ?vrn69) rfl (by as_aux_lemma => kernel_rfl) (by as_aux_lemma => kernel_rfl) (by as_aux_lemma => kernel_rfl) (by rfl) (fun _ _ _ h => h) (Or.inl ⟨by rfl, ?hyrn69⟩) (hS0 _) ?restrn69
                            case hyrn69 => (intro w' hSw; clear hSw; go_simp; try with_reducible rfl)
                            try simp only [Act.put, List.setIfInBounds_toArray, List.set_cons_zero, List.set_cons_succ]
                            refine wpAnyT_load (i := 5) (st := 14) (p := (ad.add (i * 5))) (u := .string ⟨a.name.toArray⟩) (v := ?vrn70) rfl rfl (by as_aux_lemma => kernel_rfl) (by simp) (by as_aux_lemma => kernel_rfl) (by as_aux_lemma => kernel_rfl) (by as_aux_lemma => kernel_rfl) (by as_aux_lemma => kernel_rfl) (by rfl) (fun _ _ _ h => h) (Or.inl ⟨by rfl, ?hyrn70⟩) (hS0 _) ?restrn70
                            case hyrn70 => (intro w' hSw; go_simp; try with_reducible rfl)
                            try simp only [Act.put, List.setIfInBounds_toArray, List.set_cons_zero, List.set_cons_succ]
                            refine wpAnyT_pure (i := 6) (v := ?vrn71) rfl (by as_aux_lemma => kernel_rfl) (by as_aux_lemma => kernel_rfl) (by as_aux_lemma => kernel_rfl) (by rfl) (fun _ _ _ h => h) (Or.inl ⟨by rfl, ?hyrn71⟩) (hS0 _) ?restrn71
                            case hyrn71 => (intro w' hSw; clear hSw; go_simp; try with_reducible rfl)
                            try simp only [Act.put, List.setIfInBounds_toArray, List.set_cons_zero, List.set_cons_succ]
                            refine wpAnyT_pure (i := 7) (v := ?vrn72) rfl (by as_aux_lemma => kernel_rfl) (by as_aux_lemma => kernel_rfl) (by as_aux_lemma => kernel_rfl) (by rfl) (fun _ _ _ h => h) (Or.inl ⟨by rfl, ?hyrn72⟩) (hS0 _) ?restrn72
                            case hyrn72 => (intro w' hSw; clear hSw; go_simp; try with_reducible rfl)
                            try simp only [Act.put, List.setIfInBounds_toArray, List.set_cons_zero, List.set_cons_succ]
                            refine wpAnyT_pure (i := 8) (v := ?vrn73) rfl (by as_aux_lemma => kernel_rfl) (by as_aux_lemma => kernel_rfl) (by as_aux_lemma => kernel_rfl) (by rfl) (fun _ _ _ h => h) (Or.inl ⟨by rfl, ?hyrn73⟩) (hS0 _) ?restrn73
                            case hyrn73 => (intro w' hSw; clear hSw; go_simp; try with_reducible rfl)
                            try simp only [Act.put, List.setIfInBounds_toArray, List.set_cons_zero, List.set_cons_succ]
                            refine wpAnyT_pure (i := 9) (v := ?vrn74) rfl (by as_aux_lemma => kernel_rfl) (by as_aux_lemma => kernel_rfl) (by as_aux_lemma => kernel_rfl) (by rfl) (fun _ _ _ h => h) (Or.inl ⟨by rfl, ?hyrn74⟩) (hS0 _) ?restrn74
                            case hyrn74 => (intro w' hSw; clear hSw; go_simp; try with_reducible rfl)
                            try simp only [Act.put, List.setIfInBounds_toArray, List.set_cons_zero, List.set_cons_succ]
                            refine wpAnyT_load (i := 10) (st := 17) (p := ⟨(ad.add (i * 5)).block, (ad.add (i * 5)).off + 1, none⟩) (u := .string ⟨a.at_.toArray⟩) (v := ?vrn75) rfl rfl (by as_aux_lemma => kernel_rfl) (by simp) (by as_aux_lemma => kernel_rfl) (by as_aux_lemma => kernel_rfl) (by as_aux_lemma => kernel_rfl) (by as_aux_lemma => kernel_rfl) (by rfl) (fun _ _ _ h => h) (Or.inl ⟨by rfl, ?hyrn75⟩) (hS0 _) ?restrn75
                            case hyrn75 => (intro w' hSw; go_simp; try with_reducible rfl)
                            try simp only [Act.put, List.setIfInBounds_toArray, List.set_cons_zero, List.set_cons_succ]
                            refine wpAnyT_pure (i := 11) (v := ?vrn76) rfl (by as_aux_lemma => kernel_rfl) (by as_aux_lemma => kernel_rfl) (by as_aux_lemma => kernel_rfl) (by rfl) (fun _ _ _ h => h) (Or.inl ⟨by rfl, ?hyrn76⟩) (hS0 _) ?restrn76
                            case hyrn76 => (intro w' hSw; clear hSw; go_simp; try with_reducible rfl)
                            try simp only [Act.put, List.setIfInBounds_toArray, List.set_cons_zero, List.set_cons_succ]
                            have HRv : Hid (Rn w5 w6.heap.size sb [.int .i64 x.horizon, .slice A1 x.stops.length k1, .slice A2 x.paths.length k2, .slice A3 x.doors.length k3, .slice A4 x.routes.length k4, .slice A5 x.trips.length k5, .slice (some ad) x.hazards.length k6] (.slice A1 x.stops.length k1) (.slice A2 x.paths.length k2) (.slice A3 x.doors.length k3) (.slice A4 x.routes.length k4) (.slice A5 x.trips.length k5) (.slice (some ad) x.hazards.length k6) (⟨x.horizon, x.stops.map rz, x.paths.map rzP, x.doors.map rzD, x.routes.map rzR, x.trips.map rzT, upd rzH i x.hazards⟩ : SheetM) wz) := HR
                            have HEv := HE
                            have HLn : Hid (Lg (max L (max (a.name.length : Int) (a.at_.length : Int))) ((((((True ∧ ∀ b ∈ x.stops, (fun a : Nm => a.length ≤ 22) b) ∧ ∀ b ∈ x.paths, (fun q : PathM => q.name.length ≤ 22 ∧ q.a.length ≤ 22 ∧ q.b.length ≤ 22) b) ∧ ∀ b ∈ x.doors, (fun q : DoorM => q.name.length ≤ 22 ∧ q.a.length ≤ 22 ∧ q.b.length ≤ 22) b) ∧ ∀ b ∈ x.routes, (fun q : RouteM => q.name.length ≤ 22 ∧ ∀ s ∈ q.stops, s.length ≤ 22) b) ∧ ∀ b ∈ x.trips, (fun q : TripM => q.name.length ≤ 22 ∧ q.route.length ≤ 22) b) ∧ ∀ b ∈ x.hazards.take (i + 1), (fun q : HazM => q.name.length ≤ 22 ∧ q.at_.length ≤ 22) b)) := Lib.hid (Lg.next HLG.out HA.out (by have := HLG.out.1; omega) (fun h => ⟨by omega, by omega⟩))
                            refine wpAnyT_pure (i := 12) (v := ?vrn77) rfl (by as_aux_lemma => kernel_rfl) (by as_aux_lemma => kernel_rfl) (by as_aux_lemma => kernel_rfl) (by rfl) (fun _ _ _ h => h) (Or.inl ⟨by rfl, ?hyrn77⟩) (hS0 _) ?restrn77
                            case hyrn77 => (intro w' hSw; clear hSw; go_simp; try with_reducible rfl)
                            try simp only [Act.put, List.setIfInBounds_toArray, List.set_cons_zero, List.set_cons_succ]
                            refine wpAnyT_pure (i := 13) (v := ?vrn78) rfl (by as_aux_lemma => kernel_rfl) (by as_aux_lemma => kernel_rfl) (by as_aux_lemma => kernel_rfl) (by rfl) (fun _ _ _ h => h) (Or.inl ⟨by rfl, ?hyrn78⟩) (hS0 _) ?restrn78
                            case hyrn78 => (intro w' hSw; clear hSw; go_simp; try with_reducible rfl)
                            try simp only [Act.put, List.setIfInBounds_toArray, List.set_cons_zero, List.set_cons_succ]
                            refine wpAnyT_next (i := 14) rfl (by as_aux_lemma => kernel_rfl) (fun K hK => ?_)
                            go_simp
                            refine hK.out _ _ (hS1 _ _ _ rfl (by as_aux_lemma => kernel_rfl)) ?_
                            clear hK K
                            refine wpAnyT_pure (i := 15) (v := ?vrn79) rfl (by as_aux_lemma => kernel_rfl) (by as_aux_lemma => kernel_rfl) (by as_aux_lemma => kernel_rfl) (by rfl) (fun _ _ _ h => h) (Or.inl ⟨by rfl, ?hyrn79⟩) (hS1 _ _ _ rfl (by as_aux_lemma => kernel_rfl)) ?restrn79
                            case hyrn79 => (intro w' hSw; clear hSw; go_simp; try with_reducible rfl)
                            try simp only [Act.put, List.setIfInBounds_toArray, List.set_cons_zero, List.set_cons_succ]
                            refine wpAnyT_pure (i := 16) (v := ?vrn80) rfl (by as_aux_lemma => kernel_rfl) (by as_aux_lemma => kernel_rfl) (by as_aux_lemma => kernel_rfl) (by rfl) (fun _ _ _ h => h) (Or.inl ⟨by rfl, ?hyrn80⟩) (hS1 _ _ _ rfl (by as_aux_lemma => kernel_rfl)) ?restrn80
                            case hyrn80 => (intro w' hSw; clear hSw; go_simp; try with_reducible rfl)
                            try simp only [Act.put, List.setIfInBounds_toArray, List.set_cons_zero, List.set_cons_succ]
                            refine wpAnyT_next (i := 17) rfl (by as_aux_lemma => kernel_rfl) (fun K hK => ?_)
                            go_simp
                            refine hK.out _ _ (hS2 _ _ _ _ rfl (by as_aux_lemma => kernel_rfl) (by as_aux_lemma => kernel_rfl)) ?_
                            clear hK K
                            refine wpAnyT_done (by as_aux_lemma => kernel_rfl) ?_ _
                            clear hS0 hS1 hS2
                            simp only [rz_bytes]
                            go_wp2_with fail
                            go_roundw
                            case rel => exact ⟨_, i + 1, rfl, by go_num, by omega, HLn, Lib.hid (Rn.drew (Rn.put6 (x := (⟨x.horizon, x.stops.map rz, x.paths.map rzP, x.doors.map rzD, x.routes.map rzR, x.trips.map rzT, x.hazards⟩ : SheetM)) HRv.out (by have := Z5.out; omega) rfl HA.out HEv.out))⟩
                            case measure => simp [intOf]; omega
                          · obtain rfl : i = x.hazards.length := by omega
                            have hi1 : ¬ (x.hazards.length : Int) < (x.hazards.length : Int) := by omega
                            have LG6 := Lib.hid (Lg.full HLG.out)
                            have HR6 : Hid (Rn w5 w6.heap.size sb [.int .i64 x.horizon, .slice A1 x.stops.length k1, .slice A2 x.paths.length k2, .slice A3 x.doors.length k3, .slice A4 x.routes.length k4, .slice A5 x.trips.length k5, .slice A6 x.hazards.length k6] (.slice A1 x.stops.length k1) (.slice A2 x.paths.length k2) (.slice A3 x.doors.length k3) (.slice A4 x.routes.length k4) (.slice A5 x.trips.length k5) (.slice A6 x.hazards.length k6) (⟨x.horizon, x.stops.map rz, x.paths.map rzP, x.doors.map rzD, x.routes.map rzR, x.trips.map rzT, x.hazards.map rzH⟩ : SheetM) wr) := Lib.hid (by have h := HR.out; rw [upd_all] at h; exact h)
                            clear HLG HR hi hlt
                            as_aux_lemma =>
                              have BWr : Hid (Below w.heap.size w wr) := Lib.hid (below_upX BW5.out HR6.out.b BW5.out.size)
                              have e0 : wr.cell? ⟨w3.heap.size + 1, 0, none⟩ = some (.int .i64 we) := (KE.out.below HR6.out.b KE.out.lt).cell 0
                              by_cases hwe : we = 0
                              · skip
                                subst hwe
                                by_cases hl : 22 < L
                                · have cL : decide (22 < L) = true := by simp; omega
                                  go_wp2_with fail
                                  go_ret
                                  exact ⟨rfl, BWr.out⟩
                                · have cL : decide (22 < L) = false := by simp; omega
                                  have HOK : Hid ((wrongX x).err = 0) := Lib.hid (congrArg WrM.err HKW.out.symm)
                                  have hz : z = numX x := HZ.out.trans (make_back HOK.out).1
                                  clear HZ
                                  subst hz
                                  have HSH : Hid (Sht x) := Lib.hid (sht_of (LG6.out.2 (by omega)))
                                  have HRZ := Lib.hid (rz_ok HOK.out HSH.out)
                                  have HMR : Hid (∀ w1, Sh w1 (· < w1.heap.size) (rzX x) ⟨A1, A2, A3, A4, A5, A6, k1, k2, k3, k4, k5, k6⟩ → Calls Tryz.prog 10 #[.agg #[.int .i64 x.horizon, .slice A1 x.stops.length k1, .slice A2 x.paths.length k2, .slice A3 x.doors.length k3, .slice A4 x.routes.length k4, .slice A5 x.trips.length k5, .slice A6 x.hazards.length k6]] w1 (MkR w1 x)) := Lib.hid (fun w1 hs => make_rz HRZ.out HX.out ⟨A1, A2, A3, A4, A5, A6, k1, k2, k3, k4, k5, k6⟩ w1 hs)
                                  have HSY : Hid (Sh wr (· < wr.heap.size) (rzX x) ⟨A1, A2, A3, A4, A5, A6, k1, k2, k3, k4, k5, k6⟩) := Lib.hid (OwX.sh (x := rzX x) (p := ⟨A1, A2, A3, A4, A5, A6, k1, k2, k3, k4, k5, k6⟩) (by have h := HR6.out.o; simpa only [rzX, List.length_map] using h))
                                  have KMr := Lib.hid (KM.out.below HR6.out.b (Nat.lt_of_succ_lt KE.out.lt))
                                  have HWr := Lib.hid (HW5.out.later HR6.out.b)
                                  have y0 : wr.cell? ⟨w6.heap.size, 0, none⟩ = some (.int .i64 x.horizon) := HR6.out.k.cell 0; have y1 : wr.cell? ⟨w6.heap.size, 1, none⟩ = some (.slice A1 x.stops.length k1) := HR6.out.k.cell 1; have y2 : wr.cell? ⟨w6.heap.size, 2, none⟩ = some (.slice A2 x.paths.length k2) := HR6.out.k.cell 2; have y3 : wr.cell? ⟨w6.heap.size, 3, none⟩ = some (.slice A3 x.doors.length k3) := HR6.out.k.cell 3; have y4 : wr.cell? ⟨w6.heap.size, 4, none⟩ = some (.slice A4 x.routes.length k4) := HR6.out.k.cell 4; have y5 : wr.cell? ⟨w6.heap.size, 5, none⟩ = some (.slice A5 x.trips.length k5) := HR6.out.k.cell 5; have y6 : wr.cell? ⟨w6.heap.size, 6, none⟩ = some (.slice A6 x.hazards.length k6) := HR6.out.k.cell 6
                                  go_upto_region 51 with (go_at_call 10; refine (HMR.out _ HSY.out).mono ?_; rintro e w10 ⟨a1s, a2s, a3s, a4s, a5s, a6s, b2s, b3s, b4s, b5s, b6s, c1s, c2s, c3s, c4s, c5s, c6s, d2s, d3s, d4s, d5s, d6s, rfl, HV10, B10⟩)
                                  obtain ⟨W11, hW⟩ : ∃ W, W = (w10.alloc (.cells #[.int .i64 x.horizon, .slice a1s x.stops.length c1s, .slice a2s x.paths.length c2s, .slice a3s x.doors.length c3s, .slice a4s x.routes.length c4s, .slice a5s x.trips.length c5s, .slice a6s x.hazards.length c6s, .slice b2s x.paths.length d2s, .slice b3s x.doors.length d3s, .slice b4s x.routes.length d4s, .slice b5s x.trips.length d5s, .slice b6s x.hazards.length d6s] 32)).alloc (.cells #[.int .i64 0, .int .i64 0, .int .i64 0] 35) := ⟨_, rfl⟩
                                  have B11 : Hid (Below w10.heap.size w10 W11) := Lib.hid (by rw [hW]; exact two_box _ _ _)
                                  have KV : Hid (Blk W11 w10.heap.size 32 [.int .i64 x.horizon, .slice a1s x.stops.length c1s, .slice a2s x.paths.length c2s, .slice a3s x.doors.length c3s, .slice a4s x.routes.length c4s, .slice a5s x.trips.length c5s, .slice a6s x.hazards.length c6s, .slice b2s x.paths.length d2s, .slice b3s x.doors.length d3s, .slice b4s x.routes.length d4s, .slice b5s x.trips.length d5s, .slice b6s x.hazards.length d6s]) := Lib.hid (by rw [hW]; exact (Blk.new _ _ _).alloc _)
                                  have KF : Hid (Blk W11 (w10.heap.size + 1) 35 [.int .i64 0, .int .i64 0, .int .i64 0]) := Lib.hid (by rw [hW]; exact Blk.new2 _ _ _ _)
                                  rw [← hW]
                                  clear hW HMR HSY y0 y1 y2 y3 y4 y5 y6
                                  have Br : Hid (Below wr.heap.size wr W11) := Lib.hid (keep_trans B10.out B11.out)
                                  have KM11 := Lib.hid (KMr.out.after Br.out)
                                  have HW10 := Lib.hid (HWr.out.later B10.out)
                                  have BW11 : Hid (Below w.heap.size w W11) := Lib.hid (keep_trans BWr.out Br.out)
                                  have Z10 : Hid (w.heap.size ≤ w10.heap.size ∧ w3.heap.size < w10.heap.size) := Lib.hid ⟨by have := BWr.out.size; have := B10.out.size; omega, by have := KMr.out.lt; have := B10.out.size; omega⟩
                                  clear HR6 KM HW5 KE KMr HWr B10 Br BWr
                                  have m0 : W11.cell? ⟨w3.heap.size, 0, none⟩ = some (.int .i64 (numX x).horizon) := KM11.out.cell 0; have m1 : W11.cell? ⟨w3.heap.size, 1, none⟩ = some (.slice a1 (numX x).names.stops.length c1) := KM11.out.cell 1; have m2 : W11.cell? ⟨w3.heap.size, 2, none⟩ = some (.slice a2 (numX x).names.paths.length c2) := KM11.out.cell 2; have m3 : W11.cell? ⟨w3.heap.size, 3, none⟩ = some (.slice a3 (numX x).names.doors.length c3) := KM11.out.cell 3; have m4 : W11.cell? ⟨w3.heap.size, 4, none⟩ = some (.slice a4 (numX x).names.routes.length c4) := KM11.out.cell 4; have m5 : W11.cell? ⟨w3.heap.size, 5, none⟩ = some (.slice a5 (numX x).names.trips.length c5) := KM11.out.cell 5; have m6 : W11.cell? ⟨w3.heap.size, 6, none⟩ = some (.slice a6 (numX x).names.hazards.length c6) := KM11.out.cell 6; have m7 : W11.cell? ⟨w3.heap.size, 7, none⟩ = some (.slice b2 (numX x).paths.length d2) := KM11.out.cell 7; have m8 : W11.cell? ⟨w3.heap.size, 8, none⟩ = some (.slice b3 (numX x).doors.length d3) := KM11.out.cell 8; have m9 : W11.cell? ⟨w3.heap.size, 9, none⟩ = some (.slice b4 (numX x).routes.length d4) := KM11.out.cell 9; have m10 : W11.cell? ⟨w3.heap.size, 10, none⟩ = some (.slice b5 (numX x).trips.length d5) := KM11.out.cell 10; have m11 : W11.cell? ⟨w3.heap.size, 11, none⟩ = some (.slice b6 (numX x).hazards.length d6) := KM11.out.cell 11
                                  have t0 : W11.cell? ⟨w10.heap.size, 0, none⟩ = some (.int .i64 x.horizon) := KV.out.cell 0; have t1 : W11.cell? ⟨w10.heap.size, 1, none⟩ = some (.slice a1s x.stops.length c1s) := KV.out.cell 1; have t2 : W11.cell? ⟨w10.heap.size, 2, none⟩ = some (.slice a2s x.paths.length c2s) := KV.out.cell 2; have t3 : W11.cell? ⟨w10.heap.size, 3, none⟩ = some (.slice a3s x.doors.length c3s) := KV.out.cell 3; have t4 : W11.cell? ⟨w10.heap.size, 4, none⟩ = some (.slice a4s x.routes.length c4s) := KV.out.cell 4; have t5 : W11.cell? ⟨w10.heap.size, 5, none⟩ = some (.slice a5s x.trips.length c5s) := KV.out.cell 5; have t6 : W11.cell? ⟨w10.heap.size, 6, none⟩ = some (.slice a6s x.hazards.length c6s) := KV.out.cell 6; have t7 : W11.cell? ⟨w10.heap.size, 7, none⟩ = some (.slice b2s x.paths.length d2s) := KV.out.cell 7; have t8 : W11.cell? ⟨w10.heap.size, 8, none⟩ = some (.slice b3s x.doors.length d3s) := KV.out.cell 8; have t9 : W11.cell? ⟨w10.heap.size, 9, none⟩ = some (.slice b4s x.routes.length d4s) := KV.out.cell 9; have t10 : W11.cell? ⟨w10.heap.size, 10, none⟩ = some (.slice b5s x.trips.length d5s) := KV.out.cell 10; have t11 : W11.cell? ⟨w10.heap.size, 11, none⟩ = some (.slice b6s x.hazards.length d6s) := KV.out.cell 11
                                  have tf : ∀ i, W11.frozen? ⟨w10.heap.size, i, none⟩ = false := fun i => KV.out.frozen i
                                  go_upto_region 52 with fail
                                  obtain ⟨W12, hW⟩ : ∃ W, W = ((((((W11.setCell ⟨w10.heap.size, 1, none⟩ (.slice a1 (numX x).names.stops.length c1)).setCell ⟨w10.heap.size, 2, none⟩ (.slice a2 (numX x).names.paths.length c2)).setCell ⟨w10.heap.size, 3, none⟩ (.slice a3 (numX x).names.doors.length c3)).setCell ⟨w10.heap.size, 4, none⟩ (.slice a4 (numX x).names.routes.length c4)).setCell ⟨w10.heap.size, 5, none⟩ (.slice a5 (numX x).names.trips.length c5)).setCell ⟨w10.heap.size, 6, none⟩ (.slice a6 (numX x).names.hazards.length c6)) := ⟨_, rfl⟩
                                  have hC : Ch (· = w10.heap.size) W11 W12 := by rw [hW]; exact sto6v_ch W11 w10.heap.size (.slice a1 (numX x).names.stops.length c1) (.slice a2 (numX x).names.paths.length c2) (.slice a3 (numX x).names.doors.length c3) (.slice a4 (numX x).names.routes.length c4) (.slice a5 (numX x).names.trips.length c5) (.slice a6 (numX x).names.hazards.length c6)
                                  have KV12 : Hid (Blk W12 w10.heap.size 32 [.int .i64 x.horizon, .slice a1 (numX x).names.stops.length c1, .slice a2 (numX x).names.paths.length c2, .slice a3 (numX x).names.doors.length c3, .slice a4 (numX x).names.routes.length c4, .slice a5 (numX x).names.trips.length c5, .slice a6 (numX x).names.hazards.length c6, .slice b2s x.paths.length d2s, .slice b3s x.doors.length d3s, .slice b4s x.routes.length d4s, .slice b5s x.trips.length d5s, .slice b6s x.hazards.length d6s]) := Lib.hid (by rw [hW]; exact sto6v_blk KV.out (.slice a1 (numX x).names.stops.length c1) (.slice a2 (numX x).names.paths.length c2) (.slice a3 (numX x).names.doors.length c3) (.slice a4 (numX x).names.routes.length c4) (.slice a5 (numX x).names.trips.length c5) (.slice a6 (numX x).names.hazards.length c6))
                                  have HC := Lib.hid hC
                                  rw [← hW]
                                  clear hW hC tf m0 m1 m2 m3 m4 m5 m6 m7 m8 m9 m10 m11 t0 t1 t2 t3 t4 t5 t6 t7 t8 t9 t10 t11
                                  have KM12 := Lib.hid (HC.out.blk KM11.out (by have := Z10.out; omega))
                                  have KF12 := Lib.hid (HC.out.blk KF.out (by omega))
                                  have BW12 : Hid (Below w.heap.size w W12) := Lib.hid (BW11.out.trans (HC.out.below BW11.out.size fun k e => by have := Z10.out; omega))
                                  have hrow : ∀ {x' : WorldM} {q : WoA}, Wo w10 (· < w10.heap.size) x' q → Wo W12 (· < W12.heap.size) x' q := fun h => (h.keep fun b hb => (HC.out.block b (Nat.lt_of_lt_of_le hb B11.out.size) (by have hb2 : b < w10.heap.size := hb; omega)).trans (B11.out.block b hb)).more fun b hb => Nat.lt_of_lt_of_le hb (Nat.le_trans B11.out.size HC.out.size)
                                  have HWW := Lib.hid (hrow HW10.out)
                                  have HWZ : Hid (Wo W12 (· < W12.heap.size) (numX x) ⟨⟨a1, a2, a3, a4, a5, a6, c1, c2, c3, c4, c5, c6⟩, b2s, b3s, b4s, b5s, b6s, d2s, d3s, d4s, d5s, d6s⟩) := Lib.hid (wo_names HWW.out (hrow HV10.out))
                                  have HKR : Hid (∀ w1, Wo w1 (· < w1.heap.size) (numX x) ⟨⟨a1, a2, a3, a4, a5, a6, c1, c2, c3, c4, c5, c6⟩, b2s, b3s, b4s, b5s, b6s, d2s, d3s, d4s, d5s, d6s⟩ → Wo w1 (· < w1.heap.size) (numX x) ⟨⟨a1, a2, a3, a4, a5, a6, c1, c2, c3, c4, c5, c6⟩, b2, b3, b4, b5, b6, d2, d3, d4, d5, d6⟩ → Calls Tryz.prog 23 #[.agg #[.int .i64 x.horizon, .slice a1 (numX x).names.stops.length c1, .slice a2 (numX x).names.paths.length c2, .slice a3 (numX x).names.doors.length c3, .slice a4 (numX x).names.routes.length c4, .slice a5 (numX x).names.trips.length c5, .slice a6 (numX x).names.hazards.length c6, .slice b2s x.paths.length d2s, .slice b3s x.doors.length d3s, .slice b4s x.routes.length d4s, .slice b5s x.trips.length d5s, .slice b6s x.hazards.length d6s], .agg #[.int .i64 (numX x).horizon, .slice a1 (numX x).names.stops.length c1, .slice a2 (numX x).names.paths.length c2, .slice a3 (numX x).names.doors.length c3, .slice a4 (numX x).names.routes.length c4, .slice a5 (numX x).names.trips.length c5, .slice a6 (numX x).names.hazards.length c6, .slice b2 (numX x).paths.length d2, .slice b3 (numX x).doors.length d3, .slice b4 (numX x).routes.length d4, .slice b5 (numX x).trips.length d5, .slice b6 (numX x).hazards.length d6]] w1 (fun e w' => e = .returned (.bool true) ∧ Below w1.heap.size w1 w')) := Lib.hid (fun w1 h1 h2 => kworld_r _ _ (by simp [woF, numX, namesX]) (by simp [woF]) (wlt_num HX.out) w1 h1 h2)
                                  clear hrow HW10 HV10 HC B11
                                  have t0 : W12.cell? ⟨w10.heap.size, 0, none⟩ = some (.int .i64 x.horizon) := KV12.out.cell 0; have t1 : W12.cell? ⟨w10.heap.size, 1, none⟩ = some (.slice a1 (numX x).names.stops.length c1) := KV12.out.cell 1; have t2 : W12.cell? ⟨w10.heap.size, 2, none⟩ = some (.slice a2 (numX x).names.paths.length c2) := KV12.out.cell 2; have t3 : W12.cell? ⟨w10.heap.size, 3, none⟩ = some (.slice a3 (numX x).names.doors.length c3) := KV12.out.cell 3; have t4 : W12.cell? ⟨w10.heap.size, 4, none⟩ = some (.slice a4 (numX x).names.routes.length c4) := KV12.out.cell 4; have t5 : W12.cell? ⟨w10.heap.size, 5, none⟩ = some (.slice a5 (numX x).names.trips.length c5) := KV12.out.cell 5; have t6 : W12.cell? ⟨w10.heap.size, 6, none⟩ = some (.slice a6 (numX x).names.hazards.length c6) := KV12.out.cell 6; have t7 : W12.cell? ⟨w10.heap.size, 7, none⟩ = some (.slice b2s x.paths.length d2s) := KV12.out.cell 7; have t8 : W12.cell? ⟨w10.heap.size, 8, none⟩ = some (.slice b3s x.doors.length d3s) := KV12.out.cell 8; have t9 : W12.cell? ⟨w10.heap.size, 9, none⟩ = some (.slice b4s x.routes.length d4s) := KV12.out.cell 9; have t10 : W12.cell? ⟨w10.heap.size, 10, none⟩ = some (.slice b5s x.trips.length d5s) := KV12.out.cell 10; have t11 : W12.cell? ⟨w10.heap.size, 11, none⟩ = some (.slice b6s x.hazards.length d6s) := KV12.out.cell 11
                                  have m0 : W12.cell? ⟨w3.heap.size, 0, none⟩ = some (.int .i64 (numX x).horizon) := KM12.out.cell 0; have m1 : W12.cell? ⟨w3.heap.size, 1, none⟩ = some (.slice a1 (numX x).names.stops.length c1) := KM12.out.cell 1; have m2 : W12.cell? ⟨w3.heap.size, 2, none⟩ = some (.slice a2 (numX x).names.paths.length c2) := KM12.out.cell 2; have m3 : W12.cell? ⟨w3.heap.size, 3, none⟩ = some (.slice a3 (numX x).names.doors.length c3) := KM12.out.cell 3; have m4 : W12.cell? ⟨w3.heap.size, 4, none⟩ = some (.slice a4 (numX x).names.routes.length c4) := KM12.out.cell 4; have m5 : W12.cell? ⟨w3.heap.size, 5, none⟩ = some (.slice a5 (numX x).names.trips.length c5) := KM12.out.cell 5; have m6 : W12.cell? ⟨w3.heap.size, 6, none⟩ = some (.slice a6 (numX x).names.hazards.length c6) := KM12.out.cell 6; have m7 : W12.cell? ⟨w3.heap.size, 7, none⟩ = some (.slice b2 (numX x).paths.length d2) := KM12.out.cell 7; have m8 : W12.cell? ⟨w3.heap.size, 8, none⟩ = some (.slice b3 (numX x).doors.length d3) := KM12.out.cell 8; have m9 : W12.cell? ⟨w3.heap.size, 9, none⟩ = some (.slice b4 (numX x).routes.length d4) := KM12.out.cell 9; have m10 : W12.cell? ⟨w3.heap.size, 10, none⟩ = some (.slice b5 (numX x).trips.length d5) := KM12.out.cell 10; have m11 : W12.cell? ⟨w3.heap.size, 11, none⟩ = some (.slice b6 (numX x).hazards.length d6) := KM12.out.cell 11
                                  have f0 : W12.cell? ⟨w10.heap.size + 1, 0, none⟩ = some (.int .i64 0) := KF12.out.cell 0; have f1 : W12.cell? ⟨w10.heap.size + 1, 1, none⟩ = some (.int .i64 0) := KF12.out.cell 1; have f2 : W12.cell? ⟨w10.heap.size + 1, 2, none⟩ = some (.int .i64 0) := KF12.out.cell 2
                                  go_wp2_with (go_at_call 23; refine (HKR.out _ HWZ.out HWW.out).mono ?_; rintro e w13 ⟨rfl, hb⟩; have B13 : Hid (Below W12.heap.size W12 w13) := Lib.hid hb; clear hb)
                                  go_ret
                                  exact ⟨rfl, keep_trans BW12.out B13.out⟩
                              · have hn1 : (we != 0) = true := by simpa using hwe
                                go_wp2_with fail
                                go_ret
                                exact ⟨rfl, BWr.out⟩
end Go.Proofs.YtgdanbfglefiiaaGreat.Wo
