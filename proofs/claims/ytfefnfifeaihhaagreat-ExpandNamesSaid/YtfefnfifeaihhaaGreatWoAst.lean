/- Package world's missing, closable and the closures of astray: is a number of no thing?; proved by walking their texts. Conditions: at most 400 numbers. -/
import Derived.Test.YtfefnfifeaihhaaGreatWoMiss
set_option linter.unusedVariables false
set_option linter.unusedSimpArgs false
set_option maxHeartbeats 2000000
set_option maxRecDepth 100000
namespace Go.Proofs.YtfefnfifeaihhaaGreat.Wo
open Go.ChangeShapes Go.WideShapes Go.ChangeAt Go.RowKit Go.Maps
open Lx Sh
abbrev woG (x : WorldM) (p : WoA) : Value := .agg #[.int .i64 x.horizon, .slice p.n.a1 x.names.stops.length p.n.c1, .slice p.n.a2 x.names.paths.length p.n.c2, .slice p.n.a3 x.names.doors.length p.n.c3, .slice p.n.a4 x.names.routes.length p.n.c4, .slice p.n.a5 x.names.trips.length p.n.c5, .slice p.n.a6 x.names.hazards.length p.n.c6, .slice p.b2 x.paths.length p.d2, .slice p.b3 x.doors.length p.d3, .slice p.b4 x.routes.length p.d4, .slice p.b5 x.trips.length p.d5, .slice p.b6 x.hazards.length p.d6]
theorem ast5_any (a : HazO) (g : Nat) (n : NamesM) (p : NaA) (w : World) (hb : Blk w g 30 (naL n p)) : Calls Tryz.prog 104 #[hoG a, .pointer (some ⟨g, 0, none⟩)] w (BoolB w ([a.on_].any (outB (clW n a.stop).length))) := by
  have HN := HH hb
  have zg : g < w.heap.size := hb.lt
  clear hb
  have HM := HH (fun w' (b : Nat) (hx : Rd w' (· < w'.heap.size) (some ⟨b, 0, none⟩) [.int .i64 a.on_]) => missing_any w' (clA p a.stop) (some ⟨b, 0, none⟩) (clW n a.stop).length (clC p a.stop) 1 1 [a.on_] (HH rfl) (by omega) hx)
  have HCL := HH (fun w' => clos_any n p a w')
  obtain ⟨x0, x1, ⟨x2, x3, x4⟩⟩ := a
  dsimp only [naV] at HM HCL ⊢
  generalize ([x1].any (outB (clW n x0).length)) = R at *
  generalize (clW n x0).length = m at *
  generalize clA p x0 = ca at *
  generalize clC p x0 = cc at *
  go_enter Tryz.func104, Tryz.ntmps104
  go_upto_region 1 with fail
  obtain ⟨W, hW⟩ : ∃ W, W = w.alloc (.cells #[.bool x0, .int .i64 x1, .int .i64 x2, .int .i64 x3, .int .i64 x4] 101) := ⟨_, rfl⟩
  have BW : Hid (Below w.heap.size w W) := HH (by rw [hW]; exact one_box _ _)
  have K0 : Hid (Blk W w.heap.size 101 [.bool x0, .int .i64 x1, .int .i64 x2, .int .i64 x3, .int .i64 x4]) := HH (by rw [hW]; exact Blk.new _ _ _)
  have HNW := HH (HN.out.after BW.out)
  rw [← hW]
  clear hW
  have KC : Hid (∀ w', Below W.heap.size W w' → (w'.cell? ⟨w.heap.size, 0, none⟩ = some (.bool x0) ∧ w'.cell? ⟨w.heap.size, 1, none⟩ = some (.int .i64 x1) ∧ w'.cell? ⟨w.heap.size, 2, none⟩ = some (.int .i64 x2) ∧ w'.cell? ⟨w.heap.size, 3, none⟩ = some (.int .i64 x3) ∧ w'.cell? ⟨w.heap.size, 4, none⟩ = some (.int .i64 x4)) ∧ w'.cell? ⟨g, 0, none⟩ = some (.slice p.a1 n.stops.length p.c1) ∧ w'.cell? ⟨g, 1, none⟩ = some (.slice p.a2 n.paths.length p.c2) ∧ w'.cell? ⟨g, 2, none⟩ = some (.slice p.a3 n.doors.length p.c3) ∧ w'.cell? ⟨g, 3, none⟩ = some (.slice p.a4 n.routes.length p.c4) ∧ w'.cell? ⟨g, 4, none⟩ = some (.slice p.a5 n.trips.length p.c5) ∧ w'.cell? ⟨g, 5, none⟩ = some (.slice p.a6 n.hazards.length p.c6)) := HH (fun w' hb => ⟨by
    have a := K0.out.after hb
    exact ⟨a.cell 0, a.cell 1, a.cell 2, a.cell 3, a.cell 4⟩, by
    have a := HNW.out.after hb
    exact ⟨a.cell 0, a.cell 1, a.cell 2, a.cell 3, a.cell 4, a.cell 5⟩⟩)
  refine wp_region_held_drew (S := fun w' => Hid (Below W.heap.size W w')) (by kernel_rfl) ?_ (fun hHeld => ?_)
  · exact HH (below_drew (Below.refl _ _))
  refine tak 0 ?vam1 rfl ?hyam1 ?restam1
  case hyam1 => (intro w' hSw; obtain ⟨⟨kc0, kc1, kc2, kc3, kc4⟩, kd0, kd1, kd2, kd3, kd4, kd5⟩ := KC.out w' hSw.out; clear hSw; go_simp; try with_reducible rfl)
  simp only [ptk]
  refine tak 1 ?vam2 rfl ?hyam2 ?restam2
  case hyam2 => (intro w' hSw; obtain ⟨⟨kc0, kc1, kc2, kc3, kc4⟩, kd0, kd1, kd2, kd3, kd4, kd5⟩ := KC.out w' hSw.out; clear hSw; go_simp; try with_reducible rfl)
  simp only [ptk]
  refine tak 3 ?vam3 rfl ?hyam3 ?restam3
  case hyam3 => (intro w' hSw; obtain ⟨⟨kc0, kc1, kc2, kc3, kc4⟩, kd0, kd1, kd2, kd3, kd4, kd5⟩ := KC.out w' hSw.out; clear hSw; go_simp; try with_reducible rfl)
  simp only [ptk]
  refine tak 4 ?vam4 rfl ?hyam4 ?restam4
  case hyam4 => (intro w' hSw; obtain ⟨⟨kc0, kc1, kc2, kc3, kc4⟩, kd0, kd1, kd2, kd3, kd4, kd5⟩ := KC.out w' hSw.out; clear hSw; go_simp; try with_reducible rfl)
  simp only [ptk]
  have D0 := hHeld
  clear hHeld
  generalize World.drew W = v0 at *
  refine rdy [2, 5] ?_
  refine AllReadyH.cons rfl (fun K hK => ?_) ?_
  · go_simp
    go_at_call 105
    refine (HCL.out _).mono ?_
    rintro e w5 ⟨rfl, hb⟩
    have D5 : Hid (Below W.heap.size W w5) := HH (below_then D0.out hb D0.out.size)
    clear hb
    refine hK.out _ _ D5 (fun hHeld => ?_)
    clear hK K hHeld
    refine rdy [5] ?_
    refine AllReadyH.cons rfl (fun K hK => ?_) ?_
    · go_simp
      have D6 : Hid (Below W.heap.size W (w5.alloc (.cells #[.int .i64 x1] 3))) := HH (D5.out.alloc D5.out.size _)
      have HL : Hid (Rd (w5.alloc (.cells #[.int .i64 x1] 3)) (· < (w5.alloc (.cells #[.int .i64 x1] 3)).heap.size) (some ⟨w5.heap.size, 0, none⟩) [.int .i64 x1]) := HH (Sh.lit_rd _ _ _ _ rfl)
      generalize w5.alloc (.cells #[.int .i64 x1] 3) = u6 at *
      refine hK.out _ _ D6 (fun hHeld => ?_)
      clear hK K hHeld
      refine rdy [6] ?_
      refine AllReadyH.cons rfl (fun K hK => ?_) ?_
      · go_simp
        go_at_call 96
        refine (HM.out _ _ HL.out).mono ?_
        rintro e w7 ⟨rfl, hb⟩
        have D7 : Hid (Below W.heap.size W w7) := HH (below_then D6.out hb D6.out.size)
        clear hb
        refine hK.out _ _ D7 (fun hHeld => ?_)
        clear hK K hHeld
        refine rdy [7] ?_
        refine AllReadyH.cons rfl (fun K hK => ?_) ?_
        · go_simp
          refine hK.out _ _ D7 (fun hHeld => ?_)
          clear hK K hHeld
          refine wpAnyH_done (by kernel_rfl) ?_ _
          go_wp2
          go_ret
          exact ⟨rfl, keep_trans BW.out D7.out⟩
        exact AllReadyH.nil
      exact AllReadyH.nil
    exact AllReadyH.nil
  refine AllReadyH.cons rfl (fun K hK => ?_) ?_
  · go_simp
    have D9 : Hid (Below W.heap.size W (v0.alloc (.cells #[.int .i64 x1] 3))) := HH (D0.out.alloc D0.out.size _)
    have HL : Hid (Rd (v0.alloc (.cells #[.int .i64 x1] 3)) (· < (v0.alloc (.cells #[.int .i64 x1] 3)).heap.size) (some ⟨v0.heap.size, 0, none⟩) [.int .i64 x1]) := HH (Sh.lit_rd _ _ _ _ rfl)
    generalize v0.alloc (.cells #[.int .i64 x1] 3) = u9 at *
    refine hK.out _ _ D9 (fun hHeld => ?_)
    clear hK K hHeld
    refine rdy [2] ?_
    refine AllReadyH.cons rfl (fun K hK => ?_) ?_
    · go_simp
      go_at_call 105
      refine (HCL.out _).mono ?_
      rintro e w10 ⟨rfl, hb⟩
      have D10 : Hid (Below W.heap.size W w10) := HH (below_then D9.out hb D9.out.size)
      have HL := HH (rd_later HL.out hb)
      clear hb
      refine hK.out _ _ D10 (fun hHeld => ?_)
      clear hK K hHeld
      refine rdy [6] ?_
      refine AllReadyH.cons rfl (fun K hK => ?_) ?_
      · go_simp
        go_at_call 96
        refine (HM.out _ _ HL.out).mono ?_
        rintro e w11 ⟨rfl, hb⟩
        have D11 : Hid (Below W.heap.size W w11) := HH (below_then D10.out hb D10.out.size)
        clear hb
        refine hK.out _ _ D11 (fun hHeld => ?_)
        clear hK K hHeld
        refine rdy [7] ?_
        refine AllReadyH.cons rfl (fun K hK => ?_) ?_
        · go_simp
          refine hK.out _ _ D11 (fun hHeld => ?_)
          clear hK K hHeld
          refine wpAnyH_done (by kernel_rfl) ?_ _
          go_wp2
          go_ret
          exact ⟨rfl, keep_trans BW.out D11.out⟩
        exact AllReadyH.nil
      exact AllReadyH.nil
    exact AllReadyH.nil
  exact AllReadyH.nil
end Go.Proofs.YtfefnfifeaihhaaGreat.Wo
