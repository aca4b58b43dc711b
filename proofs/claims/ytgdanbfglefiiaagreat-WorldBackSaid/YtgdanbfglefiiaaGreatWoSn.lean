/- The library's slices.Equal of rows that may differ: whether they are the same. Conditions: the rows have at most a million things. -/
import Derived.Test.YtgdanbfglefiiaaGreatWoByKind
import Derived.Test.YtgdanbfglefiiaaGreatWoEq
import Derived.ChangeSlices
import Derived.Deep.Strs
import Derived.Deep.SlicePairs
import Derived.ChangeArms
import Derived.Carry
import Derived.Deep.RegionHeld3
import Derived.Deep.RegionHeldLaw
import Derived.Deep.CutRange
import Derived.StillTailTactics
import Derived.WalkSpells
import Derived.Lib.QuietBelow
import Derived.Deep.QuietTactic
namespace Go.Proofs.YtgdanbfglefiiaaGreat.Wo
open Go.ChangeShapes Go.WideShapes Go.ChangeAt Go.RowKit Go.Maps
open Lx Sh
set_option linter.unusedVariables false
set_option linter.unusedSimpArgs false
theorem kinds_inj {n m : NamesM} (h : ∀ j, j < 7 → n.kinds[j]? = m.kinds[j]?) : n = m := by
  cases n; cases m
  have h1 := h 1 (by omega)
  have h2 := h 2 (by omega)
  have h3 := h 3 (by omega)
  have h4 := h 4 (by omega)
  have h5 := h 5 (by omega)
  have h6 := h 6 (by omega)
  simp [NamesM.kinds] at h1 h2 h3 h4 h5 h6
  simp [h1, h2, h3, h4, h5, h6]
def NLt4 (n : NamesM) : Prop := ∀ l ∈ n.kinds, l.length ≤ 400
theorem kA_list {n : NamesM} {p : NaA} {k : Nat} {l : List Nm} (h : n.kinds[k]? = some l) : ∃ A c, (kA n p).toList[k]? = some (.slice A l.length c) ∧ ∀ w S, Na w S n p → Rd w S A (cs strC l) := by
  obtain ⟨A, c, h1, h2⟩ := kA_at (p := p) h
  exact ⟨A, c, by rw [← h1]; simp, h2⟩
set_option maxRecDepth 100000 in
set_option maxHeartbeats 2000000 in
theorem ef_names (n m : NamesM) (p q : NaA) (A B : Option Addr) (c d : Nat) (w : World) (hA : Rd w (· < w.heap.size) A (kA n p).toList) (hB : Rd w (· < w.heap.size) B (kA m q).toList) (h : Na w (· < w.heap.size) n p) (h' : Na w (· < w.heap.size) m q) (hl : NLt4 n) (hl' : NLt4 m) :
    Calls Tryz.prog 112 #[.slice A 7 c, .slice B 7 d, .func (.func 113) #[] #[]] w (BPost w (decide (n = m))) := by
  have HA := Lib.hid hA
  have HB := Lib.hid hB
  have HN := Lib.hid h
  have HM := Lib.hid h'
  have HL := Lib.hid hl
  have HL' := Lib.hid hl'
  clear hA hB h h' hl hl'
  go_enter Tryz.func112, Tryz.ntmps112
  go_wp2
  go_loopw [17] (fun v wr => ∃ k : Nat, v = .int .i64 (k : Int) ∧ k ≤ 7 ∧ Hid (∀ j, j < k → n.kinds[j]? = m.kinds[j]?) ∧ Hid (Below w.heap.size w wr)) (fun v _ => 7 - (intOf v).toNat)
  case atStart => exact ⟨0, rfl, by omega, Lib.hid (fun j hj => absurd hj (by omega)), Lib.hid (Below.refl _ _)⟩
  case round =>
    obtain ⟨k, rfl, hk, HE, HW⟩ := hrel
    by_cases hlt : k < 7
    · obtain ⟨l, hl⟩ : ∃ l, n.kinds[k]? = some l := ⟨_, List.getElem?_eq_getElem (by simpa [NamesM.kinds] using hlt)⟩
      obtain ⟨l', hl'⟩ : ∃ l, m.kinds[k]? = some l := ⟨_, List.getElem?_eq_getElem (by simpa [NamesM.kinds] using hlt)⟩
      obtain ⟨A1, c1, x1, r1⟩ := kA_list (p := p) hl
      obtain ⟨A2, c2, x2, r2⟩ := kA_list (p := q) hl'
      obtain ⟨ad, rfl, hS, hc1⟩ := (rd_later HA.out HW.out) (by show 0 < 7; omega)
      obtain ⟨bd, rfl, hS', hc2⟩ := (rd_later HB.out HW.out) (by show 0 < 7; omega)
      have a0 := hc1 k _ x1
      have b0 := hc2 k _ x2
      obtain ⟨n1, hn1⟩ : ∃ z, z = l.length := ⟨_, rfl⟩
      obtain ⟨n2, hn2⟩ : ∃ z, z = l'.length := ⟨_, rfl⟩
      rw [← hn1] at a0
      rw [← hn2] at b0
      have HQ := Lib.hid (eq_str wr A1 A2 n1 n2 c1 c2 l l' (Lib.hid hn1) (Lib.hid hn2) (by have := HL.out l (List.mem_of_getElem? hl); omega) (by have := HL'.out l' (List.mem_of_getElem? hl'); omega) (r1 _ _ (HN.out.later HW.out)) (r2 _ _ (HM.out.later HW.out)))
      have HK := Lib.hid (And.intro hl hl')
      have hki : (k : Int) < 7 := by omega
      have hk0 : ¬ ((k : Int) < 0) := by omega
      clear hl hl' x1 x2 r1 r2 hc1 hc2 hS hS' hn1 hn2
      by_cases he : l = l'
      · have HE2 : Hid (∀ j, j < k + 1 → n.kinds[j]? = m.kinds[j]?) := Lib.hid (fun j hj => by
          rcases Nat.lt_succ_iff_lt_or_eq.1 hj with h | rfl
          · exact HE.out j h
          · rw [HK.out.1, HK.out.2, he])
        rw [decide_eq_true he] at HQ
        clear he
        go_wp2_with (go_at_call 113; refine HQ.out.mono ?_; rintro e w2 ⟨rfl, hb⟩; have HW2 := Lib.hid (keep_trans HW.out hb); clear hb)
        go_roundw
        case rel => exact ⟨k + 1, by go_num, by omega, HE2, HW2⟩
        case measure => simp [intOf]; omega
      · have HD : Hid (decide (n = m) = false) := Lib.hid (decide_eq_false (by
          rintro rfl
          have h1 := HK.out.1.symm.trans HK.out.2
          injection h1 with h1
          exact he h1))
        rw [decide_eq_false he] at HQ
        clear he
        go_wp2_with (go_at_call 113; refine HQ.out.mono ?_; rintro e w2 ⟨rfl, hb⟩; have HW2 := Lib.hid (keep_trans HW.out hb); clear hb)
        go_ret
        exact ⟨by rw [HD.out]; rfl, HW2.out⟩
    · obtain rfl : k = 7 := by omega
      have HD : Hid (decide (n = m) = true) := Lib.hid (decide_eq_true (kinds_inj HE.out))
      go_wp2
      go_ret
      exact ⟨by rw [HD.out]; rfl, HW.out⟩
set_option maxRecDepth 100000 in
set_option maxHeartbeats 8000000 in
theorem same_names (n m : NamesM) (p q : NaA) (w : World) (h : Na w (· < w.heap.size) n p) (h' : Na w (· < w.heap.size) m q) (hl : NLt4 n) (hl' : NLt4 m) :
    Calls Tryz.prog 69 #[naV n p, naV m q] w (BPost w (decide (n = m))) := by
  have HEF := Lib.hid (fun w' A B c d (hb : Below w.heap.size w w') hA hB => ef_names n m p q A B c d w' hA hB (h.later hb) (h'.later hb) hl hl')
  have HBN := Lib.hid (fun w' => byKind_any n p w')
  have HBM := Lib.hid (fun w' => byKind_any m q w')
  generalize decide (n = m) = bb at *
  dsimp only [naV, kA] at HBN HBM ⊢
  clear h h' hl hl'
  go_enter Tryz.func69, Tryz.ntmps69
  go_upto_region 1 with fail
  obtain ⟨W, hW⟩ : ∃ W, W = (w.alloc (.cells #[.slice p.a1 n.stops.length p.c1, .slice p.a2 n.paths.length p.c2, .slice p.a3 n.doors.length p.c3, .slice p.a4 n.routes.length p.c4, .slice p.a5 n.trips.length p.c5, .slice p.a6 n.hazards.length p.c6] 25)).alloc (.cells #[.slice q.a1 m.stops.length q.c1, .slice q.a2 m.paths.length q.c2, .slice q.a3 m.doors.length q.c3, .slice q.a4 m.routes.length q.c4, .slice q.a5 m.trips.length q.c5, .slice q.a6 m.hazards.length q.c6] 25) := ⟨_, rfl⟩
  have BW : Hid (Below w.heap.size w W) := Lib.hid (by rw [hW]; exact two_box _ _ _)
  have KX : Hid (Blk W w.heap.size 25 [.slice p.a1 n.stops.length p.c1, .slice p.a2 n.paths.length p.c2, .slice p.a3 n.doors.length p.c3, .slice p.a4 n.routes.length p.c4, .slice p.a5 n.trips.length p.c5, .slice p.a6 n.hazards.length p.c6]) := Lib.hid (by rw [hW]; exact (Blk.new _ _ _).alloc _)
  have KZ : Hid (Blk W (w.heap.size + 1) 25 [.slice q.a1 m.stops.length q.c1, .slice q.a2 m.paths.length q.c2, .slice q.a3 m.doors.length q.c3, .slice q.a4 m.routes.length q.c4, .slice q.a5 m.trips.length q.c5, .slice q.a6 m.hazards.length q.c6]) := Lib.hid (by rw [hW]; exact Blk.new2 _ _ _ _)
  rw [← hW]
  clear hW
  have KC : Hid (∀ w', Below W.heap.size W w' → (w'.cell? ⟨w.heap.size, 0, none⟩ = some (.slice p.a1 n.stops.length p.c1) ∧ w'.cell? ⟨w.heap.size, 1, none⟩ = some (.slice p.a2 n.paths.length p.c2) ∧ w'.cell? ⟨w.heap.size, 2, none⟩ = some (.slice p.a3 n.doors.length p.c3) ∧ w'.cell? ⟨w.heap.size, 3, none⟩ = some (.slice p.a4 n.routes.length p.c4) ∧ w'.cell? ⟨w.heap.size, 4, none⟩ = some (.slice p.a5 n.trips.length p.c5) ∧ w'.cell? ⟨w.heap.size, 5, none⟩ = some (.slice p.a6 n.hazards.length p.c6)) ∧ w'.cell? ⟨w.heap.size + 1, 0, none⟩ = some (.slice q.a1 m.stops.length q.c1) ∧ w'.cell? ⟨w.heap.size + 1, 1, none⟩ = some (.slice q.a2 m.paths.length q.c2) ∧ w'.cell? ⟨w.heap.size + 1, 2, none⟩ = some (.slice q.a3 m.doors.length q.c3) ∧ w'.cell? ⟨w.heap.size + 1, 3, none⟩ = some (.slice q.a4 m.routes.length q.c4) ∧ w'.cell? ⟨w.heap.size + 1, 4, none⟩ = some (.slice q.a5 m.trips.length q.c5) ∧ w'.cell? ⟨w.heap.size + 1, 5, none⟩ = some (.slice q.a6 m.hazards.length q.c6)) := Lib.hid (fun w' hb => ⟨by
    have a := KX.out.after hb
    exact ⟨a.cell 0, a.cell 1, a.cell 2, a.cell 3, a.cell 4, a.cell 5⟩, by
    have a := KZ.out.after hb
    exact ⟨a.cell 0, a.cell 1, a.cell 2, a.cell 3, a.cell 4, a.cell 5⟩⟩)
  refine wp_region_held_drew (S := fun w' => Hid (Below W.heap.size W w')) (by kernel_rfl) ?_ (fun hHeld => ?_)
  · exact Lib.hid (below_drew (Below.refl _ _))
  refine wpAnyH_take (i := 0) (v := ?vsn1) rfl (by kernel_rfl) (by kernel_rfl) (by kernel_rfl) (fun _ _ _ h => h) (Or.inl ⟨by rfl, ?hysn1⟩) (by assumption) ?restsn1
  case hysn1 => (intro w' hSw; obtain ⟨⟨kc0, kc1, kc2, kc3, kc4, kc5⟩, kd0, kd1, kd2, kd3, kd4, kd5⟩ := KC.out w' hSw.out; clear hSw; go_simp; try with_reducible rfl)
  simp only [Act.put, List.getElem_toArray, List.getElem_cons_zero, List.getElem_cons_succ, List.setIfInBounds_toArray, List.set_cons_zero, List.set_cons_succ]
  refine wpAnyH_take (i := 2) (v := ?vsn2) rfl (by kernel_rfl) (by kernel_rfl) (by kernel_rfl) (fun _ _ _ h => h) (Or.inl ⟨by rfl, ?hysn2⟩) (by assumption) ?restsn2
  case hysn2 => (intro w' hSw; obtain ⟨⟨kc0, kc1, kc2, kc3, kc4, kc5⟩, kd0, kd1, kd2, kd3, kd4, kd5⟩ := KC.out w' hSw.out; clear hSw; go_simp; try with_reducible rfl)
  simp only [Act.put, List.getElem_toArray, List.getElem_cons_zero, List.getElem_cons_succ, List.setIfInBounds_toArray, List.set_cons_zero, List.set_cons_succ]
  have D := hHeld
  clear hHeld KC KX KZ
  generalize World.drew W = vv at *
  iterate 4
    all_goals
      (first | refine wpAnyH_ready (rs := [1, 4, 5]) (by decide +kernel) (by simp) ?_ | refine wpAnyH_ready (rs := [3, 4, 5]) (by decide +kernel) (by simp) ?_ | refine wpAnyH_ready (rs := [1, 4]) (by decide +kernel) (by simp) ?_ | refine wpAnyH_ready (rs := [1, 5]) (by decide +kernel) (by simp) ?_ | refine wpAnyH_ready (rs := [3, 4]) (by decide +kernel) (by simp) ?_ | refine wpAnyH_ready (rs := [3, 5]) (by decide +kernel) (by simp) ?_ | refine wpAnyH_ready (rs := [4, 5]) (by decide +kernel) (by simp) ?_ | refine wpAnyH_ready (rs := [1]) (by decide +kernel) (by simp) ?_ | refine wpAnyH_ready (rs := [3]) (by decide +kernel) (by simp) ?_ | refine wpAnyH_ready (rs := [4]) (by decide +kernel) (by simp) ?_ | refine wpAnyH_ready (rs := [5]) (by decide +kernel) (by simp) ?_)
      (first | refine AllReadyH.cons rfl (fun K hK => ?_) AllReadyH.nil | refine AllReadyH.cons rfl (fun K hK => ?_) (AllReadyH.cons rfl (fun K hK => ?_) AllReadyH.nil) | refine AllReadyH.cons rfl (fun K hK => ?_) (AllReadyH.cons rfl (fun K hK => ?_) (AllReadyH.cons rfl (fun K hK => ?_) AllReadyH.nil)))
    all_goals
      go_simp
      (first
        | (go_at_call 36; (with_reducible refine (HBN.out _).mono ?_); rintro e w1 ⟨rfl, hb⟩; have DN : Hid (Below W.heap.size W w1) := Lib.hid (below_then D.out hb D.out.size); (try have HG1 := Lib.hid (HG1.out.after hb)); (try have HG2 := Lib.hid (HG2.out.after hb)); clear hb; refine hK.out _ _ DN (fun hHeld => ?_); clear hK K hHeld; rename World => vv; have D := DN; clear DN)
        | (go_at_call 36; (with_reducible refine (HBM.out _).mono ?_); rintro e w1 ⟨rfl, hb⟩; have DN : Hid (Below W.heap.size W w1) := Lib.hid (below_then D.out hb D.out.size); (try have HG1 := Lib.hid (HG1.out.after hb)); (try have HG2 := Lib.hid (HG2.out.after hb)); clear hb; refine hK.out _ _ DN (fun hHeld => ?_); clear hK K hHeld; rename World => vv; have D := DN; clear DN)
        | (obtain ⟨gB, hg⟩ : ∃ g, g = vv.heap.size := ⟨_, rfl⟩; have NE : Hid (gA ≠ gB) := Lib.hid (by have := HG1.out.lt; omega); have LB : Hid (W.heap.size ≤ gB) := Lib.hid (by rw [hg]; exact D.out.size); have DN : Hid (Below W.heap.size W (vv.alloc (.cells #[.slice none 0 0, .slice none 0 0, .slice none 0 0, .slice none 0 0, .slice none 0 0, .slice none 0 0, .slice none 0 0] 99))) := Lib.hid (D.out.alloc D.out.size _); have HG1 : Hid (Blk (vv.alloc (.cells #[.slice none 0 0, .slice none 0 0, .slice none 0 0, .slice none 0 0, .slice none 0 0, .slice none 0 0, .slice none 0 0] 99)) gA 99 [.slice none 0 0, .slice none 0 0, .slice none 0 0, .slice none 0 0, .slice none 0 0, .slice none 0 0, .slice none 0 0]) := Lib.hid (HG1.out.alloc _); have HG2 : Hid (Blk (vv.alloc (.cells #[.slice none 0 0, .slice none 0 0, .slice none 0 0, .slice none 0 0, .slice none 0 0, .slice none 0 0, .slice none 0 0] 99)) gB 99 [.slice none 0 0, .slice none 0 0, .slice none 0 0, .slice none 0 0, .slice none 0 0, .slice none 0 0, .slice none 0 0]) := Lib.hid (by rw [hg]; exact Blk.new _ _ _); rw [← hg]; clear hg; change K _ (vv.alloc (.cells #[.slice none 0 0, .slice none 0 0, .slice none 0 0, .slice none 0 0, .slice none 0 0, .slice none 0 0, .slice none 0 0] 99)); generalize vv.alloc (.cells #[.slice none 0 0, .slice none 0 0, .slice none 0 0, .slice none 0 0, .slice none 0 0, .slice none 0 0, .slice none 0 0] 99) = vn at *; refine hK.out _ _ DN (fun hHeld => ?_); clear hK K hHeld; rename World => vv; have D := DN; clear DN)
        | (obtain ⟨gA, hg⟩ : ∃ g, g = vv.heap.size := ⟨_, rfl⟩; have LA : Hid (W.heap.size ≤ gA) := Lib.hid (by rw [hg]; exact D.out.size); have DN : Hid (Below W.heap.size W (vv.alloc (.cells #[.slice none 0 0, .slice none 0 0, .slice none 0 0, .slice none 0 0, .slice none 0 0, .slice none 0 0, .slice none 0 0] 99))) := Lib.hid (D.out.alloc D.out.size _); have HG1 : Hid (Blk (vv.alloc (.cells #[.slice none 0 0, .slice none 0 0, .slice none 0 0, .slice none 0 0, .slice none 0 0, .slice none 0 0, .slice none 0 0] 99)) gA 99 [.slice none 0 0, .slice none 0 0, .slice none 0 0, .slice none 0 0, .slice none 0 0, .slice none 0 0, .slice none 0 0]) := Lib.hid (by rw [hg]; exact Blk.new _ _ _); rw [← hg]; clear hg; change K _ (vv.alloc (.cells #[.slice none 0 0, .slice none 0 0, .slice none 0 0, .slice none 0 0, .slice none 0 0, .slice none 0 0, .slice none 0 0] 99)); generalize vv.alloc (.cells #[.slice none 0 0, .slice none 0 0, .slice none 0 0, .slice none 0 0, .slice none 0 0, .slice none 0 0, .slice none 0 0] 99) = vn at *; refine hK.out _ _ DN (fun hHeld => ?_); clear hK K hHeld; rename World => vv; have D := DN; clear DN))
  all_goals
    refine wpAnyH_ready (rs := [6]) (by kernel_rfl) (by simp) ?_
    refine AllReadyH.cons rfl (fun K hK => ?_) AllReadyH.nil
    have qa0 := HG1.out.cell 0
    have qa1 := HG1.out.cell 1
    have qa2 := HG1.out.cell 2
    have qa3 := HG1.out.cell 3
    have qa4 := HG1.out.cell 4
    have qa5 := HG1.out.cell 5
    have qa6 := HG1.out.cell 6
    have qaf := fun i => HG1.out.frozen i
    have qb0 := HG2.out.cell 0
    have qb1 := HG2.out.cell 1
    have qb2 := HG2.out.cell 2
    have qb3 := HG2.out.cell 3
    have qb4 := HG2.out.cell 4
    have qb5 := HG2.out.cell 5
    have qb6 := HG2.out.cell 6
    have qbf := fun i => HG2.out.frozen i
    simp only [List.getElem?_cons_zero, List.getElem?_cons_succ] at qa0 qa1 qa2 qa3 qa4 qa5 qa6 qb0 qb1 qb2 qb3 qb4 qb5 qb6
    go_simp
    clear qa0 qa1 qa2 qa3 qa4 qa5 qa6 qb0 qb1 qb2 qb3 qb4 qb5 qb6 qaf qbf
    (first
      | (rw [show (World.setCell (World.setCell (World.setCell (World.setCell (World.setCell (World.setCell (World.setCell vv ⟨gA, 0, none⟩ (.slice none 0 0)) ⟨gA, 1, none⟩ (.slice p.a1 n.stops.length p.c1)) ⟨gA, 2, none⟩ (.slice p.a2 n.paths.length p.c2)) ⟨gA, 3, none⟩ (.slice p.a3 n.doors.length p.c3)) ⟨gA, 4, none⟩ (.slice p.a4 n.routes.length p.c4)) ⟨gA, 5, none⟩ (.slice p.a5 n.trips.length p.c5)) ⟨gA, 6, none⟩ (.slice p.a6 n.hazards.length p.c6)) = sto7 vv gA (.slice none 0 0) (.slice p.a1 n.stops.length p.c1) (.slice p.a2 n.paths.length p.c2) (.slice p.a3 n.doors.length p.c3) (.slice p.a4 n.routes.length p.c4) (.slice p.a5 n.trips.length p.c5) (.slice p.a6 n.hazards.length p.c6) from rfl]; have DN : Hid (Below W.heap.size W (sto7 vv gA (.slice none 0 0) (.slice p.a1 n.stops.length p.c1) (.slice p.a2 n.paths.length p.c2) (.slice p.a3 n.doors.length p.c3) (.slice p.a4 n.routes.length p.c4) (.slice p.a5 n.trips.length p.c5) (.slice p.a6 n.hazards.length p.c6))) := Lib.hid (sto7_below D.out LA.out); have HG1 : Hid (Blk (sto7 vv gA (.slice none 0 0) (.slice p.a1 n.stops.length p.c1) (.slice p.a2 n.paths.length p.c2) (.slice p.a3 n.doors.length p.c3) (.slice p.a4 n.routes.length p.c4) (.slice p.a5 n.trips.length p.c5) (.slice p.a6 n.hazards.length p.c6)) gA 99 [.slice none 0 0, .slice p.a1 n.stops.length p.c1, .slice p.a2 n.paths.length p.c2, .slice p.a3 n.doors.length p.c3, .slice p.a4 n.routes.length p.c4, .slice p.a5 n.trips.length p.c5, .slice p.a6 n.hazards.length p.c6]) := Lib.hid (sto7_blk HG1.out); have HG2 : Hid (Blk (sto7 vv gA (.slice none 0 0) (.slice p.a1 n.stops.length p.c1) (.slice p.a2 n.paths.length p.c2) (.slice p.a3 n.doors.length p.c3) (.slice p.a4 n.routes.length p.c4) (.slice p.a5 n.trips.length p.c5) (.slice p.a6 n.hazards.length p.c6)) gB 99 [.slice none 0 0, .slice none 0 0, .slice none 0 0, .slice none 0 0, .slice none 0 0, .slice none 0 0, .slice none 0 0]) := Lib.hid ((sto7_ch (w := vv) (s := gA)).blk HG2.out (by have := NE.out; omega)); generalize sto7 vv gA (.slice none 0 0) (.slice p.a1 n.stops.length p.c1) (.slice p.a2 n.paths.length p.c2) (.slice p.a3 n.doors.length p.c3) (.slice p.a4 n.routes.length p.c4) (.slice p.a5 n.trips.length p.c5) (.slice p.a6 n.hazards.length p.c6) = vn at *; refine hK.out _ _ DN (fun hHeld => ?_); clear hK K hHeld; rename World => vv; have D := DN; clear DN)
      | (rw [show (World.setCell (World.setCell (World.setCell (World.setCell (World.setCell (World.setCell (World.setCell vv ⟨gB, 0, none⟩ (.slice none 0 0)) ⟨gB, 1, none⟩ (.slice p.a1 n.stops.length p.c1)) ⟨gB, 2, none⟩ (.slice p.a2 n.paths.length p.c2)) ⟨gB, 3, none⟩ (.slice p.a3 n.doors.length p.c3)) ⟨gB, 4, none⟩ (.slice p.a4 n.routes.length p.c4)) ⟨gB, 5, none⟩ (.slice p.a5 n.trips.length p.c5)) ⟨gB, 6, none⟩ (.slice p.a6 n.hazards.length p.c6)) = sto7 vv gB (.slice none 0 0) (.slice p.a1 n.stops.length p.c1) (.slice p.a2 n.paths.length p.c2) (.slice p.a3 n.doors.length p.c3) (.slice p.a4 n.routes.length p.c4) (.slice p.a5 n.trips.length p.c5) (.slice p.a6 n.hazards.length p.c6) from rfl]; have DN : Hid (Below W.heap.size W (sto7 vv gB (.slice none 0 0) (.slice p.a1 n.stops.length p.c1) (.slice p.a2 n.paths.length p.c2) (.slice p.a3 n.doors.length p.c3) (.slice p.a4 n.routes.length p.c4) (.slice p.a5 n.trips.length p.c5) (.slice p.a6 n.hazards.length p.c6))) := Lib.hid (sto7_below D.out LB.out); have HG2 : Hid (Blk (sto7 vv gB (.slice none 0 0) (.slice p.a1 n.stops.length p.c1) (.slice p.a2 n.paths.length p.c2) (.slice p.a3 n.doors.length p.c3) (.slice p.a4 n.routes.length p.c4) (.slice p.a5 n.trips.length p.c5) (.slice p.a6 n.hazards.length p.c6)) gB 99 [.slice none 0 0, .slice p.a1 n.stops.length p.c1, .slice p.a2 n.paths.length p.c2, .slice p.a3 n.doors.length p.c3, .slice p.a4 n.routes.length p.c4, .slice p.a5 n.trips.length p.c5, .slice p.a6 n.hazards.length p.c6]) := Lib.hid (sto7_blk HG2.out); have HG1 : Hid (Blk (sto7 vv gB (.slice none 0 0) (.slice p.a1 n.stops.length p.c1) (.slice p.a2 n.paths.length p.c2) (.slice p.a3 n.doors.length p.c3) (.slice p.a4 n.routes.length p.c4) (.slice p.a5 n.trips.length p.c5) (.slice p.a6 n.hazards.length p.c6)) gA 99 [.slice none 0 0, .slice none 0 0, .slice none 0 0, .slice none 0 0, .slice none 0 0, .slice none 0 0, .slice none 0 0]) := Lib.hid ((sto7_ch (w := vv) (s := gB)).blk HG1.out (by have := NE.out; omega)); generalize sto7 vv gB (.slice none 0 0) (.slice p.a1 n.stops.length p.c1) (.slice p.a2 n.paths.length p.c2) (.slice p.a3 n.doors.length p.c3) (.slice p.a4 n.routes.length p.c4) (.slice p.a5 n.trips.length p.c5) (.slice p.a6 n.hazards.length p.c6) = vn at *; refine hK.out _ _ DN (fun hHeld => ?_); clear hK K hHeld; rename World => vv; have D := DN; clear DN))
    refine wpAnyH_ready (rs := [7]) (by kernel_rfl) (by simp) ?_
    refine AllReadyH.cons rfl (fun K hK => ?_) AllReadyH.nil
    have qa0 := HG1.out.cell 0
    have qa1 := HG1.out.cell 1
    have qa2 := HG1.out.cell 2
    have qa3 := HG1.out.cell 3
    have qa4 := HG1.out.cell 4
    have qa5 := HG1.out.cell 5
    have qa6 := HG1.out.cell 6
    have qaf := fun i => HG1.out.frozen i
    have qb0 := HG2.out.cell 0
    have qb1 := HG2.out.cell 1
    have qb2 := HG2.out.cell 2
    have qb3 := HG2.out.cell 3
    have qb4 := HG2.out.cell 4
    have qb5 := HG2.out.cell 5
    have qb6 := HG2.out.cell 6
    have qbf := fun i => HG2.out.frozen i
    simp only [List.getElem?_cons_zero, List.getElem?_cons_succ] at qa0 qa1 qa2 qa3 qa4 qa5 qa6 qb0 qb1 qb2 qb3 qb4 qb5 qb6
    go_simp
    clear qa0 qa1 qa2 qa3 qa4 qa5 qa6 qb0 qb1 qb2 qb3 qb4 qb5 qb6 qaf qbf
    (first
      | (rw [show (World.setCell (World.setCell (World.setCell (World.setCell (World.setCell (World.setCell (World.setCell vv ⟨gB, 0, none⟩ (.slice none 0 0)) ⟨gB, 1, none⟩ (.slice q.a1 m.stops.length q.c1)) ⟨gB, 2, none⟩ (.slice q.a2 m.paths.length q.c2)) ⟨gB, 3, none⟩ (.slice q.a3 m.doors.length q.c3)) ⟨gB, 4, none⟩ (.slice q.a4 m.routes.length q.c4)) ⟨gB, 5, none⟩ (.slice q.a5 m.trips.length q.c5)) ⟨gB, 6, none⟩ (.slice q.a6 m.hazards.length q.c6)) = sto7 vv gB (.slice none 0 0) (.slice q.a1 m.stops.length q.c1) (.slice q.a2 m.paths.length q.c2) (.slice q.a3 m.doors.length q.c3) (.slice q.a4 m.routes.length q.c4) (.slice q.a5 m.trips.length q.c5) (.slice q.a6 m.hazards.length q.c6) from rfl]; have DN : Hid (Below W.heap.size W (sto7 vv gB (.slice none 0 0) (.slice q.a1 m.stops.length q.c1) (.slice q.a2 m.paths.length q.c2) (.slice q.a3 m.doors.length q.c3) (.slice q.a4 m.routes.length q.c4) (.slice q.a5 m.trips.length q.c5) (.slice q.a6 m.hazards.length q.c6))) := Lib.hid (sto7_below D.out LB.out); have HG2 : Hid (Blk (sto7 vv gB (.slice none 0 0) (.slice q.a1 m.stops.length q.c1) (.slice q.a2 m.paths.length q.c2) (.slice q.a3 m.doors.length q.c3) (.slice q.a4 m.routes.length q.c4) (.slice q.a5 m.trips.length q.c5) (.slice q.a6 m.hazards.length q.c6)) gB 99 [.slice none 0 0, .slice q.a1 m.stops.length q.c1, .slice q.a2 m.paths.length q.c2, .slice q.a3 m.doors.length q.c3, .slice q.a4 m.routes.length q.c4, .slice q.a5 m.trips.length q.c5, .slice q.a6 m.hazards.length q.c6]) := Lib.hid (sto7_blk HG2.out); have HG1 : Hid (Blk (sto7 vv gB (.slice none 0 0) (.slice q.a1 m.stops.length q.c1) (.slice q.a2 m.paths.length q.c2) (.slice q.a3 m.doors.length q.c3) (.slice q.a4 m.routes.length q.c4) (.slice q.a5 m.trips.length q.c5) (.slice q.a6 m.hazards.length q.c6)) gA 99 [.slice none 0 0, .slice p.a1 n.stops.length p.c1, .slice p.a2 n.paths.length p.c2, .slice p.a3 n.doors.length p.c3, .slice p.a4 n.routes.length p.c4, .slice p.a5 n.trips.length p.c5, .slice p.a6 n.hazards.length p.c6]) := Lib.hid ((sto7_ch (w := vv) (s := gB)).blk HG1.out (by have := NE.out; omega)); generalize sto7 vv gB (.slice none 0 0) (.slice q.a1 m.stops.length q.c1) (.slice q.a2 m.paths.length q.c2) (.slice q.a3 m.doors.length q.c3) (.slice q.a4 m.routes.length q.c4) (.slice q.a5 m.trips.length q.c5) (.slice q.a6 m.hazards.length q.c6) = vn at *; refine hK.out _ _ DN (fun hHeld => ?_); clear hK K hHeld; rename World => vv; have D := DN; clear DN)
      | (rw [show (World.setCell (World.setCell (World.setCell (World.setCell (World.setCell (World.setCell (World.setCell vv ⟨gA, 0, none⟩ (.slice none 0 0)) ⟨gA, 1, none⟩ (.slice q.a1 m.stops.length q.c1)) ⟨gA, 2, none⟩ (.slice q.a2 m.paths.length q.c2)) ⟨gA, 3, none⟩ (.slice q.a3 m.doors.length q.c3)) ⟨gA, 4, none⟩ (.slice q.a4 m.routes.length q.c4)) ⟨gA, 5, none⟩ (.slice q.a5 m.trips.length q.c5)) ⟨gA, 6, none⟩ (.slice q.a6 m.hazards.length q.c6)) = sto7 vv gA (.slice none 0 0) (.slice q.a1 m.stops.length q.c1) (.slice q.a2 m.paths.length q.c2) (.slice q.a3 m.doors.length q.c3) (.slice q.a4 m.routes.length q.c4) (.slice q.a5 m.trips.length q.c5) (.slice q.a6 m.hazards.length q.c6) from rfl]; have DN : Hid (Below W.heap.size W (sto7 vv gA (.slice none 0 0) (.slice q.a1 m.stops.length q.c1) (.slice q.a2 m.paths.length q.c2) (.slice q.a3 m.doors.length q.c3) (.slice q.a4 m.routes.length q.c4) (.slice q.a5 m.trips.length q.c5) (.slice q.a6 m.hazards.length q.c6))) := Lib.hid (sto7_below D.out LA.out); have HG1 : Hid (Blk (sto7 vv gA (.slice none 0 0) (.slice q.a1 m.stops.length q.c1) (.slice q.a2 m.paths.length q.c2) (.slice q.a3 m.doors.length q.c3) (.slice q.a4 m.routes.length q.c4) (.slice q.a5 m.trips.length q.c5) (.slice q.a6 m.hazards.length q.c6)) gA 99 [.slice none 0 0, .slice q.a1 m.stops.length q.c1, .slice q.a2 m.paths.length q.c2, .slice q.a3 m.doors.length q.c3, .slice q.a4 m.routes.length q.c4, .slice q.a5 m.trips.length q.c5, .slice q.a6 m.hazards.length q.c6]) := Lib.hid (sto7_blk HG1.out); have HG2 : Hid (Blk (sto7 vv gA (.slice none 0 0) (.slice q.a1 m.stops.length q.c1) (.slice q.a2 m.paths.length q.c2) (.slice q.a3 m.doors.length q.c3) (.slice q.a4 m.routes.length q.c4) (.slice q.a5 m.trips.length q.c5) (.slice q.a6 m.hazards.length q.c6)) gB 99 [.slice none 0 0, .slice p.a1 n.stops.length p.c1, .slice p.a2 n.paths.length p.c2, .slice p.a3 n.doors.length p.c3, .slice p.a4 n.routes.length p.c4, .slice p.a5 n.trips.length p.c5, .slice p.a6 n.hazards.length p.c6]) := Lib.hid ((sto7_ch (w := vv) (s := gA)).blk HG2.out (by have := NE.out; omega)); generalize sto7 vv gA (.slice none 0 0) (.slice q.a1 m.stops.length q.c1) (.slice q.a2 m.paths.length q.c2) (.slice q.a3 m.doors.length q.c3) (.slice q.a4 m.routes.length q.c4) (.slice q.a5 m.trips.length q.c5) (.slice q.a6 m.hazards.length q.c6) = vn at *; refine hK.out _ _ DN (fun hHeld => ?_); clear hK K hHeld; rename World => vv; have D := DN; clear DN))
    refine wpAnyH_done (by kernel_rfl) ?_ _
    go_upto_region 2 with fail
    refine wp_region_still_tail 2 (by kernel_rfl) (by kernel_rfl) ?_
    simp only [List.take_succ_cons, List.take_zero, List.drop_succ_cons, List.drop_zero]
    change wpStill _ _ (World.drewN vv 1) (fun a' => wpList _ _ _ _ a' (World.drewN vv 1)) _ _
    iterate 2 still_step
    refine wpStill_nil ?_
    have DF : Hid (Below w.heap.size w (World.drewN vv 1)) := Lib.hid (below_drewN (keep_trans BW.out D.out) 1)
    have R1 := Lib.hid (Blk.rd (w := World.drewN vv 1) (S := (· < (World.drewN vv 1).heap.size)) HG1.out HG1.out.lt 0)
    have R2 := Lib.hid (Blk.rd (w := World.drewN vv 1) (S := (· < (World.drewN vv 1).heap.size)) HG2.out HG2.out.lt 0)
    go_wp2_with (go_at_call 112; (first | refine (HEF.out _ _ _ _ _ DF.out R1.out R2.out).mono ?_ | refine (HEF.out _ _ _ _ _ DF.out R2.out R1.out).mono ?_); rintro e w2 ⟨rfl, hb⟩; have DZ := Lib.hid (keep_trans DF.out hb); clear hb)
    go_ret
    exact ⟨rfl, DZ.out⟩
end Go.Proofs.YtgdanbfglefiiaaGreat.Wo
