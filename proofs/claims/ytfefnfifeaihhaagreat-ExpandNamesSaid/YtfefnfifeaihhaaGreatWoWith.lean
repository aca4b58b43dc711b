/- Package world's withNames at a world's things: each told with its name; proved by walking their texts. Conditions: as many names as things, at most 400; the closure leaves what was there alone. -/
import Derived.Test.YtfefnfifeaihhaaGreatWoCont
set_option linter.unusedVariables false
set_option linter.unusedSimpArgs false
set_option maxHeartbeats 2000000
set_option maxRecDepth 100000
namespace Go.Proofs.YtfefnfifeaihhaaGreat.Wo
open Go.ChangeShapes Go.WideShapes Go.ChangeAt Go.RowKit Go.Maps
open Lx Sh
theorem zip_at {α β : Type} {l : List α} {q : List β} {k : Nat} {a : α} {b : β} (ha : l[k]? = some a) (hb : q[k]? = some b) : (l.zip q)[k]? = some (a, b) := by
  obtain ⟨h1, e1⟩ := List.getElem?_eq_some_iff.1 ha
  obtain ⟨h2, e2⟩ := List.getElem?_eq_some_iff.1 hb
  rw [List.getElem?_eq_some_iff]
  refine ⟨by rw [List.length_zip]; omega, ?_⟩
  rw [List.getElem_zip, e1, e2]
theorem zip_of {α β γ : Type} (f : α → β → γ) (l : List α) (q : List β) : (l.zip q).map (fun p => f p.1 p.2) = l.zipWith f q := by
  rw [List.zip, List.map_zipWith]
theorem wn_po (w : World) (A NA : Option Addr) (n c nc g : Nat) (l : List PathO) (names : List Nm) (f : Nm → PathO → PathM) (hn : Hid (n = l.length)) (hnn : Hid (n = names.length)) (hN : n ≤ 400) (hx : Rd w (· < w.heap.size) A (cs poC l)) (hxn : Rd w (· < w.heap.size) NA (cs strC names))
    (hg : Hid (∀ s a, a ∈ l → ∀ w', Below w.heap.size w w' → Calls Tryz.prog 109 #[.string ⟨s.toArray⟩, poV a, .pointer (some ⟨g, 0, none⟩)] w' (fun e w'' => e = .returned (paV (f s a)) ∧ Below w'.heap.size w' w''))) :
    Calls Tryz.prog 108 #[.slice NA n nc, .slice A n c, .func (.func 109) #[] #[.pointer (some ⟨g, 0, none⟩)]] w (NewRow w 117 4 (cs paC (names.zipWith f l)) n) := by
  have HX := HH hx
  have HXN := HH hxn
  have HZ : Hid (n = (names.zip l).length) := HH (by rw [List.length_zip, ← hn.out, ← hnn.out]; omega)
  clear hx hxn
  go_enter Tryz.func108, Tryz.ntmps108
  go_wp2
  go_loopw [7, 12] (fun v vi wr => EaRel w 117 4 paC (fun p : Nm × PathO => f p.1 p.2) (names.zip l) n v vi wr) (fun _ vi _ => n - (intOf vi).toNat)
  case atStart => exact ea_start _ _ _ _ _ _
  case round =>
    obtain ⟨k, B, d, rfl, rfl, hk, HO, HB⟩ := hrel
    by_cases hlt : k < n
    · obtain ⟨a, ha⟩ := at_in l hn hlt
      obtain ⟨s, hs⟩ := at_in names hnn hlt
      obtain ⟨ad, rfl, hS, h0, hj⟩ := rd_at 3 (fun _ => rfl) (by omega) (HX.out.below HB.out) ha
      obtain ⟨ae, rfl, hS', s0, -⟩ := rd_at 1 (fun _ => rfl) (by omega) (HXN.out.below HB.out) hs
      have HA := HH (zip_at hs ha)
      have HG := HH (hg.out s a (List.mem_of_getElem? ha))
      obtain ⟨q, hq⟩ : ∃ q, q = f s a := ⟨_, rfl⟩
      rw [← hq] at HG
      have HQ := HH hq
      obtain ⟨x0, x1, x2⟩ := a
      have a0 : wr.cell? (ad.add (k * 3)) = some (.int .i64 x0) := h0
      have a1 : wr.cell? ⟨(ad.add (k * 3)).block, (ad.add (k * 3)).off + 1, none⟩ = some (.int .i64 x1) := (hj 1 (by omega)).resolve_right (by omega)
      have a2 : wr.cell? ⟨(ad.add (k * 3)).block, (ad.add (k * 3)).off + 2, none⟩ = some (.int .i64 x2) := (hj 2 (by omega)).resolve_right (by omega)
      have ns : wr.cell? (ae.add k) = some (.string ⟨s.toArray⟩) := by have : wr.cell? (ae.add (k * 1)) = some (.string ⟨s.toArray⟩) := s0; rwa [Nat.mul_one] at this
      have hi : (k : Int) < (n : Int) := by omega
      have hk0 : ¬ ((k : Int) < 0) := by omega
      have hbe : (ae.add k).block < wr.heap.size := World.block_lt_of_cell? wr _ ns
      have NS := HH ns
      clear ha hs h0 hj hq s0 ns hS hS'
      go_upto_region 5 with fail
      obtain ⟨W, hW⟩ : ∃ W, W = wr.alloc (.cells #[.int .i64 x0, .int .i64 x1, .int .i64 x2] 92) := ⟨_, rfl⟩
      have BW : Hid (Below wr.heap.size wr W) := HH (by rw [hW]; exact one_box _ _)
      have KB : Blk W wr.heap.size 92 [.int .i64 x0, .int .i64 x1, .int .i64 x2] := by rw [hW]; exact (Blk.new wr _ _)
      have ns : W.cell? (ae.add k) = some (.string ⟨s.toArray⟩) := (cell_keep BW.out hbe).trans NS.out
      have b0 : W.cell? ⟨wr.heap.size, 0, none⟩ = some (.int .i64 x0) := KB.cell 0
      have b1 : W.cell? ⟨wr.heap.size, 1, none⟩ = some (.int .i64 x1) := KB.cell 1
      have b2 : W.cell? ⟨wr.heap.size, 2, none⟩ = some (.int .i64 x2) := KB.cell 2
      have HOW := HH (own_after HO.out BW.out)
      have HBW : Hid (Below w.heap.size w W) := HH (below_then HB.out BW.out HB.out.size)
      have hws := HBW.out.size
      rw [← hW]
      clear hW KB HO hbe a0 a1 a2
      obtain ⟨q0, q1, q2, q3⟩ := q
      go_region_law (first
        | (refine step_append_g (by rfl) (.tmp 17) (.tmp 25) 82 (by rfl) w.heap.size 117 _ 4 56 Tryz.underlying82 info_Path rfl (by omega) (by omega) (.slice B k d) k (cs paC (((names.zip l).take k).map (fun p : Nm × PathO => f p.1 p.2))) (by rfl) (HH (own_after (own_after HOW.out HB2.out) (one_box _ _))) _ _ 1 1 [.string ⟨q0.toArray⟩, .string ⟨q1.toArray⟩, .string ⟨q2.toArray⟩, .int .i64 q3] (by rfl) (HH rfl) (HH (Sh.lit_at _ _ _ _ _ (by simp) rfl)) (by simp [Value.oneCell']) (by omega) (by have := HB2.out.size; simp; omega) ?_; intro v' w4 hown hgrow hob; obtain ⟨A', c', rfl, -, -⟩ := own_form hown.out)
        | (go_simp; go_at_call 109; refine (HG.out _ (below_drew HBW.out)).mono ?_; rintro e w2 ⟨rfl, hb⟩; have HB2 : Hid (Below W.heap.size W w2) := HH (keep_trans (below_drew (Below.refl _ _)) hb); clear hb)
        | fail)
      all_goals
        go_wp2
        go_roundw
        case rel => exact ea_more HA.out (by omega) (by dsimp only; rw [← HQ.out]; rfl) rfl hown.out ((below_then HBW.out HB2.out HBW.out.size).trans (((Below.refl _ _).alloc (by have := HB2.out.size; omega) _).grown hgrow.out (by have := HB2.out.size; simp; omega) fun i hi => (HOW.out.lt i hi).1)) rfl rfl
        case measure => simp [intOf]; omega
    · obtain rfl : n = k := by omega
      have hi : ¬ ((n : Int) < (n : Int)) := by omega
      go_wp2
      go_ret
      have := ea_over HZ.out HO.out HB.out
      rw [zip_of] at this
      exact this
theorem wn_dof (w : World) (A NA : Option Addr) (n c nc g : Nat) (l : List DoorO) (names : List Nm) (f : Nm → DoorO → DoorM) (hn : Hid (n = l.length)) (hnn : Hid (n = names.length)) (hN : n ≤ 400) (hx : Rd w (· < w.heap.size) A (cs dooC l)) (hxn : Rd w (· < w.heap.size) NA (cs strC names))
    (hg : Hid (∀ s a, a ∈ l → ∀ w', Below w.heap.size w w' → Calls Tryz.prog 111 #[.string ⟨s.toArray⟩, dooG a, .pointer (some ⟨g, 0, none⟩)] w' (fun e w'' => e = .returned (doV (f s a)) ∧ Below w'.heap.size w' w''))) :
    Calls Tryz.prog 110 #[.slice NA n nc, .slice A n c, .func (.func 111) #[] #[.pointer (some ⟨g, 0, none⟩)]] w (NewRow w 119 7 (cs doC (names.zipWith f l)) n) := by
  have HX := HH hx
  have HXN := HH hxn
  have HZ : Hid (n = (names.zip l).length) := HH (by rw [List.length_zip, ← hn.out, ← hnn.out]; omega)
  clear hx hxn
  go_enter Tryz.func110, Tryz.ntmps110
  go_wp2
  go_loopw [7, 12] (fun v vi wr => EaRel w 119 7 doC (fun p : Nm × DoorO => f p.1 p.2) (names.zip l) n v vi wr) (fun _ vi _ => n - (intOf vi).toNat)
  case atStart => exact ea_start _ _ _ _ _ _
  case round =>
    obtain ⟨k, B, d, rfl, rfl, hk, HO, HB⟩ := hrel
    by_cases hlt : k < n
    · obtain ⟨a, ha⟩ := at_in l hn hlt
      obtain ⟨s, hs⟩ := at_in names hnn hlt
      obtain ⟨ad, rfl, hS, h0, hj⟩ := rd_at 6 (fun _ => rfl) (by omega) (HX.out.below HB.out) ha
      obtain ⟨ae, rfl, hS', s0, -⟩ := rd_at 1 (fun _ => rfl) (by omega) (HXN.out.below HB.out) hs
      have HA := HH (zip_at hs ha)
      have HG := HH (hg.out s a (List.mem_of_getElem? ha))
      obtain ⟨q, hq⟩ : ∃ q, q = f s a := ⟨_, rfl⟩
      rw [← hq] at HG
      have HQ := HH hq
      obtain ⟨x0, x1, x2, ⟨x3, x4, x5⟩⟩ := a
      have a0 : wr.cell? (ad.add (k * 6)) = some (.int .i64 x0) := h0
      have a1 : wr.cell? ⟨(ad.add (k * 6)).block, (ad.add (k * 6)).off + 1, none⟩ = some (.int .i64 x1) := (hj 1 (by omega)).resolve_right (by omega)
      have a2 : wr.cell? ⟨(ad.add (k * 6)).block, (ad.add (k * 6)).off + 2, none⟩ = some (.int .i64 x2) := (hj 2 (by omega)).resolve_right (by omega)
      have a3 : wr.cell? ⟨(ad.add (k * 6)).block, (ad.add (k * 6)).off + 3, none⟩ = some (.int .i64 x3) := (hj 3 (by omega)).resolve_right (by omega)
      have a4 : wr.cell? ⟨(ad.add (k * 6)).block, (ad.add (k * 6)).off + 4, none⟩ = some (.int .i64 x4) := (hj 4 (by omega)).resolve_right (by omega)
      have a5 : wr.cell? ⟨(ad.add (k * 6)).block, (ad.add (k * 6)).off + 5, none⟩ = some (.int .i64 x5) := (hj 5 (by omega)).resolve_right (by omega)
      have ns : wr.cell? (ae.add k) = some (.string ⟨s.toArray⟩) := by have : wr.cell? (ae.add (k * 1)) = some (.string ⟨s.toArray⟩) := s0; rwa [Nat.mul_one] at this
      have hi : (k : Int) < (n : Int) := by omega
      have hk0 : ¬ ((k : Int) < 0) := by omega
      have hbe : (ae.add k).block < wr.heap.size := World.block_lt_of_cell? wr _ ns
      have NS := HH ns
      clear ha hs h0 hj hq s0 ns hS hS'
      go_upto_region 5 with fail
      obtain ⟨W, hW⟩ : ∃ W, W = wr.alloc (.cells #[.int .i64 x0, .int .i64 x1, .int .i64 x2, .int .i64 x3, .int .i64 x4, .int .i64 x5] 97) := ⟨_, rfl⟩
      have BW : Hid (Below wr.heap.size wr W) := HH (by rw [hW]; exact one_box _ _)
      have KB : Blk W wr.heap.size 97 [.int .i64 x0, .int .i64 x1, .int .i64 x2, .int .i64 x3, .int .i64 x4, .int .i64 x5] := by rw [hW]; exact (Blk.new wr _ _)
      have ns : W.cell? (ae.add k) = some (.string ⟨s.toArray⟩) := (cell_keep BW.out hbe).trans NS.out
      have b0 : W.cell? ⟨wr.heap.size, 0, none⟩ = some (.int .i64 x0) := KB.cell 0
      have b1 : W.cell? ⟨wr.heap.size, 1, none⟩ = some (.int .i64 x1) := KB.cell 1
      have b2 : W.cell? ⟨wr.heap.size, 2, none⟩ = some (.int .i64 x2) := KB.cell 2
      have b3 : W.cell? ⟨wr.heap.size, 3, none⟩ = some (.int .i64 x3) := KB.cell 3
      have b4 : W.cell? ⟨wr.heap.size, 4, none⟩ = some (.int .i64 x4) := KB.cell 4
      have b5 : W.cell? ⟨wr.heap.size, 5, none⟩ = some (.int .i64 x5) := KB.cell 5
      have HOW := HH (own_after HO.out BW.out)
      have HBW : Hid (Below w.heap.size w W) := HH (below_then HB.out BW.out HB.out.size)
      have hws := HBW.out.size
      rw [← hW]
      clear hW KB HO hbe a0 a1 a2 a3 a4 a5
      obtain ⟨q0, q1, q2, q3, ⟨q4, q5, q6⟩⟩ := q
      go_region_law (first
        | (refine step_append_g (by rfl) (.tmp 17) (.tmp 25) 83 (by rfl) w.heap.size 119 _ 7 80 Tryz.underlying83 info_Door rfl (by omega) (by omega) (.slice B k d) k (cs doC (((names.zip l).take k).map (fun p : Nm × DoorO => f p.1 p.2))) (by rfl) (HH (own_after (own_after HOW.out HB2.out) (one_box _ _))) _ _ 1 1 [.string ⟨q0.toArray⟩, .string ⟨q1.toArray⟩, .string ⟨q2.toArray⟩, .int .i64 q3, .int .i64 q4, .int .i64 q5, .int .i64 q6] (by rfl) (HH rfl) (HH (Sh.lit_at _ _ _ _ _ (by simp) rfl)) (by simp [Value.oneCell']) (by omega) (by have := HB2.out.size; simp; omega) ?_; intro v' w4 hown hgrow hob; obtain ⟨A', c', rfl, -, -⟩ := own_form hown.out)
        | (go_simp; go_at_call 111; refine (HG.out _ (below_drew HBW.out)).mono ?_; rintro e w2 ⟨rfl, hb⟩; have HB2 : Hid (Below W.heap.size W w2) := HH (keep_trans (below_drew (Below.refl _ _)) hb); clear hb)
        | fail)
      all_goals
        go_wp2
        go_roundw
        case rel => exact ea_more HA.out (by omega) (by dsimp only; rw [← HQ.out]; rfl) rfl hown.out ((below_then HBW.out HB2.out HBW.out.size).trans (((Below.refl _ _).alloc (by have := HB2.out.size; omega) _).grown hgrow.out (by have := HB2.out.size; simp; omega) fun i hi => (HOW.out.lt i hi).1)) rfl rfl
        case measure => simp [intOf]; omega
    · obtain rfl : n = k := by omega
      have hi : ¬ ((n : Int) < (n : Int)) := by omega
      go_wp2
      go_ret
      have := ea_over HZ.out HO.out HB.out
      rw [zip_of] at this
      exact this
theorem wn_to (w : World) (A NA : Option Addr) (n c nc g : Nat) (l : List TripO) (names : List Nm) (f : Nm → TripO → TripM) (hn : Hid (n = l.length)) (hnn : Hid (n = names.length)) (hN : n ≤ 400) (hx : Rd w (· < w.heap.size) A (cs toC l)) (hxn : Rd w (· < w.heap.size) NA (cs strC names))
    (hg : Hid (∀ s a, a ∈ l → ∀ w', Below w.heap.size w w' → Calls Tryz.prog 116 #[.string ⟨s.toArray⟩, toV a, .pointer (some ⟨g, 0, none⟩)] w' (fun e w'' => e = .returned (trV (f s a)) ∧ Below w'.heap.size w' w''))) :
    Calls Tryz.prog 115 #[.slice NA n nc, .slice A n c, .func (.func 116) #[] #[.pointer (some ⟨g, 0, none⟩)]] w (NewRow w 123 5 (cs trC (names.zipWith f l)) n) := by
  have HX := HH hx
  have HXN := HH hxn
  have HZ : Hid (n = (names.zip l).length) := HH (by rw [List.length_zip, ← hn.out, ← hnn.out]; omega)
  clear hx hxn
  go_enter Tryz.func115, Tryz.ntmps115
  go_wp2
  go_loopw [7, 12] (fun v vi wr => EaRel w 123 5 trC (fun p : Nm × TripO => f p.1 p.2) (names.zip l) n v vi wr) (fun _ vi _ => n - (intOf vi).toNat)
  case atStart => exact ea_start _ _ _ _ _ _
  case round =>
    obtain ⟨k, B, d, rfl, rfl, hk, HO, HB⟩ := hrel
    by_cases hlt : k < n
    · obtain ⟨a, ha⟩ := at_in l hn hlt
      obtain ⟨s, hs⟩ := at_in names hnn hlt
      obtain ⟨ad, rfl, hS, h0, hj⟩ := rd_at 4 (fun _ => rfl) (by omega) (HX.out.below HB.out) ha
      obtain ⟨ae, rfl, hS', s0, -⟩ := rd_at 1 (fun _ => rfl) (by omega) (HXN.out.below HB.out) hs
      have HA := HH (zip_at hs ha)
      have HG := HH (hg.out s a (List.mem_of_getElem? ha))
      obtain ⟨q, hq⟩ : ∃ q, q = f s a := ⟨_, rfl⟩
      rw [← hq] at HG
      have HQ := HH hq
      obtain ⟨x0, x1, x2, x3⟩ := a
      have a0 : wr.cell? (ad.add (k * 4)) = some (.int .i64 x0) := h0
      have a1 : wr.cell? ⟨(ad.add (k * 4)).block, (ad.add (k * 4)).off + 1, none⟩ = some (.int .i64 x1) := (hj 1 (by omega)).resolve_right (by omega)
      have a2 : wr.cell? ⟨(ad.add (k * 4)).block, (ad.add (k * 4)).off + 2, none⟩ = some (.int .i64 x2) := (hj 2 (by omega)).resolve_right (by omega)
      have a3 : wr.cell? ⟨(ad.add (k * 4)).block, (ad.add (k * 4)).off + 3, none⟩ = some (.int .i64 x3) := (hj 3 (by omega)).resolve_right (by omega)
      have ns : wr.cell? (ae.add k) = some (.string ⟨s.toArray⟩) := by have : wr.cell? (ae.add (k * 1)) = some (.string ⟨s.toArray⟩) := s0; rwa [Nat.mul_one] at this
      have hi : (k : Int) < (n : Int) := by omega
      have hk0 : ¬ ((k : Int) < 0) := by omega
      have hbe : (ae.add k).block < wr.heap.size := World.block_lt_of_cell? wr _ ns
      have NS := HH ns
      clear ha hs h0 hj hq s0 ns hS hS'
      go_upto_region 5 with fail
      obtain ⟨W, hW⟩ : ∃ W, W = wr.alloc (.cells #[.int .i64 x0, .int .i64 x1, .int .i64 x2, .int .i64 x3] 56) := ⟨_, rfl⟩
      have BW : Hid (Below wr.heap.size wr W) := HH (by rw [hW]; exact one_box _ _)
      have KB : Blk W wr.heap.size 56 [.int .i64 x0, .int .i64 x1, .int .i64 x2, .int .i64 x3] := by rw [hW]; exact (Blk.new wr _ _)
      have ns : W.cell? (ae.add k) = some (.string ⟨s.toArray⟩) := (cell_keep BW.out hbe).trans NS.out
      have b0 : W.cell? ⟨wr.heap.size, 0, none⟩ = some (.int .i64 x0) := KB.cell 0
      have b1 : W.cell? ⟨wr.heap.size, 1, none⟩ = some (.int .i64 x1) := KB.cell 1
      have b2 : W.cell? ⟨wr.heap.size, 2, none⟩ = some (.int .i64 x2) := KB.cell 2
      have b3 : W.cell? ⟨wr.heap.size, 3, none⟩ = some (.int .i64 x3) := KB.cell 3
      have HOW := HH (own_after HO.out BW.out)
      have HBW : Hid (Below w.heap.size w W) := HH (below_then HB.out BW.out HB.out.size)
      have hws := HBW.out.size
      rw [← hW]
      clear hW KB HO hbe a0 a1 a2 a3
      obtain ⟨q0, q1, q2, q3, q4⟩ := q
      go_region_law (first
        | (refine step_append_g (by rfl) (.tmp 17) (.tmp 25) 85 (by rfl) w.heap.size 123 _ 5 56 Tryz.underlying85 info_Trip rfl (by omega) (by omega) (.slice B k d) k (cs trC (((names.zip l).take k).map (fun p : Nm × TripO => f p.1 p.2))) (by rfl) (HH (own_after (own_after HOW.out HB2.out) (one_box _ _))) _ _ 1 1 [.string ⟨q0.toArray⟩, .string ⟨q1.toArray⟩, .int .i64 q2, .int .i64 q3, .int .i64 q4] (by rfl) (HH rfl) (HH (Sh.lit_at _ _ _ _ _ (by simp) rfl)) (by simp [Value.oneCell']) (by omega) (by have := HB2.out.size; simp; omega) ?_; intro v' w4 hown hgrow hob; obtain ⟨A', c', rfl, -, -⟩ := own_form hown.out)
        | (go_simp; go_at_call 116; refine (HG.out _ (below_drew HBW.out)).mono ?_; rintro e w2 ⟨rfl, hb⟩; have HB2 : Hid (Below W.heap.size W w2) := HH (keep_trans (below_drew (Below.refl _ _)) hb); clear hb)
        | fail)
      all_goals
        go_wp2
        go_roundw
        case rel => exact ea_more HA.out (by omega) (by dsimp only; rw [← HQ.out]; rfl) rfl hown.out ((below_then HBW.out HB2.out HBW.out.size).trans (((Below.refl _ _).alloc (by have := HB2.out.size; omega) _).grown hgrow.out (by have := HB2.out.size; simp; omega) fun i hi => (HOW.out.lt i hi).1)) rfl rfl
        case measure => simp [intOf]; omega
    · obtain rfl : n = k := by omega
      have hi : ¬ ((n : Int) < (n : Int)) := by omega
      go_wp2
      go_ret
      have := ea_over HZ.out HO.out HB.out
      rw [zip_of] at this
      exact this
theorem wn_ho (w : World) (A NA : Option Addr) (n c nc g : Nat) (l : List HazO) (names : List Nm) (f : Nm → HazO → HazM) (hn : Hid (n = l.length)) (hnn : Hid (n = names.length)) (hN : n ≤ 400) (hx : Rd w (· < w.heap.size) A (cs hoC l)) (hxn : Rd w (· < w.heap.size) NA (cs strC names))
    (hg : Hid (∀ s a, a ∈ l → ∀ w', Below w.heap.size w w' → Calls Tryz.prog 118 #[.string ⟨s.toArray⟩, hoG a, .pointer (some ⟨g, 0, none⟩)] w' (fun e w'' => e = .returned (haV (f s a)) ∧ Below w'.heap.size w' w''))) :
    Calls Tryz.prog 117 #[.slice NA n nc, .slice A n c, .func (.func 118) #[] #[.pointer (some ⟨g, 0, none⟩)]] w (NewRow w 125 5 (cs haC (names.zipWith f l)) n) := by
  have HX := HH hx
  have HXN := HH hxn
  have HZ : Hid (n = (names.zip l).length) := HH (by rw [List.length_zip, ← hn.out, ← hnn.out]; omega)
  clear hx hxn
  go_enter Tryz.func117, Tryz.ntmps117
  go_wp2
  go_loopw [7, 12] (fun v vi wr => EaRel w 125 5 haC (fun p : Nm × HazO => f p.1 p.2) (names.zip l) n v vi wr) (fun _ vi _ => n - (intOf vi).toNat)
  case atStart => exact ea_start _ _ _ _ _ _
  case round =>
    obtain ⟨k, B, d, rfl, rfl, hk, HO, HB⟩ := hrel
    by_cases hlt : k < n
    · obtain ⟨a, ha⟩ := at_in l hn hlt
      obtain ⟨s, hs⟩ := at_in names hnn hlt
      obtain ⟨ad, rfl, hS, h0, hj⟩ := rd_at 5 (fun _ => rfl) (by omega) (HX.out.below HB.out) ha
      obtain ⟨ae, rfl, hS', s0, -⟩ := rd_at 1 (fun _ => rfl) (by omega) (HXN.out.below HB.out) hs
      have HA := HH (zip_at hs ha)
      have HG := HH (hg.out s a (List.mem_of_getElem? ha))
      obtain ⟨q, hq⟩ : ∃ q, q = f s a := ⟨_, rfl⟩
      rw [← hq] at HG
      have HQ := HH hq
      obtain ⟨x0, x1, ⟨x2, x3, x4⟩⟩ := a
      have a0 : wr.cell? (ad.add (k * 5)) = some (.bool x0) := h0
      have a1 : wr.cell? ⟨(ad.add (k * 5)).block, (ad.add (k * 5)).off + 1, none⟩ = some (.int .i64 x1) := (hj 1 (by omega)).resolve_right (by omega)
      have a2 : wr.cell? ⟨(ad.add (k * 5)).block, (ad.add (k * 5)).off + 2, none⟩ = some (.int .i64 x2) := (hj 2 (by omega)).resolve_right (by omega)
      have a3 : wr.cell? ⟨(ad.add (k * 5)).block, (ad.add (k * 5)).off + 3, none⟩ = some (.int .i64 x3) := (hj 3 (by omega)).resolve_right (by omega)
      have a4 : wr.cell? ⟨(ad.add (k * 5)).block, (ad.add (k * 5)).off + 4, none⟩ = some (.int .i64 x4) := (hj 4 (by omega)).resolve_right (by omega)
      have ns : wr.cell? (ae.add k) = some (.string ⟨s.toArray⟩) := by have : wr.cell? (ae.add (k * 1)) = some (.string ⟨s.toArray⟩) := s0; rwa [Nat.mul_one] at this
      have hi : (k : Int) < (n : Int) := by omega
      have hk0 : ¬ ((k : Int) < 0) := by omega
      have hbe : (ae.add k).block < wr.heap.size := World.block_lt_of_cell? wr _ ns
      have NS := HH ns
      clear ha hs h0 hj hq s0 ns hS hS'
      go_upto_region 5 with fail
      obtain ⟨W, hW⟩ : ∃ W, W = wr.alloc (.cells #[.bool x0, .int .i64 x1, .int .i64 x2, .int .i64 x3, .int .i64 x4] 101) := ⟨_, rfl⟩
      have BW : Hid (Below wr.heap.size wr W) := HH (by rw [hW]; exact one_box _ _)
      have KB : Blk W wr.heap.size 101 [.bool x0, .int .i64 x1, .int .i64 x2, .int .i64 x3, .int .i64 x4] := by rw [hW]; exact (Blk.new wr _ _)
      have ns : W.cell? (ae.add k) = some (.string ⟨s.toArray⟩) := (cell_keep BW.out hbe).trans NS.out
      have b0 : W.cell? ⟨wr.heap.size, 0, none⟩ = some (.bool x0) := KB.cell 0
      have b1 : W.cell? ⟨wr.heap.size, 1, none⟩ = some (.int .i64 x1) := KB.cell 1
      have b2 : W.cell? ⟨wr.heap.size, 2, none⟩ = some (.int .i64 x2) := KB.cell 2
      have b3 : W.cell? ⟨wr.heap.size, 3, none⟩ = some (.int .i64 x3) := KB.cell 3
      have b4 : W.cell? ⟨wr.heap.size, 4, none⟩ = some (.int .i64 x4) := KB.cell 4
      have HOW := HH (own_after HO.out BW.out)
      have HBW : Hid (Below w.heap.size w W) := HH (below_then HB.out BW.out HB.out.size)
      have hws := HBW.out.size
      rw [← hW]
      clear hW KB HO hbe a0 a1 a2 a3 a4
      obtain ⟨q0, q1, ⟨q2, q3, q4⟩⟩ := q
      go_region_law (first
        | (refine step_append_g (by rfl) (.tmp 17) (.tmp 25) 86 (by rfl) w.heap.size 125 _ 5 56 Tryz.underlying86 info_Haz rfl (by omega) (by omega) (.slice B k d) k (cs haC (((names.zip l).take k).map (fun p : Nm × HazO => f p.1 p.2))) (by rfl) (HH (own_after (own_after HOW.out HB2.out) (one_box _ _))) _ _ 1 1 [.string ⟨q0.toArray⟩, .string ⟨q1.toArray⟩, .int .i64 q2, .int .i64 q3, .int .i64 q4] (by rfl) (HH rfl) (HH (Sh.lit_at _ _ _ _ _ (by simp) rfl)) (by simp [Value.oneCell']) (by omega) (by have := HB2.out.size; simp; omega) ?_; intro v' w4 hown hgrow hob; obtain ⟨A', c', rfl, -, -⟩ := own_form hown.out)
        | (go_simp; go_at_call 118; refine (HG.out _ (below_drew HBW.out)).mono ?_; rintro e w2 ⟨rfl, hb⟩; have HB2 : Hid (Below W.heap.size W w2) := HH (keep_trans (below_drew (Below.refl _ _)) hb); clear hb)
        | fail)
      all_goals
        go_wp2
        go_roundw
        case rel => exact ea_more HA.out (by omega) (by dsimp only; rw [← HQ.out]; rfl) rfl hown.out ((below_then HBW.out HB2.out HBW.out.size).trans (((Below.refl _ _).alloc (by have := HB2.out.size; omega) _).grown hgrow.out (by have := HB2.out.size; simp; omega) fun i hi => (HOW.out.lt i hi).1)) rfl rfl
        case measure => simp [intOf]; omega
    · obtain rfl : n = k := by omega
      have hi : ¬ ((n : Int) < (n : Int)) := by omega
      go_wp2
      go_ret
      have := ea_over HZ.out HO.out HB.out
      rw [zip_of] at this
      exact this
/-- a block of the call's own, that is not the row's -/
def Aw (w : World) (lo : Nat) (v : Value) (b : Nat) : Prop := lo ≤ b ∧ b < w.heap.size ∧ v.ownBlock ≠ some b
theorem rts_more {base lo : Nat} {wr w2 w3 w4 : World} {v v' : Value} {L : List RouteM} {cl d : List Value} {q : RouteM} {T k : Nat} (hown : wr.ownsRow base T 4 v k cl) (hR : Rts wr (Aw wr base v) L cl) (h2 : Below wr.heap.size wr w2) (hlo : wr.heap.size ≤ lo) (hq : Rts w2 (fun b => lo ≤ b ∧ b < w2.heap.size) [q] d) (h3 : Below w2.heap.size w2 w3) (hg : w3.grownBy w4 v.ownBlock) (hob : v'.ownBlock = v.ownBlock ∨ v'.ownBlock = some w3.heap.size) (hb : base ≤ wr.heap.size) : Rts w4 (Aw w4 base v') (L ++ [q]) (cl ++ d) := by
  have s2 := h2.size
  have s3 := h3.size
  have s4 := hg.size
  refine Rts.snoc ?_ ?_
  · refine (hq.keep fun b hk => (hg.block b (by omega) ?_).trans (h3.block b hk.2)).more fun b hk => ⟨by omega, by omega, ?_⟩
    · intro e
      have := (hown.lt b e.symm).2
      omega
    · rcases hob with e | e
      · rw [e]
        intro e2
        have := (hown.lt b e2).2
        omega
      · rw [e]
        intro e2
        injection e2 with e2
        omega
  · refine (hR.keep fun b hk => ((hg.block b (by have := hk.2.1; omega) (fun e => hk.2.2 e.symm)).trans (h3.block b (by have := hk.2.1; omega))).trans (h2.block b hk.2.1)).more fun b hk => ⟨hk.1, by have := hk.2.1; omega, ?_⟩
    rcases hob with e | e
    · rw [e]; exact hk.2.2
    · rw [e]
      intro e2
      injection e2 with e2
      have := hk.2.1
      omega
/-- routes in new memory -/
def NewRts (w : World) (L : List RouteM) (n : Nat) (e : Ending) (w' : World) : Prop := ∃ A c cl, e = .returned (.slice A n c) ∧ Hid (w'.ownsRow w.heap.size 121 4 (.slice A n c) n cl) ∧ Hid (Rts w' (fun b => w.heap.size ≤ b ∧ b < w'.heap.size) L cl) ∧ Below w.heap.size w w'
def WnRo (w : World) (L : List RouteM) (n : Nat) (v vi : Value) (wr : World) : Prop := ∃ (k : Nat) (A : Option Addr) (c : Nat) (cl : List Value), v = .slice A k c ∧ vi = .int .i64 (k : Int) ∧ k ≤ n ∧ Hid (wr.ownsRow w.heap.size 121 4 (.slice A k c) k cl) ∧ Hid (Rts wr (Aw wr w.heap.size (.slice A k c)) (L.take k) cl) ∧ Hid (Below w.heap.size w wr)
theorem zipw_at {α β γ : Type} (f : α → β → γ) {l : List α} {q : List β} {k : Nat} {a : α} {b : β} (ha : l[k]? = some a) (hb : q[k]? = some b) : (l.zipWith f q)[k]? = some (f a b) := by
  rw [List.getElem?_zipWith, ha, hb]
theorem wn_ro (w : World) (A NA : Option Addr) (n c nc g : Nat) (l : List RouteO) (cl0 : List Value) (names : List Nm) (f : Nm → RouteO → RouteM) (hn : Hid (n = l.length)) (hnn : Hid (n = names.length)) (hN : n ≤ 400) (hx : Rd w (· < w.heap.size) A cl0) (hrr : Rtos w (· < w.heap.size) l cl0) (hxn : Rd w (· < w.heap.size) NA (cs strC names))
    (hg : Hid (∀ s a, a ∈ l → ∀ w' sa sc ra rc ya yc, Below w.heap.size w w' → RoAt w' (· < w'.heap.size) a sa ra ya → Calls Tryz.prog 113 #[.string ⟨s.toArray⟩, roV a sa ra ya sc rc yc, .pointer (some ⟨g, 0, none⟩)] w' (OwnRtPost w' (f s a)))) :
    Calls Tryz.prog 112 #[.slice NA n nc, .slice A n c, .func (.func 113) #[] #[.pointer (some ⟨g, 0, none⟩)]] w (NewRts w (names.zipWith f l) n) := by
  have HX := HH hx
  have HXN := HH hxn
  have HRR := HH hrr
  have HZ : Hid (n = (names.zipWith f l).length) := HH (by rw [List.length_zipWith, ← hn.out, ← hnn.out]; omega)
  clear hx hxn hrr
  go_enter Tryz.func112, Tryz.ntmps112
  go_wp2
  go_loopw [7, 12] (fun v vi wr => WnRo w (names.zipWith f l) n v vi wr) (fun _ vi _ => n - (intOf vi).toNat)
  case atStart => exact ⟨0, none, 0, [], rfl, rfl, by omega, HH own_nil, HH rfl, HH (Below.refl _ _)⟩
  case round =>
    obtain ⟨k, B, d, cl, rfl, rfl, hk, HO, HR, HB⟩ := hrel
    by_cases hlt : k < n
    · obtain ⟨a, ha⟩ := at_in l hn hlt
      obtain ⟨s, hs⟩ := at_in names hnn hlt
      obtain ⟨ad, rfl, hS, sa, sc, ra, rc, ya, yc, a0, a1, a2, hro⟩ := rtos_at (rd_later HX.out HB.out) (HRR.out.later HB.out) ha
      obtain ⟨ae, rfl, hS', s0, -⟩ := rd_at 1 (fun _ => rfl) (by omega) (HXN.out.below HB.out) hs
      have HA := HH (zipw_at f hs ha)
      have HG := HH (fun w' (h1 : Below w.heap.size w w') h2 => hg.out s a (List.mem_of_getElem? ha) w' sa sc ra rc ya yc h1 h2)
      have HRO := HH hro
      obtain ⟨q, hq⟩ : ∃ q, q = f s a := ⟨_, rfl⟩
      rw [← hq] at HG HA
      dsimp only [roV] at HG
      generalize a.stops.length = m1 at *
      generalize a.rides.length = m2 at *
      generalize a.stays.length = m3 at *
      have ns : wr.cell? (ae.add k) = some (.string ⟨s.toArray⟩) := by have : wr.cell? (ae.add (k * 1)) = some (.string ⟨s.toArray⟩) := s0; rwa [Nat.mul_one] at this
      have hi : (k : Int) < (n : Int) := by omega
      have hk0 : ¬ ((k : Int) < 0) := by omega
      have hbe : (ae.add k).block < wr.heap.size := World.block_lt_of_cell? wr _ ns
      have NS := HH ns
      clear ha hs hq s0 ns hS hS' hro
      go_upto_region 5 with fail
      obtain ⟨W, hW⟩ : ∃ W, W = wr.alloc (.cells #[.slice sa m1 sc, .slice ra m2 rc, .slice ya m3 yc] 59) := ⟨_, rfl⟩
      have BW : Hid (Below wr.heap.size wr W) := HH (by rw [hW]; exact one_box _ _)
      have KB : Blk W wr.heap.size 59 [.slice sa m1 sc, .slice ra m2 rc, .slice ya m3 yc] := by rw [hW]; exact (Blk.new wr _ _)
      have ns : W.cell? (ae.add k) = some (.string ⟨s.toArray⟩) := (cell_keep BW.out hbe).trans NS.out
      have b0 : W.cell? ⟨wr.heap.size, 0, none⟩ = some (.slice sa m1 sc) := KB.cell 0
      have b1 : W.cell? ⟨wr.heap.size, 1, none⟩ = some (.slice ra m2 rc) := KB.cell 1
      have b2 : W.cell? ⟨wr.heap.size, 2, none⟩ = some (.slice ya m3 yc) := KB.cell 2
      have HOW := HH (own_after HO.out BW.out)
      have HBW : Hid (Below w.heap.size w W) := HH (below_then HB.out BW.out HB.out.size)
      have HRW := HH (HRO.out.later BW.out)
      have HWS := HH BW.out.size
      have hws := HBW.out.size
      rw [← hW]
      clear hW KB hbe a0 a1 a2
      go_region_law (first
        | (refine step_append_g (by rfl) (.tmp 17) (.tmp 25) 84 (by rfl) w.heap.size 121 _ 4 88 Tryz.underlying84 info_Route rfl (by omega) (by omega) (.slice B k d) k cl (by rfl) (HH (own_after (own_after HOW.out HB2.out) (one_box _ _))) _ _ 1 1 [.string ⟨q.name.toArray⟩, .slice sa' q.stops.length sc', .slice ra' q.rides.length rc', .slice ya' q.stays.length yc'] (by rfl) (HH rfl) (HH (Sh.lit_at _ _ _ _ _ (by simp) rfl)) (by simp [Value.oneCell']) (by omega) (by have := HB2.out.size; simp; omega) ?_; intro v' w4 hown hgrow hob; obtain ⟨A', c', rfl, -, -⟩ := own_form hown.out)
        | (go_simp; go_at_call 113; refine (HG.out _ (below_drew HBW.out) (HRW.out.later (below_drew (Below.refl _ _)))).mono ?_; rintro e w2 ⟨sa', ra', ya', sc', rc', yc', rfl, hrt, hb⟩; have HB2 : Hid (Below W.heap.size W w2) := HH (keep_trans (below_drew (Below.refl _ _)) hb); have HT : Hid (RtAt w2 (fun b => W.heap.size ≤ b ∧ b < w2.heap.size) q sa' ra' ya') := HH hrt; clear hb hrt)
        | fail)
      all_goals
        go_wp2
        go_roundw
        case rel => exact ⟨k + 1, A', c', _, rfl, by go_num, by omega, hown, HH (by
            rw [List.take_add_one, HA.out]
            exact rts_more HO.out HR.out (keep_trans BW.out HB2.out) HWS.out ⟨sa', sc', ra', rc', ya', yc', [], rfl, HT.out.hs, HT.out.hr, HT.out.hy, rfl⟩ (one_box _ _) hgrow.out hob.out HB.out.size), HH ((below_then HBW.out HB2.out HBW.out.size).trans (((Below.refl _ _).alloc (by have := HB2.out.size; omega) _).grown hgrow.out (by have := HB2.out.size; simp; omega) fun i hi => (HO.out.lt i hi).1))⟩
        case measure => simp [intOf]; omega
    · obtain rfl : n = k := by omega
      have hi : ¬ ((n : Int) < (n : Int)) := by omega
      go_wp2
      go_ret
      exact ⟨B, d, cl, rfl, HO, HH (by have h := HR.out; rw [List.take_of_length_le (by rw [← HZ.out]; omega)] at h; exact h.more fun b hk => ⟨hk.1, hk.2.1⟩), HB.out⟩
end Go.Proofs.YtfefnfifeaihhaaGreat.Wo
