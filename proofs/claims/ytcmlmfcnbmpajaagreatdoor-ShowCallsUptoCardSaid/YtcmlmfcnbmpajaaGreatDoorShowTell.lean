/- Package show's tell, at each kind of things: each thing's line is laid behind the lines that are told, proved by walking its text. Conditions: the things' rows lie below the teller; what tells a line answers it. -/
import Derived.Test.YtcmlmfcnbmpajaaGreatDoorShowRoute
import Derived.Test.YtcmlmfcnbmpajaaGreatDoorRefNames
import Derived.Deep.CutRange
namespace Go.Proofs.YtcmlmfcnbmpajaaGreatDoor.Sw
open Go.ChangeShapes Go.WideShapes Go.ChangeAt Go.RowKit
open Lx Sh
set_option linter.unusedVariables false
set_option linter.unusedSimpArgs false

/-- a teller in block t: the sheet's cells q, and the lines that are told -/
def TellAt (w : World) (B t : Nat) (q : List Value) (L : List (List UInt8)) : Prop :=
  ∃ v, Blk w t 86 (q ++ [v]) ∧ w.ownsRow B 9 1 v L.length (cs strC L)
theorem TellAt.lt {w : World} {B t : Nat} {q : List Value} {L : List (List UInt8)} (h : TellAt w B t q L) : t < w.heap.size := by obtain ⟨v, h, _⟩ := h; exact h.lt
theorem TellAt.after {w w' : World} {B t : Nat} {q : List Value} {L : List (List UInt8)} (h : TellAt w B t q L) (hb : Below w.heap.size w w') : TellAt w' B t q L := by
  obtain ⟨v, h1, h2⟩ := h
  exact ⟨v, h1.after hb, own_after h2 hb⟩
theorem q_last {q : List Value} (h : q.length = 7) (v : Value) : (q ++ [v])[7]? = some v := by rw [List.getElem?_append_right (by omega), h]; rfl
theorem tell_fin {W w3 w4 : World} {B t n gg cap : Nat} {q : List Value} {L : List (List UInt8)} {s : List UInt8} {v : Value} {o : Obj} (hq : q.length = 7) (hT : Blk w3 t 86 (q ++ [v])) (ho : w3.ownsRow B 9 1 v L.length (cs strC L)) (h3 : Below B W w3) (hBt : B ≤ t) (hB : B ≤ W.heap.size)
    (hn : n = L.length) (hown : w4.ownsRow B 9 1 (.slice (some ⟨gg, 0, none⟩) (n + 1) cap) (n + 1) (cs strC L ++ [.string ⟨s.toArray⟩])) (hgrow : (w3.alloc o).grownBy w4 v.ownBlock) :
    TellAt (w4.setCell ⟨t, 7, none⟩ (.slice (some ⟨gg, 0, none⟩) (n + 1) cap)) B t q (L ++ [s]) ∧ Below B W (w4.setCell ⟨t, 7, none⟩ (.slice (some ⟨gg, 0, none⟩) (n + 1) cap)) := by
  have k3 : Blk (w3.alloc o) t 86 (q ++ [v]) := hT.alloc _
  have o3 : (w3.alloc o).ownsRow B 9 1 v L.length (cs strC L) := ho.alloc _
  have k4 : Blk w4 t 86 (q ++ [v]) := k3.grown hgrow (fun e => own_ne_blk o3 k3 (by decide) t e.symm rfl)
  have k5 := k4.set_ 7 (.slice (some ⟨gg, 0, none⟩) (n + 1) cap)
  have e : (q ++ [v]).set 7 (.slice (some ⟨gg, 0, none⟩) (n + 1) cap) = q ++ [.slice (some ⟨gg, 0, none⟩) (n + 1) cap] := by
    rw [← hq, List.set_append_right _ _ (Nat.le_refl _)]; simp
  rw [e] at k5
  refine ⟨⟨_, k5, ?_⟩, ?_⟩
  · rw [cs_append, List.length_append, List.length_singleton, ← hn]
    have hk := hown.kept (w' := w4.setCell ⟨t, 7, none⟩ (.slice (some ⟨gg, 0, none⟩) (n + 1) cap)) (row := some t) ⟨rfl, rfl, rfl, by simp [World.setCell], fun k _ hk => Below.heap_setCell _ _ _ _ (fun e => hk (by simp [e]))⟩ (Or.inr (fun e => own_ne_blk hown k4 (by decide) t e rfl))
    exact hk
  · have h34 : Below B W (w3.alloc o) := h3.alloc (Nat.le_trans hB h3.size) _
    exact (h34.grown hgrow (Nat.le_trans hB (Nat.le_trans h3.size (by simp))) (fun k hk => (o3.lt k hk).1)).setCell (p := ⟨t, 7, none⟩) hBt _

set_option maxRecDepth 100000 in
set_option maxHeartbeats 8000000 in
theorem tell_str (w : World) (B t : Nat) (q : List Value) (hq : q.length = 7) (L : List (List UInt8)) (A : Option Addr) (n c : Nat) (l : List (List UInt8)) (g : List UInt8 → List UInt8) (hn : Hid (n = l.length)) (hN : n ≤ 1000000) (hL : L.length ≤ 1000000) (hx : Rd w (· < B) A (cs strC l)) (hT : TellAt w B t q L) (hBt : B ≤ t) (hB : B ≤ w.heap.size)
    (hg : ∀ a ∈ l, ∀ w', Below B w w' → Calls Tryz.prog 76 #[.string ⟨a.toArray⟩] w' (TextPost w' (g a))) :
    Calls Tryz.prog 75 #[.pointer (some ⟨t, 0, none⟩), .slice A n c, .func (.func 76) #[] #[]] w (fun e w' => e = .returned (.tuple #[]) ∧ TellAt w' B t q (L ++ l.map g) ∧ Below B w w') := by
  have HX := Lib.hid hx
  have HT := Lib.hid hT
  have HGG := Lib.hid hg
  have HQ := Lib.hid hq
  clear hx hT hg hq
  obtain ⟨N, hNL⟩ : ∃ N, N = L.length := ⟨_, rfl⟩
  rw [← hNL] at hL
  have HNL := Lib.hid hNL
  clear hNL
  obtain ⟨i0, hi0, hz0, hz1, hz2⟩ := info_parts info_Str
  go_enter Tryz.func75, Tryz.ntmps75
  go_wp2
  go_loopw [10] (fun v wr => ∃ k : Nat, v = .int .i64 k ∧ k ≤ n ∧ Hid (TellAt wr B t q (L ++ (l.take k).map g)) ∧ Hid (Below B w wr)) (fun v _ => n - (intOf v).toNat)
  case atStart => exact ⟨0, rfl, by omega, Lib.hid (by simpa using HT.out), Lib.hid (Below.refl _ _)⟩
  case round =>
    obtain ⟨k, rfl, hk, HP, HB⟩ := hrel
    by_cases hlt : k < n
    · obtain ⟨a, ha⟩ := at_in l hn hlt
      obtain ⟨ad, rfl, hS, h0, hj⟩ := rd_at 1 (fun _ => rfl) (by omega) (HX.out.below HB.out) ha
      have hsz : B ≤ wr.heap.size := Nat.le_trans hB HB.out.size
      have HG0 := HGG.out a (List.mem_of_getElem? ha)
      have HMK : Hid ((l.take (k + 1)).map g = (l.take k).map g ++ [g a]) := Lib.hid (by rw [List.take_add_one, ha]; simp)
      have HLK : Hid ((L ++ (l.take k).map g).length = N + k) := Lib.hid (by rw [List.length_append, List.length_map, List.length_take, HNL.out]; have := hn.out; omega)
      obtain ⟨D, hD⟩ : ∃ D, D = g a := ⟨_, rfl⟩
      rw [← hD] at HMK HG0
      obtain ⟨x0, hx0⟩ : ∃ x0, x0 = a := ⟨_, rfl⟩
      subst hx0
      have a0 : wr.cell? (ad.add k) = some (.string ⟨x0.toArray⟩) := by rw [Nat.mul_one] at h0; exact h0
      try dsimp only at HG0
      have hi : (k : Int) < (n : Int) := by omega
      clear ha h0 hj hD
      have HG : Hid (∀ w', Below B w w' → Calls Tryz.prog 76 #[.string ⟨x0.toArray⟩] w' (TextPost w' D)) := Lib.hid HG0
      clear HG0
      go_upto_region 3 with (fail)
      obtain ⟨W, hW⟩ : ∃ W, W = wr := ⟨_, rfl⟩
      have HW0 : Hid (Below B wr W) := Lib.hid (by rw [hW]; exact Below.refl _ _)
      have HT2 : Hid (TellAt W B t q (L ++ (l.take k).map g)) := Lib.hid (by rw [hW]; exact HP.out)
      rw [← hW]
      clear hW
      have HBW : Hid (Below B w W) := Lib.hid (HB.out.trans HW0.out)
      have hszW : B ≤ W.heap.size := Nat.le_trans hsz HW0.out.size
      obtain ⟨v, hv1, hv2⟩ := HT2.out
      rw [HLK.out] at hv2
      obtain ⟨Av, cv, rfl, hvc, -⟩ := own_form hv2
      have K1 := Lib.hid hv1
      have O1 := Lib.hid hv2
      have k1 : W.cell? ⟨t, 7, none⟩ = some (.slice Av (N + k) cv) := by rw [hv1.cell]; exact q_last HQ.out _
      have k1' : ∀ o, (W.alloc o).cell? ⟨t, 7, none⟩ = some (.slice Av (N + k) cv) := fun o => by rw [(K1.out.alloc o).cell]; exact q_last HQ.out _
      clear hv1 hv2
      go_region_law (first
        | (refine step_append_lies _ (by rfl) (.tmp 18) (.tmp 22) 22 (by rfl) B 9 i0 _ 1 16 Tryz.underlying22 hi0 hz0 hz1 hz2 rfl (by omega) (.slice Av (N + k) cv) (N + k) (cs strC (L ++ (l.take k).map g)) (by rfl) (O3.out.alloc _)
            ⟨w3.heap.size, 0, none⟩ 1 1 [.string ⟨D.toArray⟩] (by rfl) (by rfl) (World.news_of_block (cs := #[.string ⟨D.toArray⟩]) (t := 9) (fr := (0, 0)) (heap_alloc_new w3 _)) (by simp [Value.oneCell'])
            (by omega) (by unfold maxLen; omega) (by omega) (by have := HB3.out.size; simp; omega) (w3.heap.size + 1) (by simp) ?_; intro gg cap w4 hown4 hgrow hat hgl; have KB := Lib.hid (Blk.grown (K3.out.alloc _) hgrow (fun e => own_ne_blk O3.out K3.out (by decide) t e.symm rfl)); have k4 : w4.cell? ⟨t, 7, none⟩ = some (.slice Av (N + k) cv) := (by rw [KB.out.cell]; exact q_last HQ.out _); have f4 : w4.frozen? ⟨t, 7, none⟩ = false := KB.out.frozen 7)
        | (go_simp; go_at_call 76; refine (HG.out _ (by first | exact HBW.out | exact below_drew HBW.out | exact below_drewN HBW.out _)).mono ?_; rintro e w3 ⟨rfl, hb3⟩; have HB3 : Hid (Below W.heap.size W w3) := Lib.hid (by first | exact hb3 | exact keep_trans (below_drew (Below.refl _ _)) hb3 | exact keep_trans (below_drewN (Below.refl _ _) _) hb3); have K3 := Lib.hid (K1.out.after HB3.out); have O3 := Lib.hid (own_after O1.out HB3.out); have k3 : w3.cell? ⟨t, 7, none⟩ = some (.slice Av (N + k) cv) := (by rw [K3.out.cell]; exact q_last HQ.out _); have k3' : ∀ o, (w3.alloc o).cell? ⟨t, 7, none⟩ = some (.slice Av (N + k) cv) := (fun o => by rw [(K3.out.alloc o).cell]; exact q_last HQ.out _))
        | fail)
      all_goals
        have HFIN := Lib.hid (tell_fin HQ.out K3.out (HLK.out.symm ▸ O3.out) (HB3.out.mono hszW) hBt hszW HLK.out.symm hown4 hgrow)
        go_wp2_with fail
        go_roundw
        case rel => exact ⟨k + 1, by go_num, by omega, Lib.hid (by rw [HMK.out, ← List.append_assoc]; exact HFIN.out.1), Lib.hid (HBW.out.trans HFIN.out.2)⟩
        case measure => simp [intOf]; omega
    · have hi : ¬ (k : Int) < (n : Int) := by omega
      have HF : Hid ((l.take k).map g = l.map g) := Lib.hid (by rw [List.take_of_length_le (by rw [← hn.out]; omega)])
      go_wp2
      go_end0
      exact ⟨rfl, HF.out ▸ HP.out, HB.out⟩

set_option maxRecDepth 100000 in
set_option maxHeartbeats 8000000 in
theorem tell_path (w : World) (B t : Nat) (q : List Value) (hq : q.length = 7) (L : List (List UInt8)) (A : Option Addr) (n c : Nat) (l : List (PathM)) (g : PathM → List UInt8) (hn : Hid (n = l.length)) (hN : n ≤ 1000000) (hL : L.length ≤ 1000000) (hx : Rd w (· < B) A (cs paC l)) (hT : TellAt w B t q L) (hBt : B ≤ t) (hB : B ≤ w.heap.size)
    (hg : ∀ a ∈ l, ∀ w', Below B w w' → Calls Tryz.prog 15 #[.agg #[.string ⟨a.name.toArray⟩, .string ⟨a.a.toArray⟩, .string ⟨a.b.toArray⟩, .int .i64 a.len]] w' (TextPost w' (g a))) :
    Calls Tryz.prog 77 #[.pointer (some ⟨t, 0, none⟩), .slice A n c, .func (.func 15) #[] #[]] w (fun e w' => e = .returned (.tuple #[]) ∧ TellAt w' B t q (L ++ l.map g) ∧ Below B w w') := by
  have HX := Lib.hid hx
  have HT := Lib.hid hT
  have HGG := Lib.hid hg
  have HQ := Lib.hid hq
  clear hx hT hg hq
  obtain ⟨N, hNL⟩ : ∃ N, N = L.length := ⟨_, rfl⟩
  rw [← hNL] at hL
  have HNL := Lib.hid hNL
  clear hNL
  obtain ⟨i0, hi0, hz0, hz1, hz2⟩ := info_parts info_Str
  go_enter Tryz.func77, Tryz.ntmps77
  go_wp2
  go_loopw [10] (fun v wr => ∃ k : Nat, v = .int .i64 k ∧ k ≤ n ∧ Hid (TellAt wr B t q (L ++ (l.take k).map g)) ∧ Hid (Below B w wr)) (fun v _ => n - (intOf v).toNat)
  case atStart => exact ⟨0, rfl, by omega, Lib.hid (by simpa using HT.out), Lib.hid (Below.refl _ _)⟩
  case round =>
    obtain ⟨k, rfl, hk, HP, HB⟩ := hrel
    by_cases hlt : k < n
    · obtain ⟨a, ha⟩ := at_in l hn hlt
      obtain ⟨ad, rfl, hS, h0, hj⟩ := rd_at 4 (fun _ => rfl) (by omega) (HX.out.below HB.out) ha
      have hsz : B ≤ wr.heap.size := Nat.le_trans hB HB.out.size
      have HG0 := HGG.out a (List.mem_of_getElem? ha)
      have HMK : Hid ((l.take (k + 1)).map g = (l.take k).map g ++ [g a]) := Lib.hid (by rw [List.take_add_one, ha]; simp)
      have HLK : Hid ((L ++ (l.take k).map g).length = N + k) := Lib.hid (by rw [List.length_append, List.length_map, List.length_take, HNL.out]; have := hn.out; omega)
      obtain ⟨D, hD⟩ : ∃ D, D = g a := ⟨_, rfl⟩
      rw [← hD] at HMK HG0
      obtain ⟨x0, x1, x2, x3⟩ := a
      have a0 : wr.cell? (ad.add (k * 4)) = some (.string ⟨x0.toArray⟩) := h0
      have a1 : wr.cell? ⟨(ad.add (k * 4)).block, (ad.add (k * 4)).off + 1, none⟩ = some (.string ⟨x1.toArray⟩) := (hj 1 (by omega)).resolve_right (by omega)
      have a2 : wr.cell? ⟨(ad.add (k * 4)).block, (ad.add (k * 4)).off + 2, none⟩ = some (.string ⟨x2.toArray⟩) := (hj 2 (by omega)).resolve_right (by omega)
      have a3 : wr.cell? ⟨(ad.add (k * 4)).block, (ad.add (k * 4)).off + 3, none⟩ = some (.int .i64 x3) := (hj 3 (by omega)).resolve_right (by omega)
      try dsimp only at HG0
      have hi : (k : Int) < (n : Int) := by omega
      clear ha h0 hj hD
      have HG : Hid (∀ w', Below B w w' → Calls Tryz.prog 15 #[.agg #[.string ⟨x0.toArray⟩, .string ⟨x1.toArray⟩, .string ⟨x2.toArray⟩, .int .i64 x3]] w' (TextPost w' D)) := Lib.hid HG0
      clear HG0
      go_upto_region 3 with (fail)
      obtain ⟨W, hW⟩ : ∃ W, W = wr.alloc (.cells #[.string ⟨x0.toArray⟩, .string ⟨x1.toArray⟩, .string ⟨x2.toArray⟩, .int .i64 x3] 31) := ⟨_, rfl⟩
      have HW0 : Hid (Below B wr W) := Lib.hid (by rw [hW]; exact (Below.refl _ _).alloc hsz _)
      have HT2 : Hid (TellAt W B t q (L ++ (l.take k).map g)) := Lib.hid (by rw [hW]; exact HP.out.after (one_box _ _))
      have KX : Hid (Blk W wr.heap.size 31 [.string ⟨x0.toArray⟩, .string ⟨x1.toArray⟩, .string ⟨x2.toArray⟩, .int .i64 x3]) := Lib.hid (by rw [hW]; exact Blk.new wr _ _)
      have y0 : W.cell? ⟨wr.heap.size, 0, none⟩ = some (.string ⟨x0.toArray⟩) := KX.out.cell 0
      have z0 : ∀ o, (W.alloc o).cell? ⟨wr.heap.size, 0, none⟩ = some (.string ⟨x0.toArray⟩) := fun o => (KX.out.alloc o).cell 0
      have y1 : W.cell? ⟨wr.heap.size, 1, none⟩ = some (.string ⟨x1.toArray⟩) := KX.out.cell 1
      have z1 : ∀ o, (W.alloc o).cell? ⟨wr.heap.size, 1, none⟩ = some (.string ⟨x1.toArray⟩) := fun o => (KX.out.alloc o).cell 1
      have y2 : W.cell? ⟨wr.heap.size, 2, none⟩ = some (.string ⟨x2.toArray⟩) := KX.out.cell 2
      have z2 : ∀ o, (W.alloc o).cell? ⟨wr.heap.size, 2, none⟩ = some (.string ⟨x2.toArray⟩) := fun o => (KX.out.alloc o).cell 2
      have y3 : W.cell? ⟨wr.heap.size, 3, none⟩ = some (.int .i64 x3) := KX.out.cell 3
      have z3 : ∀ o, (W.alloc o).cell? ⟨wr.heap.size, 3, none⟩ = some (.int .i64 x3) := fun o => (KX.out.alloc o).cell 3
      rw [← hW]
      clear hW
      have HBW : Hid (Below B w W) := Lib.hid (HB.out.trans HW0.out)
      have hszW : B ≤ W.heap.size := Nat.le_trans hsz HW0.out.size
      obtain ⟨v, hv1, hv2⟩ := HT2.out
      rw [HLK.out] at hv2
      obtain ⟨Av, cv, rfl, hvc, -⟩ := own_form hv2
      have K1 := Lib.hid hv1
      have O1 := Lib.hid hv2
      have k1 : W.cell? ⟨t, 7, none⟩ = some (.slice Av (N + k) cv) := by rw [hv1.cell]; exact q_last HQ.out _
      have k1' : ∀ o, (W.alloc o).cell? ⟨t, 7, none⟩ = some (.slice Av (N + k) cv) := fun o => by rw [(K1.out.alloc o).cell]; exact q_last HQ.out _
      clear hv1 hv2
      go_region_law (first
        | (refine step_append_lies _ (by rfl) (.tmp 18) (.tmp 22) 22 (by rfl) B 9 i0 _ 1 16 Tryz.underlying22 hi0 hz0 hz1 hz2 rfl (by omega) (.slice Av (N + k) cv) (N + k) (cs strC (L ++ (l.take k).map g)) (by rfl) (O3.out.alloc _)
            ⟨w3.heap.size, 0, none⟩ 1 1 [.string ⟨D.toArray⟩] (by rfl) (by rfl) (World.news_of_block (cs := #[.string ⟨D.toArray⟩]) (t := 9) (fr := (0, 0)) (heap_alloc_new w3 _)) (by simp [Value.oneCell'])
            (by omega) (by unfold maxLen; omega) (by omega) (by have := HB3.out.size; simp; omega) (w3.heap.size + 1) (by simp) ?_; intro gg cap w4 hown4 hgrow hat hgl; have KB := Lib.hid (Blk.grown (K3.out.alloc _) hgrow (fun e => own_ne_blk O3.out K3.out (by decide) t e.symm rfl)); have k4 : w4.cell? ⟨t, 7, none⟩ = some (.slice Av (N + k) cv) := (by rw [KB.out.cell]; exact q_last HQ.out _); have f4 : w4.frozen? ⟨t, 7, none⟩ = false := KB.out.frozen 7)
        | (go_simp; go_at_call 15; refine (HG.out _ (by first | exact HBW.out | exact below_drew HBW.out | exact below_drewN HBW.out _)).mono ?_; rintro e w3 ⟨rfl, hb3⟩; have HB3 : Hid (Below W.heap.size W w3) := Lib.hid (by first | exact hb3 | exact keep_trans (below_drew (Below.refl _ _)) hb3 | exact keep_trans (below_drewN (Below.refl _ _) _) hb3); have K3 := Lib.hid (K1.out.after HB3.out); have O3 := Lib.hid (own_after O1.out HB3.out); have k3 : w3.cell? ⟨t, 7, none⟩ = some (.slice Av (N + k) cv) := (by rw [K3.out.cell]; exact q_last HQ.out _); have k3' : ∀ o, (w3.alloc o).cell? ⟨t, 7, none⟩ = some (.slice Av (N + k) cv) := (fun o => by rw [(K3.out.alloc o).cell]; exact q_last HQ.out _))
        | fail)
      all_goals
        have HFIN := Lib.hid (tell_fin HQ.out K3.out (HLK.out.symm ▸ O3.out) (HB3.out.mono hszW) hBt hszW HLK.out.symm hown4 hgrow)
        go_wp2_with fail
        go_roundw
        case rel => exact ⟨k + 1, by go_num, by omega, Lib.hid (by rw [HMK.out, ← List.append_assoc]; exact HFIN.out.1), Lib.hid (HBW.out.trans HFIN.out.2)⟩
        case measure => simp [intOf]; omega
    · have hi : ¬ (k : Int) < (n : Int) := by omega
      have HF : Hid ((l.take k).map g = l.map g) := Lib.hid (by rw [List.take_of_length_le (by rw [← hn.out]; omega)])
      go_wp2
      go_end0
      exact ⟨rfl, HF.out ▸ HP.out, HB.out⟩

set_option maxRecDepth 100000 in
set_option maxHeartbeats 8000000 in
theorem tell_door (w : World) (B t : Nat) (q : List Value) (hq : q.length = 7) (L : List (List UInt8)) (A : Option Addr) (n c : Nat) (l : List (DoorM)) (g : DoorM → List UInt8) (hn : Hid (n = l.length)) (hN : n ≤ 1000000) (hL : L.length ≤ 1000000) (hx : Rd w (· < B) A (cs doC l)) (hT : TellAt w B t q L) (hBt : B ≤ t) (hB : B ≤ w.heap.size)
    (hg : ∀ a ∈ l, ∀ w', Below B w w' → Calls Tryz.prog 17 #[.agg #[.string ⟨a.name.toArray⟩, .string ⟨a.a.toArray⟩, .string ⟨a.b.toArray⟩, .int .i64 a.len, .int .i64 a.times.frm, .int .i64 a.times.every, .int .i64 a.times.len]] w' (TextPost w' (g a))) :
    Calls Tryz.prog 78 #[.pointer (some ⟨t, 0, none⟩), .slice A n c, .func (.func 17) #[] #[]] w (fun e w' => e = .returned (.tuple #[]) ∧ TellAt w' B t q (L ++ l.map g) ∧ Below B w w') := by
  have HX := Lib.hid hx
  have HT := Lib.hid hT
  have HGG := Lib.hid hg
  have HQ := Lib.hid hq
  clear hx hT hg hq
  obtain ⟨N, hNL⟩ : ∃ N, N = L.length := ⟨_, rfl⟩
  rw [← hNL] at hL
  have HNL := Lib.hid hNL
  clear hNL
  obtain ⟨i0, hi0, hz0, hz1, hz2⟩ := info_parts info_Str
  go_enter Tryz.func78, Tryz.ntmps78
  go_wp2
  go_loopw [10] (fun v wr => ∃ k : Nat, v = .int .i64 k ∧ k ≤ n ∧ Hid (TellAt wr B t q (L ++ (l.take k).map g)) ∧ Hid (Below B w wr)) (fun v _ => n - (intOf v).toNat)
  case atStart => exact ⟨0, rfl, by omega, Lib.hid (by simpa using HT.out), Lib.hid (Below.refl _ _)⟩
  case round =>
    obtain ⟨k, rfl, hk, HP, HB⟩ := hrel
    by_cases hlt : k < n
    · obtain ⟨a, ha⟩ := at_in l hn hlt
      obtain ⟨ad, rfl, hS, h0, hj⟩ := rd_at 7 (fun _ => rfl) (by omega) (HX.out.below HB.out) ha
      have hsz : B ≤ wr.heap.size := Nat.le_trans hB HB.out.size
      have HG0 := HGG.out a (List.mem_of_getElem? ha)
      have HMK : Hid ((l.take (k + 1)).map g = (l.take k).map g ++ [g a]) := Lib.hid (by rw [List.take_add_one, ha]; simp)
      have HLK : Hid ((L ++ (l.take k).map g).length = N + k) := Lib.hid (by rw [List.length_append, List.length_map, List.length_take, HNL.out]; have := hn.out; omega)
      obtain ⟨D, hD⟩ : ∃ D, D = g a := ⟨_, rfl⟩
      rw [← hD] at HMK HG0
      obtain ⟨x0, x1, x2, x3, ⟨x4, x5, x6⟩⟩ := a
      have a0 : wr.cell? (ad.add (k * 7)) = some (.string ⟨x0.toArray⟩) := h0
      have a1 : wr.cell? ⟨(ad.add (k * 7)).block, (ad.add (k * 7)).off + 1, none⟩ = some (.string ⟨x1.toArray⟩) := (hj 1 (by omega)).resolve_right (by omega)
      have a2 : wr.cell? ⟨(ad.add (k * 7)).block, (ad.add (k * 7)).off + 2, none⟩ = some (.string ⟨x2.toArray⟩) := (hj 2 (by omega)).resolve_right (by omega)
      have a3 : wr.cell? ⟨(ad.add (k * 7)).block, (ad.add (k * 7)).off + 3, none⟩ = some (.int .i64 x3) := (hj 3 (by omega)).resolve_right (by omega)
      have a4 : wr.cell? ⟨(ad.add (k * 7)).block, (ad.add (k * 7)).off + 4, none⟩ = some (.int .i64 x4) := (hj 4 (by omega)).resolve_right (by omega)
      have a5 : wr.cell? ⟨(ad.add (k * 7)).block, (ad.add (k * 7)).off + 5, none⟩ = some (.int .i64 x5) := (hj 5 (by omega)).resolve_right (by omega)
      have a6 : wr.cell? ⟨(ad.add (k * 7)).block, (ad.add (k * 7)).off + 6, none⟩ = some (.int .i64 x6) := (hj 6 (by omega)).resolve_right (by omega)
      try dsimp only at HG0
      have hi : (k : Int) < (n : Int) := by omega
      clear ha h0 hj hD
      have HG : Hid (∀ w', Below B w w' → Calls Tryz.prog 17 #[.agg #[.string ⟨x0.toArray⟩, .string ⟨x1.toArray⟩, .string ⟨x2.toArray⟩, .int .i64 x3, .int .i64 x4, .int .i64 x5, .int .i64 x6]] w' (TextPost w' D)) := Lib.hid HG0
      clear HG0
      go_upto_region 3 with (fail)
      obtain ⟨W, hW⟩ : ∃ W, W = wr.alloc (.cells #[.string ⟨x0.toArray⟩, .string ⟨x1.toArray⟩, .string ⟨x2.toArray⟩, .int .i64 x3, .int .i64 x4, .int .i64 x5, .int .i64 x6] 35) := ⟨_, rfl⟩
      have HW0 : Hid (Below B wr W) := Lib.hid (by rw [hW]; exact (Below.refl _ _).alloc hsz _)
      have HT2 : Hid (TellAt W B t q (L ++ (l.take k).map g)) := Lib.hid (by rw [hW]; exact HP.out.after (one_box _ _))
      have KX : Hid (Blk W wr.heap.size 35 [.string ⟨x0.toArray⟩, .string ⟨x1.toArray⟩, .string ⟨x2.toArray⟩, .int .i64 x3, .int .i64 x4, .int .i64 x5, .int .i64 x6]) := Lib.hid (by rw [hW]; exact Blk.new wr _ _)
      have y0 : W.cell? ⟨wr.heap.size, 0, none⟩ = some (.string ⟨x0.toArray⟩) := KX.out.cell 0
      have z0 : ∀ o, (W.alloc o).cell? ⟨wr.heap.size, 0, none⟩ = some (.string ⟨x0.toArray⟩) := fun o => (KX.out.alloc o).cell 0
      have y1 : W.cell? ⟨wr.heap.size, 1, none⟩ = some (.string ⟨x1.toArray⟩) := KX.out.cell 1
      have z1 : ∀ o, (W.alloc o).cell? ⟨wr.heap.size, 1, none⟩ = some (.string ⟨x1.toArray⟩) := fun o => (KX.out.alloc o).cell 1
      have y2 : W.cell? ⟨wr.heap.size, 2, none⟩ = some (.string ⟨x2.toArray⟩) := KX.out.cell 2
      have z2 : ∀ o, (W.alloc o).cell? ⟨wr.heap.size, 2, none⟩ = some (.string ⟨x2.toArray⟩) := fun o => (KX.out.alloc o).cell 2
      have y3 : W.cell? ⟨wr.heap.size, 3, none⟩ = some (.int .i64 x3) := KX.out.cell 3
      have z3 : ∀ o, (W.alloc o).cell? ⟨wr.heap.size, 3, none⟩ = some (.int .i64 x3) := fun o => (KX.out.alloc o).cell 3
      have y4 : W.cell? ⟨wr.heap.size, 4, none⟩ = some (.int .i64 x4) := KX.out.cell 4
      have z4 : ∀ o, (W.alloc o).cell? ⟨wr.heap.size, 4, none⟩ = some (.int .i64 x4) := fun o => (KX.out.alloc o).cell 4
      have y5 : W.cell? ⟨wr.heap.size, 5, none⟩ = some (.int .i64 x5) := KX.out.cell 5
      have z5 : ∀ o, (W.alloc o).cell? ⟨wr.heap.size, 5, none⟩ = some (.int .i64 x5) := fun o => (KX.out.alloc o).cell 5
      have y6 : W.cell? ⟨wr.heap.size, 6, none⟩ = some (.int .i64 x6) := KX.out.cell 6
      have z6 : ∀ o, (W.alloc o).cell? ⟨wr.heap.size, 6, none⟩ = some (.int .i64 x6) := fun o => (KX.out.alloc o).cell 6
      rw [← hW]
      clear hW
      have HBW : Hid (Below B w W) := Lib.hid (HB.out.trans HW0.out)
      have hszW : B ≤ W.heap.size := Nat.le_trans hsz HW0.out.size
      obtain ⟨v, hv1, hv2⟩ := HT2.out
      rw [HLK.out] at hv2
      obtain ⟨Av, cv, rfl, hvc, -⟩ := own_form hv2
      have K1 := Lib.hid hv1
      have O1 := Lib.hid hv2
      have k1 : W.cell? ⟨t, 7, none⟩ = some (.slice Av (N + k) cv) := by rw [hv1.cell]; exact q_last HQ.out _
      have k1' : ∀ o, (W.alloc o).cell? ⟨t, 7, none⟩ = some (.slice Av (N + k) cv) := fun o => by rw [(K1.out.alloc o).cell]; exact q_last HQ.out _
      clear hv1 hv2
      go_region_law (first
        | (refine step_append_lies _ (by rfl) (.tmp 18) (.tmp 22) 22 (by rfl) B 9 i0 _ 1 16 Tryz.underlying22 hi0 hz0 hz1 hz2 rfl (by omega) (.slice Av (N + k) cv) (N + k) (cs strC (L ++ (l.take k).map g)) (by rfl) (O3.out.alloc _)
            ⟨w3.heap.size, 0, none⟩ 1 1 [.string ⟨D.toArray⟩] (by rfl) (by rfl) (World.news_of_block (cs := #[.string ⟨D.toArray⟩]) (t := 9) (fr := (0, 0)) (heap_alloc_new w3 _)) (by simp [Value.oneCell'])
            (by omega) (by unfold maxLen; omega) (by omega) (by have := HB3.out.size; simp; omega) (w3.heap.size + 1) (by simp) ?_; intro gg cap w4 hown4 hgrow hat hgl; have KB := Lib.hid (Blk.grown (K3.out.alloc _) hgrow (fun e => own_ne_blk O3.out K3.out (by decide) t e.symm rfl)); have k4 : w4.cell? ⟨t, 7, none⟩ = some (.slice Av (N + k) cv) := (by rw [KB.out.cell]; exact q_last HQ.out _); have f4 : w4.frozen? ⟨t, 7, none⟩ = false := KB.out.frozen 7)
        | (go_simp; go_at_call 17; refine (HG.out _ (by first | exact HBW.out | exact below_drew HBW.out | exact below_drewN HBW.out _)).mono ?_; rintro e w3 ⟨rfl, hb3⟩; have HB3 : Hid (Below W.heap.size W w3) := Lib.hid (by first | exact hb3 | exact keep_trans (below_drew (Below.refl _ _)) hb3 | exact keep_trans (below_drewN (Below.refl _ _) _) hb3); have K3 := Lib.hid (K1.out.after HB3.out); have O3 := Lib.hid (own_after O1.out HB3.out); have k3 : w3.cell? ⟨t, 7, none⟩ = some (.slice Av (N + k) cv) := (by rw [K3.out.cell]; exact q_last HQ.out _); have k3' : ∀ o, (w3.alloc o).cell? ⟨t, 7, none⟩ = some (.slice Av (N + k) cv) := (fun o => by rw [(K3.out.alloc o).cell]; exact q_last HQ.out _))
        | fail)
      all_goals
        have HFIN := Lib.hid (tell_fin HQ.out K3.out (HLK.out.symm ▸ O3.out) (HB3.out.mono hszW) hBt hszW HLK.out.symm hown4 hgrow)
        go_wp2_with fail
        go_roundw
        case rel => exact ⟨k + 1, by go_num, by omega, Lib.hid (by rw [HMK.out, ← List.append_assoc]; exact HFIN.out.1), Lib.hid (HBW.out.trans HFIN.out.2)⟩
        case measure => simp [intOf]; omega
    · have hi : ¬ (k : Int) < (n : Int) := by omega
      have HF : Hid ((l.take k).map g = l.map g) := Lib.hid (by rw [List.take_of_length_le (by rw [← hn.out]; omega)])
      go_wp2
      go_end0
      exact ⟨rfl, HF.out ▸ HP.out, HB.out⟩

set_option maxRecDepth 100000 in
set_option maxHeartbeats 8000000 in
theorem tell_trip (w : World) (B t : Nat) (q : List Value) (hq : q.length = 7) (L : List (List UInt8)) (A : Option Addr) (n c : Nat) (l : List (TripM)) (g : TripM → List UInt8) (hn : Hid (n = l.length)) (hN : n ≤ 1000000) (hL : L.length ≤ 1000000) (hx : Rd w (· < B) A (cs trC l)) (hT : TellAt w B t q L) (hBt : B ≤ t) (hB : B ≤ w.heap.size)
    (hg : ∀ a ∈ l, ∀ w', Below B w w' → Calls Tryz.prog 21 #[.agg #[.string ⟨a.name.toArray⟩, .string ⟨a.route.toArray⟩, .int .i64 a.frm, .int .i64 a.every, .int .i64 a.til]] w' (TextPost w' (g a))) :
    Calls Tryz.prog 80 #[.pointer (some ⟨t, 0, none⟩), .slice A n c, .func (.func 21) #[] #[]] w (fun e w' => e = .returned (.tuple #[]) ∧ TellAt w' B t q (L ++ l.map g) ∧ Below B w w') := by
  have HX := Lib.hid hx
  have HT := Lib.hid hT
  have HGG := Lib.hid hg
  have HQ := Lib.hid hq
  clear hx hT hg hq
  obtain ⟨N, hNL⟩ : ∃ N, N = L.length := ⟨_, rfl⟩
  rw [← hNL] at hL
  have HNL := Lib.hid hNL
  clear hNL
  obtain ⟨i0, hi0, hz0, hz1, hz2⟩ := info_parts info_Str
  go_enter Tryz.func80, Tryz.ntmps80
  go_wp2
  go_loopw [10] (fun v wr => ∃ k : Nat, v = .int .i64 k ∧ k ≤ n ∧ Hid (TellAt wr B t q (L ++ (l.take k).map g)) ∧ Hid (Below B w wr)) (fun v _ => n - (intOf v).toNat)
  case atStart => exact ⟨0, rfl, by omega, Lib.hid (by simpa using HT.out), Lib.hid (Below.refl _ _)⟩
  case round =>
    obtain ⟨k, rfl, hk, HP, HB⟩ := hrel
    by_cases hlt : k < n
    · obtain ⟨a, ha⟩ := at_in l hn hlt
      obtain ⟨ad, rfl, hS, h0, hj⟩ := rd_at 5 (fun _ => rfl) (by omega) (HX.out.below HB.out) ha
      have hsz : B ≤ wr.heap.size := Nat.le_trans hB HB.out.size
      have HG0 := HGG.out a (List.mem_of_getElem? ha)
      have HMK : Hid ((l.take (k + 1)).map g = (l.take k).map g ++ [g a]) := Lib.hid (by rw [List.take_add_one, ha]; simp)
      have HLK : Hid ((L ++ (l.take k).map g).length = N + k) := Lib.hid (by rw [List.length_append, List.length_map, List.length_take, HNL.out]; have := hn.out; omega)
      obtain ⟨D, hD⟩ : ∃ D, D = g a := ⟨_, rfl⟩
      rw [← hD] at HMK HG0
      obtain ⟨x0, x1, x2, x3, x4⟩ := a
      have a0 : wr.cell? (ad.add (k * 5)) = some (.string ⟨x0.toArray⟩) := h0
      have a1 : wr.cell? ⟨(ad.add (k * 5)).block, (ad.add (k * 5)).off + 1, none⟩ = some (.string ⟨x1.toArray⟩) := (hj 1 (by omega)).resolve_right (by omega)
      have a2 : wr.cell? ⟨(ad.add (k * 5)).block, (ad.add (k * 5)).off + 2, none⟩ = some (.int .i64 x2) := (hj 2 (by omega)).resolve_right (by omega)
      have a3 : wr.cell? ⟨(ad.add (k * 5)).block, (ad.add (k * 5)).off + 3, none⟩ = some (.int .i64 x3) := (hj 3 (by omega)).resolve_right (by omega)
      have a4 : wr.cell? ⟨(ad.add (k * 5)).block, (ad.add (k * 5)).off + 4, none⟩ = some (.int .i64 x4) := (hj 4 (by omega)).resolve_right (by omega)
      try dsimp only at HG0
      have hi : (k : Int) < (n : Int) := by omega
      clear ha h0 hj hD
      have HG : Hid (∀ w', Below B w w' → Calls Tryz.prog 21 #[.agg #[.string ⟨x0.toArray⟩, .string ⟨x1.toArray⟩, .int .i64 x2, .int .i64 x3, .int .i64 x4]] w' (TextPost w' D)) := Lib.hid HG0
      clear HG0
      go_upto_region 3 with (fail)
      obtain ⟨W, hW⟩ : ∃ W, W = wr.alloc (.cells #[.string ⟨x0.toArray⟩, .string ⟨x1.toArray⟩, .int .i64 x2, .int .i64 x3, .int .i64 x4] 40) := ⟨_, rfl⟩
      have HW0 : Hid (Below B wr W) := Lib.hid (by rw [hW]; exact (Below.refl _ _).alloc hsz _)
      have HT2 : Hid (TellAt W B t q (L ++ (l.take k).map g)) := Lib.hid (by rw [hW]; exact HP.out.after (one_box _ _))
      have KX : Hid (Blk W wr.heap.size 40 [.string ⟨x0.toArray⟩, .string ⟨x1.toArray⟩, .int .i64 x2, .int .i64 x3, .int .i64 x4]) := Lib.hid (by rw [hW]; exact Blk.new wr _ _)
      have y0 : W.cell? ⟨wr.heap.size, 0, none⟩ = some (.string ⟨x0.toArray⟩) := KX.out.cell 0
      have z0 : ∀ o, (W.alloc o).cell? ⟨wr.heap.size, 0, none⟩ = some (.string ⟨x0.toArray⟩) := fun o => (KX.out.alloc o).cell 0
      have y1 : W.cell? ⟨wr.heap.size, 1, none⟩ = some (.string ⟨x1.toArray⟩) := KX.out.cell 1
      have z1 : ∀ o, (W.alloc o).cell? ⟨wr.heap.size, 1, none⟩ = some (.string ⟨x1.toArray⟩) := fun o => (KX.out.alloc o).cell 1
      have y2 : W.cell? ⟨wr.heap.size, 2, none⟩ = some (.int .i64 x2) := KX.out.cell 2
      have z2 : ∀ o, (W.alloc o).cell? ⟨wr.heap.size, 2, none⟩ = some (.int .i64 x2) := fun o => (KX.out.alloc o).cell 2
      have y3 : W.cell? ⟨wr.heap.size, 3, none⟩ = some (.int .i64 x3) := KX.out.cell 3
      have z3 : ∀ o, (W.alloc o).cell? ⟨wr.heap.size, 3, none⟩ = some (.int .i64 x3) := fun o => (KX.out.alloc o).cell 3
      have y4 : W.cell? ⟨wr.heap.size, 4, none⟩ = some (.int .i64 x4) := KX.out.cell 4
      have z4 : ∀ o, (W.alloc o).cell? ⟨wr.heap.size, 4, none⟩ = some (.int .i64 x4) := fun o => (KX.out.alloc o).cell 4
      rw [← hW]
      clear hW
      have HBW : Hid (Below B w W) := Lib.hid (HB.out.trans HW0.out)
      have hszW : B ≤ W.heap.size := Nat.le_trans hsz HW0.out.size
      obtain ⟨v, hv1, hv2⟩ := HT2.out
      rw [HLK.out] at hv2
      obtain ⟨Av, cv, rfl, hvc, -⟩ := own_form hv2
      have K1 := Lib.hid hv1
      have O1 := Lib.hid hv2
      have k1 : W.cell? ⟨t, 7, none⟩ = some (.slice Av (N + k) cv) := by rw [hv1.cell]; exact q_last HQ.out _
      have k1' : ∀ o, (W.alloc o).cell? ⟨t, 7, none⟩ = some (.slice Av (N + k) cv) := fun o => by rw [(K1.out.alloc o).cell]; exact q_last HQ.out _
      clear hv1 hv2
      go_region_law (first
        | (refine step_append_lies _ (by rfl) (.tmp 18) (.tmp 22) 22 (by rfl) B 9 i0 _ 1 16 Tryz.underlying22 hi0 hz0 hz1 hz2 rfl (by omega) (.slice Av (N + k) cv) (N + k) (cs strC (L ++ (l.take k).map g)) (by rfl) (O3.out.alloc _)
            ⟨w3.heap.size, 0, none⟩ 1 1 [.string ⟨D.toArray⟩] (by rfl) (by rfl) (World.news_of_block (cs := #[.string ⟨D.toArray⟩]) (t := 9) (fr := (0, 0)) (heap_alloc_new w3 _)) (by simp [Value.oneCell'])
            (by omega) (by unfold maxLen; omega) (by omega) (by have := HB3.out.size; simp; omega) (w3.heap.size + 1) (by simp) ?_; intro gg cap w4 hown4 hgrow hat hgl; have KB := Lib.hid (Blk.grown (K3.out.alloc _) hgrow (fun e => own_ne_blk O3.out K3.out (by decide) t e.symm rfl)); have k4 : w4.cell? ⟨t, 7, none⟩ = some (.slice Av (N + k) cv) := (by rw [KB.out.cell]; exact q_last HQ.out _); have f4 : w4.frozen? ⟨t, 7, none⟩ = false := KB.out.frozen 7)
        | (go_simp; go_at_call 21; refine (HG.out _ (by first | exact HBW.out | exact below_drew HBW.out | exact below_drewN HBW.out _)).mono ?_; rintro e w3 ⟨rfl, hb3⟩; have HB3 : Hid (Below W.heap.size W w3) := Lib.hid (by first | exact hb3 | exact keep_trans (below_drew (Below.refl _ _)) hb3 | exact keep_trans (below_drewN (Below.refl _ _) _) hb3); have K3 := Lib.hid (K1.out.after HB3.out); have O3 := Lib.hid (own_after O1.out HB3.out); have k3 : w3.cell? ⟨t, 7, none⟩ = some (.slice Av (N + k) cv) := (by rw [K3.out.cell]; exact q_last HQ.out _); have k3' : ∀ o, (w3.alloc o).cell? ⟨t, 7, none⟩ = some (.slice Av (N + k) cv) := (fun o => by rw [(K3.out.alloc o).cell]; exact q_last HQ.out _))
        | fail)
      all_goals
        have HFIN := Lib.hid (tell_fin HQ.out K3.out (HLK.out.symm ▸ O3.out) (HB3.out.mono hszW) hBt hszW HLK.out.symm hown4 hgrow)
        go_wp2_with fail
        go_roundw
        case rel => exact ⟨k + 1, by go_num, by omega, Lib.hid (by rw [HMK.out, ← List.append_assoc]; exact HFIN.out.1), Lib.hid (HBW.out.trans HFIN.out.2)⟩
        case measure => simp [intOf]; omega
    · have hi : ¬ (k : Int) < (n : Int) := by omega
      have HF : Hid ((l.take k).map g = l.map g) := Lib.hid (by rw [List.take_of_length_le (by rw [← hn.out]; omega)])
      go_wp2
      go_end0
      exact ⟨rfl, HF.out ▸ HP.out, HB.out⟩

set_option maxRecDepth 100000 in
set_option maxHeartbeats 8000000 in
theorem tell_haz (w : World) (B t : Nat) (q : List Value) (hq : q.length = 7) (L : List (List UInt8)) (A : Option Addr) (n c : Nat) (l : List (HazM)) (g : HazM → List UInt8) (hn : Hid (n = l.length)) (hN : n ≤ 1000000) (hL : L.length ≤ 1000000) (hx : Rd w (· < B) A (cs haC l)) (hT : TellAt w B t q L) (hBt : B ≤ t) (hB : B ≤ w.heap.size)
    (hg : ∀ a ∈ l, ∀ w', Below B w w' → Calls Tryz.prog 23 #[.agg #[.string ⟨a.name.toArray⟩, .string ⟨a.at_.toArray⟩, .int .i64 a.times.frm, .int .i64 a.times.every, .int .i64 a.times.len]] w' (TextPost w' (g a))) :
    Calls Tryz.prog 81 #[.pointer (some ⟨t, 0, none⟩), .slice A n c, .func (.func 23) #[] #[]] w (fun e w' => e = .returned (.tuple #[]) ∧ TellAt w' B t q (L ++ l.map g) ∧ Below B w w') := by
  have HX := Lib.hid hx
  have HT := Lib.hid hT
  have HGG := Lib.hid hg
  have HQ := Lib.hid hq
  clear hx hT hg hq
  obtain ⟨N, hNL⟩ : ∃ N, N = L.length := ⟨_, rfl⟩
  rw [← hNL] at hL
  have HNL := Lib.hid hNL
  clear hNL
  obtain ⟨i0, hi0, hz0, hz1, hz2⟩ := info_parts info_Str
  go_enter Tryz.func81, Tryz.ntmps81
  go_wp2
  go_loopw [10] (fun v wr => ∃ k : Nat, v = .int .i64 k ∧ k ≤ n ∧ Hid (TellAt wr B t q (L ++ (l.take k).map g)) ∧ Hid (Below B w wr)) (fun v _ => n - (intOf v).toNat)
  case atStart => exact ⟨0, rfl, by omega, Lib.hid (by simpa using HT.out), Lib.hid (Below.refl _ _)⟩
  case round =>
    obtain ⟨k, rfl, hk, HP, HB⟩ := hrel
    by_cases hlt : k < n
    · obtain ⟨a, ha⟩ := at_in l hn hlt
      obtain ⟨ad, rfl, hS, h0, hj⟩ := rd_at 5 (fun _ => rfl) (by omega) (HX.out.below HB.out) ha
      have hsz : B ≤ wr.heap.size := Nat.le_trans hB HB.out.size
      have HG0 := HGG.out a (List.mem_of_getElem? ha)
      have HMK : Hid ((l.take (k + 1)).map g = (l.take k).map g ++ [g a]) := Lib.hid (by rw [List.take_add_one, ha]; simp)
      have HLK : Hid ((L ++ (l.take k).map g).length = N + k) := Lib.hid (by rw [List.length_append, List.length_map, List.length_take, HNL.out]; have := hn.out; omega)
      obtain ⟨D, hD⟩ : ∃ D, D = g a := ⟨_, rfl⟩
      rw [← hD] at HMK HG0
      obtain ⟨x0, x1, ⟨x2, x3, x4⟩⟩ := a
      have a0 : wr.cell? (ad.add (k * 5)) = some (.string ⟨x0.toArray⟩) := h0
      have a1 : wr.cell? ⟨(ad.add (k * 5)).block, (ad.add (k * 5)).off + 1, none⟩ = some (.string ⟨x1.toArray⟩) := (hj 1 (by omega)).resolve_right (by omega)
      have a2 : wr.cell? ⟨(ad.add (k * 5)).block, (ad.add (k * 5)).off + 2, none⟩ = some (.int .i64 x2) := (hj 2 (by omega)).resolve_right (by omega)
      have a3 : wr.cell? ⟨(ad.add (k * 5)).block, (ad.add (k * 5)).off + 3, none⟩ = some (.int .i64 x3) := (hj 3 (by omega)).resolve_right (by omega)
      have a4 : wr.cell? ⟨(ad.add (k * 5)).block, (ad.add (k * 5)).off + 4, none⟩ = some (.int .i64 x4) := (hj 4 (by omega)).resolve_right (by omega)
      try dsimp only at HG0
      have hi : (k : Int) < (n : Int) := by omega
      clear ha h0 hj hD
      have HG : Hid (∀ w', Below B w w' → Calls Tryz.prog 23 #[.agg #[.string ⟨x0.toArray⟩, .string ⟨x1.toArray⟩, .int .i64 x2, .int .i64 x3, .int .i64 x4]] w' (TextPost w' D)) := Lib.hid HG0
      clear HG0
      go_upto_region 3 with (fail)
      obtain ⟨W, hW⟩ : ∃ W, W = wr.alloc (.cells #[.string ⟨x0.toArray⟩, .string ⟨x1.toArray⟩, .int .i64 x2, .int .i64 x3, .int .i64 x4] 42) := ⟨_, rfl⟩
      have HW0 : Hid (Below B wr W) := Lib.hid (by rw [hW]; exact (Below.refl _ _).alloc hsz _)
      have HT2 : Hid (TellAt W B t q (L ++ (l.take k).map g)) := Lib.hid (by rw [hW]; exact HP.out.after (one_box _ _))
      have KX : Hid (Blk W wr.heap.size 42 [.string ⟨x0.toArray⟩, .string ⟨x1.toArray⟩, .int .i64 x2, .int .i64 x3, .int .i64 x4]) := Lib.hid (by rw [hW]; exact Blk.new wr _ _)
      have y0 : W.cell? ⟨wr.heap.size, 0, none⟩ = some (.string ⟨x0.toArray⟩) := KX.out.cell 0
      have z0 : ∀ o, (W.alloc o).cell? ⟨wr.heap.size, 0, none⟩ = some (.string ⟨x0.toArray⟩) := fun o => (KX.out.alloc o).cell 0
      have y1 : W.cell? ⟨wr.heap.size, 1, none⟩ = some (.string ⟨x1.toArray⟩) := KX.out.cell 1
      have z1 : ∀ o, (W.alloc o).cell? ⟨wr.heap.size, 1, none⟩ = some (.string ⟨x1.toArray⟩) := fun o => (KX.out.alloc o).cell 1
      have y2 : W.cell? ⟨wr.heap.size, 2, none⟩ = some (.int .i64 x2) := KX.out.cell 2
      have z2 : ∀ o, (W.alloc o).cell? ⟨wr.heap.size, 2, none⟩ = some (.int .i64 x2) := fun o => (KX.out.alloc o).cell 2
      have y3 : W.cell? ⟨wr.heap.size, 3, none⟩ = some (.int .i64 x3) := KX.out.cell 3
      have z3 : ∀ o, (W.alloc o).cell? ⟨wr.heap.size, 3, none⟩ = some (.int .i64 x3) := fun o => (KX.out.alloc o).cell 3
      have y4 : W.cell? ⟨wr.heap.size, 4, none⟩ = some (.int .i64 x4) := KX.out.cell 4
      have z4 : ∀ o, (W.alloc o).cell? ⟨wr.heap.size, 4, none⟩ = some (.int .i64 x4) := fun o => (KX.out.alloc o).cell 4
      rw [← hW]
      clear hW
      have HBW : Hid (Below B w W) := Lib.hid (HB.out.trans HW0.out)
      have hszW : B ≤ W.heap.size := Nat.le_trans hsz HW0.out.size
      obtain ⟨v, hv1, hv2⟩ := HT2.out
      rw [HLK.out] at hv2
      obtain ⟨Av, cv, rfl, hvc, -⟩ := own_form hv2
      have K1 := Lib.hid hv1
      have O1 := Lib.hid hv2
      have k1 : W.cell? ⟨t, 7, none⟩ = some (.slice Av (N + k) cv) := by rw [hv1.cell]; exact q_last HQ.out _
      have k1' : ∀ o, (W.alloc o).cell? ⟨t, 7, none⟩ = some (.slice Av (N + k) cv) := fun o => by rw [(K1.out.alloc o).cell]; exact q_last HQ.out _
      clear hv1 hv2
      go_region_law (first
        | (refine step_append_lies _ (by rfl) (.tmp 18) (.tmp 22) 22 (by rfl) B 9 i0 _ 1 16 Tryz.underlying22 hi0 hz0 hz1 hz2 rfl (by omega) (.slice Av (N + k) cv) (N + k) (cs strC (L ++ (l.take k).map g)) (by rfl) (O3.out.alloc _)
            ⟨w3.heap.size, 0, none⟩ 1 1 [.string ⟨D.toArray⟩] (by rfl) (by rfl) (World.news_of_block (cs := #[.string ⟨D.toArray⟩]) (t := 9) (fr := (0, 0)) (heap_alloc_new w3 _)) (by simp [Value.oneCell'])
            (by omega) (by unfold maxLen; omega) (by omega) (by have := HB3.out.size; simp; omega) (w3.heap.size + 1) (by simp) ?_; intro gg cap w4 hown4 hgrow hat hgl; have KB := Lib.hid (Blk.grown (K3.out.alloc _) hgrow (fun e => own_ne_blk O3.out K3.out (by decide) t e.symm rfl)); have k4 : w4.cell? ⟨t, 7, none⟩ = some (.slice Av (N + k) cv) := (by rw [KB.out.cell]; exact q_last HQ.out _); have f4 : w4.frozen? ⟨t, 7, none⟩ = false := KB.out.frozen 7)
        | (go_simp; go_at_call 23; refine (HG.out _ (by first | exact HBW.out | exact below_drew HBW.out | exact below_drewN HBW.out _)).mono ?_; rintro e w3 ⟨rfl, hb3⟩; have HB3 : Hid (Below W.heap.size W w3) := Lib.hid (by first | exact hb3 | exact keep_trans (below_drew (Below.refl _ _)) hb3 | exact keep_trans (below_drewN (Below.refl _ _) _) hb3); have K3 := Lib.hid (K1.out.after HB3.out); have O3 := Lib.hid (own_after O1.out HB3.out); have k3 : w3.cell? ⟨t, 7, none⟩ = some (.slice Av (N + k) cv) := (by rw [K3.out.cell]; exact q_last HQ.out _); have k3' : ∀ o, (w3.alloc o).cell? ⟨t, 7, none⟩ = some (.slice Av (N + k) cv) := (fun o => by rw [(K3.out.alloc o).cell]; exact q_last HQ.out _))
        | fail)
      all_goals
        have HFIN := Lib.hid (tell_fin HQ.out K3.out (HLK.out.symm ▸ O3.out) (HB3.out.mono hszW) hBt hszW HLK.out.symm hown4 hgrow)
        go_wp2_with fail
        go_roundw
        case rel => exact ⟨k + 1, by go_num, by omega, Lib.hid (by rw [HMK.out, ← List.append_assoc]; exact HFIN.out.1), Lib.hid (HBW.out.trans HFIN.out.2)⟩
        case measure => simp [intOf]; omega
    · have hi : ¬ (k : Int) < (n : Int) := by omega
      have HF : Hid ((l.take k).map g = l.map g) := Lib.hid (by rw [List.take_of_length_le (by rw [← hn.out]; omega)])
      go_wp2
      go_end0
      exact ⟨rfl, HF.out ▸ HP.out, HB.out⟩

set_option maxRecDepth 100000 in
set_option maxHeartbeats 8000000 in
theorem tell_route (w : World) (B t : Nat) (q : List Value) (hq : q.length = 7) (L : List (List UInt8)) (A : Option Addr) (n c : Nat) (l : List RouteM) (cl : List Value) (g : RouteM → List UInt8) (hn : Hid (n = l.length)) (hN : n ≤ 1000000) (hL : L.length ≤ 1000000) (hx : Rd w (· < B) A cl) (hr : Rts w (· < B) l cl) (hT : TellAt w B t q L) (hBt : B ≤ t) (hB : B ≤ w.heap.size)
    (hg : ∀ a ∈ l, ∀ w' sa sc ra rc ya yc, Below B w w' → RtAt w' (· < w'.heap.size) a sa ra ya → Calls Tryz.prog 19 #[rtV a sa ra ya sc rc yc] w' (TextPost w' (g a))) :
    Calls Tryz.prog 79 #[.pointer (some ⟨t, 0, none⟩), .slice A n c, .func (.func 19) #[] #[]] w (fun e w' => e = .returned (.tuple #[]) ∧ TellAt w' B t q (L ++ l.map g) ∧ Below B w w') := by
  have HX := Lib.hid hx
  have HR := Lib.hid hr
  have HT := Lib.hid hT
  have HGG := Lib.hid hg
  have HQ := Lib.hid hq
  clear hx hr hT hg hq
  obtain ⟨N, hNL⟩ : ∃ N, N = L.length := ⟨_, rfl⟩
  rw [← hNL] at hL
  have HNL := Lib.hid hNL
  clear hNL
  obtain ⟨i0, hi0, hz0, hz1, hz2⟩ := info_parts info_Str
  go_enter Tryz.func79, Tryz.ntmps79
  go_wp2
  go_loopw [10] (fun v wr => ∃ k : Nat, v = .int .i64 k ∧ k ≤ n ∧ Hid (TellAt wr B t q (L ++ (l.take k).map g)) ∧ Hid (Below B w wr)) (fun v _ => n - (intOf v).toNat)
  case atStart => exact ⟨0, rfl, by omega, Lib.hid (by simpa using HT.out), Lib.hid (Below.refl _ _)⟩
  case round =>
    obtain ⟨k, rfl, hk, HP, HB⟩ := hrel
    by_cases hlt : k < n
    · obtain ⟨a, ha⟩ := at_in l hn hlt
      obtain ⟨ad, rfl, hS, sa, sc, ra, rc, ya, yc, a0, a1, a2, a3, hg0⟩ := rts_at (HX.out.below HB.out) (HR.out.keep (fun b hb => HB.out.block b hb)) ha
      have hsz : B ≤ wr.heap.size := Nat.le_trans hB HB.out.size
      have HG0 : ∀ w', Below B wr w' → Calls Tryz.prog 19 #[rtV a sa ra ya sc rc yc] w' (TextPost w' (g a)) := fun w' hb => HGG.out a (List.mem_of_getElem? ha) w' sa sc ra rc ya yc (HB.out.trans hb) ((hg0.keep fun b h1 => hb.block b h1).more fun b h1 => by have := hb.size; omega)
      have HMK : Hid ((l.take (k + 1)).map g = (l.take k).map g ++ [g a]) := Lib.hid (by rw [List.take_add_one, ha]; simp)
      have HLK : Hid ((L ++ (l.take k).map g).length = N + k) := Lib.hid (by rw [List.length_append, List.length_map, List.length_take, HNL.out]; have := hn.out; omega)
      obtain ⟨D, hD⟩ : ∃ D, D = g a := ⟨_, rfl⟩
      rw [← hD] at HMK HG0
      clear ha hg0 hD
      obtain ⟨nm, st, ri, sy⟩ := a
      dsimp only at a0 a1 a2 a3 HG0
      obtain ⟨n1, hn1⟩ : ∃ n1, n1 = st.length := ⟨_, rfl⟩
      obtain ⟨n2, hn2⟩ : ∃ n2, n2 = ri.length := ⟨_, rfl⟩
      obtain ⟨n3, hn3⟩ : ∃ n3, n3 = sy.length := ⟨_, rfl⟩
      rw [← hn1] at a1
      rw [← hn2] at a2
      rw [← hn3] at a3
      simp only [rtV, ← hn1, ← hn2, ← hn3] at HG0
      have hi : (k : Int) < (n : Int) := by omega
      have HG := Lib.hid HG0
      clear HG0 hn1 hn2 hn3
      go_upto_region 3 with (fail)
      obtain ⟨W, hW⟩ : ∃ W, W = wr.alloc (.cells #[.string ⟨nm.toArray⟩, .slice sa n1 sc, .slice ra n2 rc, .slice ya n3 yc] 38) := ⟨_, rfl⟩
      have HW0 : Hid (Below B wr W) := Lib.hid (by rw [hW]; exact (Below.refl _ _).alloc hsz _)
      have HT2 : Hid (TellAt W B t q (L ++ (l.take k).map g)) := Lib.hid (by rw [hW]; exact HP.out.after (one_box _ _))
      have KX : Hid (Blk W wr.heap.size 38 [.string ⟨nm.toArray⟩, .slice sa n1 sc, .slice ra n2 rc, .slice ya n3 yc]) := Lib.hid (by rw [hW]; exact Blk.new wr _ _)
      have y0 : W.cell? ⟨wr.heap.size, 0, none⟩ = some (.string ⟨nm.toArray⟩) := KX.out.cell 0
      have z0 : ∀ o, (W.alloc o).cell? ⟨wr.heap.size, 0, none⟩ = some (.string ⟨nm.toArray⟩) := fun o => (KX.out.alloc o).cell 0
      have y1 : W.cell? ⟨wr.heap.size, 1, none⟩ = some (.slice sa n1 sc) := KX.out.cell 1
      have z1 : ∀ o, (W.alloc o).cell? ⟨wr.heap.size, 1, none⟩ = some (.slice sa n1 sc) := fun o => (KX.out.alloc o).cell 1
      have y2 : W.cell? ⟨wr.heap.size, 2, none⟩ = some (.slice ra n2 rc) := KX.out.cell 2
      have z2 : ∀ o, (W.alloc o).cell? ⟨wr.heap.size, 2, none⟩ = some (.slice ra n2 rc) := fun o => (KX.out.alloc o).cell 2
      have y3 : W.cell? ⟨wr.heap.size, 3, none⟩ = some (.slice ya n3 yc) := KX.out.cell 3
      have z3 : ∀ o, (W.alloc o).cell? ⟨wr.heap.size, 3, none⟩ = some (.slice ya n3 yc) := fun o => (KX.out.alloc o).cell 3
      rw [← hW]
      clear hW
      have HBW : Hid (Below B w W) := Lib.hid (HB.out.trans HW0.out)
      have hszW : B ≤ W.heap.size := Nat.le_trans hsz HW0.out.size
      obtain ⟨v, hv1, hv2⟩ := HT2.out
      rw [HLK.out] at hv2
      obtain ⟨Av, cv, rfl, hvc, -⟩ := own_form hv2
      have K1 := Lib.hid hv1
      have O1 := Lib.hid hv2
      have k1 : W.cell? ⟨t, 7, none⟩ = some (.slice Av (N + k) cv) := by rw [hv1.cell]; exact q_last HQ.out _
      have k1' : ∀ o, (W.alloc o).cell? ⟨t, 7, none⟩ = some (.slice Av (N + k) cv) := fun o => by rw [(K1.out.alloc o).cell]; exact q_last HQ.out _
      clear hv1 hv2
      go_region_law (first
        | (refine step_append_lies _ (by rfl) (.tmp 18) (.tmp 22) 22 (by rfl) B 9 i0 _ 1 16 Tryz.underlying22 hi0 hz0 hz1 hz2 rfl (by omega) (.slice Av (N + k) cv) (N + k) (cs strC (L ++ (l.take k).map g)) (by rfl) (O3.out.alloc _)
            ⟨w3.heap.size, 0, none⟩ 1 1 [.string ⟨D.toArray⟩] (by rfl) (by rfl) (World.news_of_block (cs := #[.string ⟨D.toArray⟩]) (t := 9) (fr := (0, 0)) (heap_alloc_new w3 _)) (by simp [Value.oneCell'])
            (by omega) (by unfold maxLen; omega) (by omega) (by have := HB3.out.size; simp; omega) (w3.heap.size + 1) (by simp) ?_; intro gg cap w4 hown4 hgrow hat hgl; have KB := Lib.hid (Blk.grown (K3.out.alloc _) hgrow (fun e => own_ne_blk O3.out K3.out (by decide) t e.symm rfl)); have k4 : w4.cell? ⟨t, 7, none⟩ = some (.slice Av (N + k) cv) := (by rw [KB.out.cell]; exact q_last HQ.out _); have f4 : w4.frozen? ⟨t, 7, none⟩ = false := KB.out.frozen 7)
        | (go_simp; go_at_call 19; refine (HG.out _ (by first | exact HW0.out | exact below_drew HW0.out | exact below_drewN HW0.out _)).mono ?_; rintro e w3 ⟨rfl, hb3⟩; have HB3 : Hid (Below W.heap.size W w3) := Lib.hid (by first | exact hb3 | exact keep_trans (below_drew (Below.refl _ _)) hb3 | exact keep_trans (below_drewN (Below.refl _ _) _) hb3); have K3 := Lib.hid (K1.out.after HB3.out); have O3 := Lib.hid (own_after O1.out HB3.out); have k3 : w3.cell? ⟨t, 7, none⟩ = some (.slice Av (N + k) cv) := (by rw [K3.out.cell]; exact q_last HQ.out _); have k3' : ∀ o, (w3.alloc o).cell? ⟨t, 7, none⟩ = some (.slice Av (N + k) cv) := (fun o => by rw [(K3.out.alloc o).cell]; exact q_last HQ.out _))
        | fail)
      all_goals
        have HFIN := Lib.hid (tell_fin HQ.out K3.out (HLK.out.symm ▸ O3.out) (HB3.out.mono hszW) hBt hszW HLK.out.symm hown4 hgrow)
        go_wp2_with fail
        go_roundw
        case rel => exact ⟨k + 1, by go_num, by omega, Lib.hid (by rw [HMK.out, ← List.append_assoc]; exact HFIN.out.1), Lib.hid (HBW.out.trans HFIN.out.2)⟩
        case measure => simp [intOf]; omega
    · have hi : ¬ (k : Int) < (n : Int) := by omega
      have HF : Hid ((l.take k).map g = l.map g) := Lib.hid (by rw [List.take_of_length_le (by rw [← hn.out]; omega)])
      go_wp2
      go_end0
      exact ⟨rfl, HF.out ▸ HP.out, HB.out⟩

end Go.Proofs.YtcmlmfcnbmpajaaGreatDoor.Sw
