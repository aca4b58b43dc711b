/- Package world's told: its closures, withNames and each at a world's things; proved by walking their texts. Conditions: at most 400 things; the things' numbers are of things. -/
import Derived.Test.YtfefnfifeaihhaaGreatWoMiss
set_option linter.unusedVariables false
set_option linter.unusedSimpArgs false
set_option maxHeartbeats 4000000
set_option maxRecDepth 100000
namespace Go.Proofs.YtfefnfifeaihhaaGreat.Wo
open Go.ChangeShapes Go.WideShapes Go.ChangeAt Go.RowKit Go.Maps
open Lx Sh
/-- the closure that tells a stop's name, as it lies -/
abbrev stF (gN : Nat) : Value := .func (.func 106) #[] #[.pointer (some ⟨gN, 0, none⟩)]
theorem nm_at {S : List Nm} {i : Int} (h : inB i S = true) : 0 ≤ i ∧ i.toNat < S.length ∧ S[i.toNat]? = some (nm S i) := by
  simp only [inB, Bool.and_eq_true, decide_eq_true_eq] at h
  have hl : i.toNat < S.length := by omega
  refine ⟨h.1, hl, ?_⟩
  unfold nm
  rw [List.getElem?_eq_getElem hl]
  rfl
theorem stop_tell (i : Int) (gN : Nat) (n : NamesM) (p : NaA) (w : World) (hb : Blk w gN 30 (naL n p)) (hr : Rd w (· < w.heap.size) p.a1 (cs strC n.stops)) (hi : inB i n.stops = true) :
    Calls Tryz.prog 106 #[.int .i64 i, .pointer (some ⟨gN, 0, none⟩)] w (fun e w' => e = .returned (.string ⟨(nm n.stops i).toArray⟩) ∧ w' = w) := by
  obtain ⟨h0, hl, hat⟩ := nm_at hi
  obtain ⟨ad, e, hS, c0, -⟩ := rd_at 1 (fun _ => rfl) (by omega) hr hat
  rw [Nat.mul_one] at c0
  have c1 : w.cell? (ad.add i.toNat) = some (.string ⟨(nm n.stops i).toArray⟩) := c0
  obtain ⟨k, rfl⟩ : ∃ k : Nat, i = (k : Int) := ⟨i.toNat, by omega⟩
  rw [Int.toNat_natCast] at c1 hl
  have z0 : w.cell? ⟨gN, 0, none⟩ = some (.slice (some ad) n.stops.length p.c1) := by rw [← e]; exact hb.cell 0
  have hlt : (k : Int) < (n.stops.length : Int) := by omega
  have hn0 : ¬ ((k : Int) < 0) := by omega
  clear hb hr hi hat e hS c0 h0
  generalize nm n.stops k = s at *
  generalize n.stops.length = m at *
  go_enter Tryz.func106, Tryz.ntmps106
  go_wp2
  go_ret
  exact ⟨rfl, rfl⟩
theorem pa_read {W : World} {n0 : Nat} {a0 a1 a2 a3 : Value} {tmps : Array Value} (h2 : tmps[5]? = some (.pointer (some ⟨n0, 0, none⟩))) (k0 : Blk W n0 117 [a0, a1, a2, a3]) :
    (results Tryz.f109 tmps).run Tryz.prog W = .ok (.agg #[a0, a1, a2, a3]) W := by
  have x0 : W.cell? ⟨n0, 0, none⟩ = some a0 := k0.cell 0
  have x1 : W.cell? ⟨n0, 1, none⟩ = some a1 := k0.cell 1
  have x2 : W.cell? ⟨n0, 2, none⟩ = some a2 := k0.cell 2
  have x3 : W.cell? ⟨n0, 3, none⟩ = some a3 := k0.cell 3
  simp [results, Tryz.results109, go_sem, h2, x0, x1, x2, x3]
theorem do_read {W : World} {n0 : Nat} {a0 a1 a2 a3 a4 a5 a6 : Value} {tmps : Array Value} (h2 : tmps[5]? = some (.pointer (some ⟨n0, 0, none⟩))) (k0 : Blk W n0 119 [a0, a1, a2, a3, a4, a5, a6]) :
    (results Tryz.f111 tmps).run Tryz.prog W = .ok (.agg #[a0, a1, a2, a3, a4, a5, a6]) W := by
  have x0 : W.cell? ⟨n0, 0, none⟩ = some a0 := k0.cell 0
  have x1 : W.cell? ⟨n0, 1, none⟩ = some a1 := k0.cell 1
  have x2 : W.cell? ⟨n0, 2, none⟩ = some a2 := k0.cell 2
  have x3 : W.cell? ⟨n0, 3, none⟩ = some a3 := k0.cell 3
  have x4 : W.cell? ⟨n0, 4, none⟩ = some a4 := k0.cell 4
  have x5 : W.cell? ⟨n0, 5, none⟩ = some a5 := k0.cell 5
  have x6 : W.cell? ⟨n0, 6, none⟩ = some a6 := k0.cell 6
  simp [results, Tryz.results111, go_sem, h2, x0, x1, x2, x3, x4, x5, x6]
theorem rt_read9 {W : World} {n0 : Nat} {a0 a1 a2 a3 : Value} {tmps : Array Value} (h2 : tmps[5]? = some (.pointer (some ⟨n0, 0, none⟩))) (k0 : Blk W n0 121 [a0, a1, a2, a3]) :
    (results Tryz.f113 tmps).run Tryz.prog W = .ok (.agg #[a0, a1, a2, a3]) W := by
  have x0 : W.cell? ⟨n0, 0, none⟩ = some a0 := k0.cell 0
  have x1 : W.cell? ⟨n0, 1, none⟩ = some a1 := k0.cell 1
  have x2 : W.cell? ⟨n0, 2, none⟩ = some a2 := k0.cell 2
  have x3 : W.cell? ⟨n0, 3, none⟩ = some a3 := k0.cell 3
  simp [results, Tryz.results113, go_sem, h2, x0, x1, x2, x3]
theorem tr_read {W : World} {n0 : Nat} {a0 a1 a2 a3 a4 : Value} {tmps : Array Value} (h2 : tmps[5]? = some (.pointer (some ⟨n0, 0, none⟩))) (k0 : Blk W n0 123 [a0, a1, a2, a3, a4]) :
    (results Tryz.f116 tmps).run Tryz.prog W = .ok (.agg #[a0, a1, a2, a3, a4]) W := by
  have x0 : W.cell? ⟨n0, 0, none⟩ = some a0 := k0.cell 0
  have x1 : W.cell? ⟨n0, 1, none⟩ = some a1 := k0.cell 1
  have x2 : W.cell? ⟨n0, 2, none⟩ = some a2 := k0.cell 2
  have x3 : W.cell? ⟨n0, 3, none⟩ = some a3 := k0.cell 3
  have x4 : W.cell? ⟨n0, 4, none⟩ = some a4 := k0.cell 4
  simp [results, Tryz.results116, go_sem, h2, x0, x1, x2, x3, x4]
theorem ha_read {W : World} {n0 : Nat} {a0 a1 a2 a3 a4 : Value} {tmps : Array Value} (h2 : tmps[5]? = some (.pointer (some ⟨n0, 0, none⟩))) (k0 : Blk W n0 125 [a0, a1, a2, a3, a4]) :
    (results Tryz.f118 tmps).run Tryz.prog W = .ok (.agg #[a0, a1, a2, a3, a4]) W := by
  have x0 : W.cell? ⟨n0, 0, none⟩ = some a0 := k0.cell 0
  have x1 : W.cell? ⟨n0, 1, none⟩ = some a1 := k0.cell 1
  have x2 : W.cell? ⟨n0, 2, none⟩ = some a2 := k0.cell 2
  have x3 : W.cell? ⟨n0, 3, none⟩ = some a3 := k0.cell 3
  have x4 : W.cell? ⟨n0, 4, none⟩ = some a4 := k0.cell 4
  simp [results, Tryz.results118, go_sem, h2, x0, x1, x2, x3, x4]
theorem told2_any (s : Nm) (a : PathO) (g gN : Nat) (n : NamesM) (p : NaA) (w : World) (hf : Blk w g 159 [stF gN]) (hb : Blk w gN 30 (naL n p)) (hr : Rd w (· < w.heap.size) p.a1 (cs strC n.stops)) (h1 : inB a.a n.stops = true) (h2 : inB a.b n.stops = true) :
    Calls Tryz.prog 109 #[.string ⟨s.toArray⟩, poV a, .pointer (some ⟨g, 0, none⟩)] w (fun e w' => e = .returned (paV (tPath n s a)) ∧ Below w.heap.size w w') := by
  have C1 := HH (fun w' (hk : Below w.heap.size w w') => stop_tell a.a gN n p w' (hb.after hk) (rd_later hr hk) h1)
  have C2 := HH (fun w' (hk : Below w.heap.size w w') => stop_tell a.b gN n p w' (hb.after hk) (rd_later hr hk) h2)
  have HF := HH hf
  have hg : g < w.heap.size := hf.lt
  clear hf hb hr h1 h2
  obtain ⟨x0, x1, x2⟩ := a
  dsimp only [tPath] at C1 C2 ⊢
  generalize nm n.stops x0 = s0 at *
  generalize nm n.stops x1 = s1 at *
  go_enter Tryz.func109, Tryz.ntmps109
  go_upto_region 1 with fail
  obtain ⟨W, hW⟩ : ∃ W, W = World.drewN ((w.alloc (.cells #[.int .i64 x0, .int .i64 x1, .int .i64 x2] 92)).alloc (.cells #[.string ⟨#[]⟩, .string ⟨#[]⟩, .string ⟨#[]⟩, .int .i64 0] 117)) 1 := ⟨_, rfl⟩
  have BW : Hid (Below w.heap.size w W) := HH (by rw [hW]; exact below_drewN (two_box _ _ _) 1)
  have K0 : Blk W w.heap.size 92 [.int .i64 x0, .int .i64 x1, .int .i64 x2] := by rw [hW]; exact ((Blk.new w _ _).alloc _)
  have K1 : Blk W (w.heap.size + 1) 117 [.string ⟨#[]⟩, .string ⟨#[]⟩, .string ⟨#[]⟩, .int .i64 0] := by rw [hW]; exact Blk.new2 w _ _ _
  have f0 : W.cell? ⟨g, 0, none⟩ = some (stF gN) := (HF.out.after BW.out).cell 0
  have b0 : W.cell? ⟨w.heap.size, 0, none⟩ = some (.int .i64 x0) := K0.cell 0
  have b1 : W.cell? ⟨w.heap.size, 1, none⟩ = some (.int .i64 x1) := K0.cell 1
  have b2 : W.cell? ⟨w.heap.size, 2, none⟩ = some (.int .i64 x2) := K0.cell 2
  have KZ := HH K1
  have hz := K1.lt
  refine wp_region_still_tail 12 (by kernel_rfl) (by kernel_rfl) ?_
  simp only [List.take_succ_cons, List.take_zero, List.drop_succ_cons, List.drop_zero]
  change wpStill _ _ (World.drewN ((w.alloc (.cells #[.int .i64 x0, .int .i64 x1, .int .i64 x2] 92)).alloc (.cells #[.string ⟨#[]⟩, .string ⟨#[]⟩, .string ⟨#[]⟩, .int .i64 0] 117)) 1) (fun a' => wpList _ _ _ _ a' (World.drewN ((w.alloc (.cells #[.int .i64 x0, .int .i64 x1, .int .i64 x2] 92)).alloc (.cells #[.string ⟨#[]⟩, .string ⟨#[]⟩, .string ⟨#[]⟩, .int .i64 0] 117)) 1)) _ _
  rw [← hW]
  clear hW K0 K1
  iterate 4 still_step
  still_call (C1.out _ BW.out)
  iterate 3 still_step
  still_call (C2.out _ BW.out)
  iterate 3 still_step
  refine wpStill_nil ?_
  have y0 : W.cell? ⟨w.heap.size + 1, 0, none⟩ = some (.string ⟨#[]⟩) := KZ.out.cell 0
  have y1 : W.cell? ⟨w.heap.size + 1, 1, none⟩ = some (.string ⟨#[]⟩) := KZ.out.cell 1
  have y2 : W.cell? ⟨w.heap.size + 1, 2, none⟩ = some (.string ⟨#[]⟩) := KZ.out.cell 2
  have y3 : W.cell? ⟨w.heap.size + 1, 3, none⟩ = some (.int .i64 0) := KZ.out.cell 3
  have yf : ∀ i, W.frozen? ⟨w.heap.size + 1, i, none⟩ = false := fun i => KZ.out.frozen i
  go_wp2
  refine bodyPost_ret (pa_read rfl (((((KZ.out.set_ 0 _).set_ 1 _).set_ 2 _).set_ 3 _))) rfl ?_
  exact ⟨rfl, below_set1 (below_set1 (below_set1 (below_set1 (BW.out) (by simp) _) (by simp) _) (by simp) _) (by simp) _⟩
theorem told3_any (s : Nm) (a : DoorO) (g gN : Nat) (n : NamesM) (p : NaA) (w : World) (hf : Blk w g 159 [stF gN]) (hb : Blk w gN 30 (naL n p)) (hr : Rd w (· < w.heap.size) p.a1 (cs strC n.stops)) (h1 : inB a.a n.stops = true) (h2 : inB a.b n.stops = true) :
    Calls Tryz.prog 111 #[.string ⟨s.toArray⟩, dooG a, .pointer (some ⟨g, 0, none⟩)] w (fun e w' => e = .returned (doV (tDoor n s a)) ∧ Below w.heap.size w w') := by
  have C1 := HH (fun w' (hk : Below w.heap.size w w') => stop_tell a.a gN n p w' (hb.after hk) (rd_later hr hk) h1)
  have C2 := HH (fun w' (hk : Below w.heap.size w w') => stop_tell a.b gN n p w' (hb.after hk) (rd_later hr hk) h2)
  have HF := HH hf
  have hg : g < w.heap.size := hf.lt
  clear hf hb hr h1 h2
  obtain ⟨x0, x1, x2, ⟨x3, x4, x5⟩⟩ := a
  dsimp only [tDoor] at C1 C2 ⊢
  generalize nm n.stops x0 = s0 at *
  generalize nm n.stops x1 = s1 at *
  go_enter Tryz.func111, Tryz.ntmps111
  go_upto_region 1 with fail
  obtain ⟨W, hW⟩ : ∃ W, W = World.drewN ((w.alloc (.cells #[.int .i64 x0, .int .i64 x1, .int .i64 x2, .int .i64 x3, .int .i64 x4, .int .i64 x5] 97)).alloc (.cells #[.string ⟨#[]⟩, .string ⟨#[]⟩, .string ⟨#[]⟩, .int .i64 0, .int .i64 0, .int .i64 0, .int .i64 0] 119)) 1 := ⟨_, rfl⟩
  have BW : Hid (Below w.heap.size w W) := HH (by rw [hW]; exact below_drewN (two_box _ _ _) 1)
  have K0 : Blk W w.heap.size 97 [.int .i64 x0, .int .i64 x1, .int .i64 x2, .int .i64 x3, .int .i64 x4, .int .i64 x5] := by rw [hW]; exact ((Blk.new w _ _).alloc _)
  have K1 : Blk W (w.heap.size + 1) 119 [.string ⟨#[]⟩, .string ⟨#[]⟩, .string ⟨#[]⟩, .int .i64 0, .int .i64 0, .int .i64 0, .int .i64 0] := by rw [hW]; exact Blk.new2 w _ _ _
  have f0 : W.cell? ⟨g, 0, none⟩ = some (stF gN) := (HF.out.after BW.out).cell 0
  have b0 : W.cell? ⟨w.heap.size, 0, none⟩ = some (.int .i64 x0) := K0.cell 0
  have b1 : W.cell? ⟨w.heap.size, 1, none⟩ = some (.int .i64 x1) := K0.cell 1
  have b2 : W.cell? ⟨w.heap.size, 2, none⟩ = some (.int .i64 x2) := K0.cell 2
  have b3 : W.cell? ⟨w.heap.size, 3, none⟩ = some (.int .i64 x3) := K0.cell 3
  have b4 : W.cell? ⟨w.heap.size, 4, none⟩ = some (.int .i64 x4) := K0.cell 4
  have b5 : W.cell? ⟨w.heap.size, 5, none⟩ = some (.int .i64 x5) := K0.cell 5
  have KZ := HH K1
  have hz := K1.lt
  refine wp_region_still_tail 14 (by kernel_rfl) (by kernel_rfl) ?_
  simp only [List.take_succ_cons, List.take_zero, List.drop_succ_cons, List.drop_zero]
  change wpStill _ _ (World.drewN ((w.alloc (.cells #[.int .i64 x0, .int .i64 x1, .int .i64 x2, .int .i64 x3, .int .i64 x4, .int .i64 x5] 97)).alloc (.cells #[.string ⟨#[]⟩, .string ⟨#[]⟩, .string ⟨#[]⟩, .int .i64 0, .int .i64 0, .int .i64 0, .int .i64 0] 119)) 1) (fun a' => wpList _ _ _ _ a' (World.drewN ((w.alloc (.cells #[.int .i64 x0, .int .i64 x1, .int .i64 x2, .int .i64 x3, .int .i64 x4, .int .i64 x5] 97)).alloc (.cells #[.string ⟨#[]⟩, .string ⟨#[]⟩, .string ⟨#[]⟩, .int .i64 0, .int .i64 0, .int .i64 0, .int .i64 0] 119)) 1)) _ _
  rw [← hW]
  clear hW K0 K1
  iterate 4 still_step
  still_call (C1.out _ BW.out)
  iterate 3 still_step
  still_call (C2.out _ BW.out)
  iterate 5 still_step
  refine wpStill_nil ?_
  have y0 : W.cell? ⟨w.heap.size + 1, 0, none⟩ = some (.string ⟨#[]⟩) := KZ.out.cell 0
  have y1 : W.cell? ⟨w.heap.size + 1, 1, none⟩ = some (.string ⟨#[]⟩) := KZ.out.cell 1
  have y2 : W.cell? ⟨w.heap.size + 1, 2, none⟩ = some (.string ⟨#[]⟩) := KZ.out.cell 2
  have y3 : W.cell? ⟨w.heap.size + 1, 3, none⟩ = some (.int .i64 0) := KZ.out.cell 3
  have y4 : W.cell? ⟨w.heap.size + 1, 4, none⟩ = some (.int .i64 0) := KZ.out.cell 4
  have y5 : W.cell? ⟨w.heap.size + 1, 5, none⟩ = some (.int .i64 0) := KZ.out.cell 5
  have y6 : W.cell? ⟨w.heap.size + 1, 6, none⟩ = some (.int .i64 0) := KZ.out.cell 6
  have yf : ∀ i, W.frozen? ⟨w.heap.size + 1, i, none⟩ = false := fun i => KZ.out.frozen i
  go_wp2
  refine bodyPost_ret (do_read rfl ((((((((KZ.out.set_ 0 _).set_ 1 _).set_ 2 _).set_ 3 _).set_ 4 _).set_ 5 _).set_ 6 _))) rfl ?_
  exact ⟨rfl, below_set1 (below_set1 (below_set1 (below_set1 (below_set1 (below_set1 (below_set1 (BW.out) (by simp) _) (by simp) _) (by simp) _) (by simp) _) (by simp) _) (by simp) _) (by simp) _⟩
theorem each_stop (w : World) (A : Option Addr) (n c gN : Nat) (l : List Int) (nm_ : NamesM) (p : NaA) (hn : Hid (n = l.length)) (hN : n ≤ 400) (hx : Rd w (· < w.heap.size) A (cs intC l)) (hb : Blk w gN 30 (naL nm_ p)) (hr : Rd w (· < w.heap.size) p.a1 (cs strC nm_.stops)) (hi : ∀ i ∈ l, inB i nm_.stops = true) :
    Calls Tryz.prog 114 #[.slice A n c, stF gN] w (NewRow w 9 1 (cs strC (l.map (nm nm_.stops))) n) := by
  have HX := HH hx
  have HG := HH (fun a (ha : a ∈ l) w' (hk : Below w.heap.size w w') => stop_tell a gN nm_ p w' (hb.after hk) (rd_later hr hk) (hi a ha))
  clear hx hb hr hi
  go_enter Tryz.func114, Tryz.ntmps114
  go_wp2
  go_loopw [5, 10] (fun v vi wr => EaRel w 9 1 strC (nm nm_.stops) l n v vi wr) (fun _ vi _ => n - (intOf vi).toNat)
  case atStart => exact ea_start _ _ _ _ _ _
  case round =>
    obtain ⟨k, B, d, rfl, rfl, hk, HO, HB⟩ := hrel
    by_cases hlt : k < n
    · obtain ⟨a, ha⟩ := at_in l hn hlt
      obtain ⟨ad, rfl, hS, h0, hj⟩ := rd_at 1 (fun _ => rfl) (by omega) (HX.out.below HB.out) ha
      have HA := HH ha
      have HS := HH (HG.out a (List.mem_of_getElem? ha) wr HB.out)
      have a0 : wr.cell? (ad.add k) = some (.int .i64 a) := by have : wr.cell? (ad.add (k * 1)) = some (.int .i64 a) := h0; rwa [Nat.mul_one] at this
      have hi : (k : Int) < (n : Int) := by omega
      obtain ⟨s, hs⟩ : ∃ s, s = nm nm_.stops a := ⟨_, rfl⟩
      rw [← hs] at HS
      have HSS := HH hs
      clear ha h0 hj hs hS
      go_wp2_with (first
        | (go_at_call 106; (with_reducible refine HS.out.mono ?_); rintro e w2 ⟨rfl, rfl⟩)
        | (at_builtin; refine wpList_append_rd rfl (.tmp 14) (.tmp 18) 28 rfl w.heap.size 9 _ 1 16 Tryz.underlying28 info_Str rfl (by omega) (by omega) (.slice B k d) k (cs strC ((l.take k).map (nm nm_.stops))) rfl (own_after HO.out (one_box _ _)) _ _ 1 1 [.string ⟨s.toArray⟩] rfl rfl (Sh.lit_at _ _ _ _ _ (by simp) rfl) (by simp [Value.oneCell']) (by omega) (by have := HB.out.size; simp; omega) ?_; intro v' w4 hown hbel; obtain ⟨A', c', rfl, -, -⟩ := own_form hown.out))
      go_roundw
      case rel => exact ea_more HA.out (by omega) (by rw [HSS.out]; rfl) rfl hown.out ((HB.out.alloc HB.out.size _).trans hbel.out) rfl rfl
      case measure => simp [intOf]; omega
    · obtain rfl : n = k := by omega
      have hi : ¬ ((n : Int) < (n : Int)) := by omega
      go_wp2
      go_ret
      exact ea_over hn.out HO.out HB.out
theorem told4_any (s : Nm) (r : RouteO) (sa ra ya : Option Addr) (sc rc yc g gN : Nat) (n : NamesM) (p : NaA) (w : World) (hf : Blk w g 159 [stF gN]) (hb : Blk w gN 30 (naL n p)) (hr : Rd w (· < w.heap.size) p.a1 (cs strC n.stops)) (hro : RoAt w (· < w.heap.size) r sa ra ya) (hi : ∀ i ∈ r.stops, inB i n.stops = true) (hl : r.stops.length ≤ 400 ∧ r.rides.length ≤ 400 ∧ r.stays.length ≤ 400) :
    Calls Tryz.prog 113 #[.string ⟨s.toArray⟩, roV r sa ra ya sc rc yc, .pointer (some ⟨g, 0, none⟩)] w (OwnRtPost w (tRoute n s r)) := by
  obtain ⟨S, R, Y⟩ := r
  dsimp only [roV, tRoute] at hi hl ⊢
  obtain ⟨ns, hns⟩ : ∃ n, n = S.length := ⟨_, rfl⟩
  obtain ⟨nr, hnr⟩ : ∃ n, n = R.length := ⟨_, rfl⟩
  obtain ⟨ny, hny⟩ : ∃ n, n = Y.length := ⟨_, rfl⟩
  have C1 : Hid (∀ w', Below w.heap.size w w' → Calls Tryz.prog 114 #[.slice sa ns sc, stF gN] w' (NewRow w' 9 1 (cs strC (S.map (nm n.stops))) ns)) := HH (fun w' hk => each_stop w' sa ns sc gN S n p (HH hns) (by omega) (rd_later hro.hs hk) (hb.after hk) (rd_later hr hk) hi)
  have C2 : Hid (∀ w', Below w.heap.size w w' → Calls Tryz.prog 35 #[.slice ra nr rc] w' (NewRow w' 2 1 (cs intC R) nr)) := HH (fun w' hk => clone_rint w' ra nr rc R (HH hnr) (by omega) (rd_later hro.hr hk))
  have C3 : Hid (∀ w', Below w.heap.size w w' → Calls Tryz.prog 35 #[.slice ya ny yc] w' (NewRow w' 2 1 (cs intC Y) ny)) := HH (fun w' hk => clone_rint w' ya ny yc Y (HH hny) (by omega) (rd_later hro.hy hk))
  have EE := HH (And.intro hns (And.intro hnr hny))
  have HF := HH hf
  have hgl : g < w.heap.size := hf.lt
  rw [← hns, ← hnr, ← hny]
  clear hf hb hr hro hi hl hns hnr hny
  go_enter Tryz.func113, Tryz.ntmps113
  go_upto_region 1 with fail
  obtain ⟨W, hW⟩ : ∃ W, W = (w.alloc (.cells #[.slice sa ns sc, .slice ra nr rc, .slice ya ny yc] 59)).alloc (.cells #[.string ⟨#[]⟩, .slice none 0 0, .slice none 0 0, .slice none 0 0] 121) := ⟨_, rfl⟩
  have hW0 : Below w.heap.size w W := by rw [hW]; exact two_box _ _ _
  have k0 : Blk W w.heap.size 59 [.slice sa ns sc, .slice ra nr rc, .slice ya ny yc] := by rw [hW]; exact (Blk.new w _ _).alloc _
  have k1 : Blk W (w.heap.size + 1) 121 [.string ⟨#[]⟩, .slice none 0 0, .slice none 0 0, .slice none 0 0] := by rw [hW]; exact Blk.new2 w _ _ _
  have K0 := HH k0
  have K1 := HH k1
  have HW0 := HH hW0
  have HFW := HH (HF.out.after hW0)
  rw [← hW]
  clear hW k0 k1 hW0
  have KC : Hid (∀ w', Below W.heap.size W w' → (w'.cell? ⟨w.heap.size, 0, none⟩ = some (.slice sa ns sc) ∧ w'.cell? ⟨w.heap.size, 1, none⟩ = some (.slice ra nr rc) ∧ w'.cell? ⟨w.heap.size, 2, none⟩ = some (.slice ya ny yc) ∧ w'.cell? ⟨g, 0, none⟩ = some (stF gN)) ∧ (w'.cell? ⟨w.heap.size + 1, 0, none⟩ = some (.string ⟨#[]⟩) ∧ w'.cell? ⟨w.heap.size + 1, 1, none⟩ = some (.slice none 0 0) ∧ w'.cell? ⟨w.heap.size + 1, 2, none⟩ = some (.slice none 0 0) ∧ w'.cell? ⟨w.heap.size + 1, 3, none⟩ = some (.slice none 0 0) ∧ w'.frozen? ⟨w.heap.size + 1, 0, none⟩ = false ∧ w'.frozen? ⟨w.heap.size + 1, 1, none⟩ = false ∧ w'.frozen? ⟨w.heap.size + 1, 2, none⟩ = false ∧ w'.frozen? ⟨w.heap.size + 1, 3, none⟩ = false)) := by
    refine HH (fun w' hb => ?_)
    have a := K0.out.after hb
    have b := K1.out.after hb
    have c := HFW.out.after hb
    exact ⟨⟨a.cell 0, a.cell 1, a.cell 2, c.cell 0⟩, b.cell 0, b.cell 1, b.cell 2, b.cell 3, b.frozen 0, b.frozen 1, b.frozen 2, b.frozen 3⟩
  have hgN : ¬ (g = w.heap.size + 1) := by omega
  have hgN' : ¬ (w.heap.size + 1 = g) := by omega
  go_region_held3 (fun w' => w'.cell? ⟨w.heap.size, 0, none⟩ = some (.slice sa ns sc) ∧ w'.cell? ⟨w.heap.size, 1, none⟩ = some (.slice ra nr rc) ∧ w'.cell? ⟨w.heap.size, 2, none⟩ = some (.slice ya ny yc) ∧ w'.cell? ⟨g, 0, none⟩ = some (stF gN)) (first | exact (KC.out _ Q3.out).1 | exact (KC.out _ Q2.out).1 | exact (KC.out _ Q1.out).1 | exact (KC.out _ (below_drew (Below.refl _ _))).1 | go_keep) (first
    | (go_at_call 35; (with_reducible refine (C3.out _ (keep_trans HW0.out Q2.out)).mono ?_); rintro e' w3 ⟨A3, c3, rfl, hc3, hO3, hb⟩; have Q3 := HH (keep_trans Q2.out hb); have O33 := HH hO3.out; have O23 := HH (own_after O22.out hb); have O13 := HH (own_after O12.out hb); obtain ⟨-, y0, y1, y2, y3, y4, y5, y6, y7⟩ := KC.out _ Q3.out; clear hb hO3)
    | (go_at_call 35; (with_reducible refine (C2.out _ (keep_trans HW0.out Q1.out)).mono ?_); rintro e' w2 ⟨A2, c2, rfl, hc2, hO2, hb⟩; have Q2 := HH (keep_trans Q1.out hb); have O22 := HH hO2.out; have O12 := HH (own_after O11.out hb); clear hb hO2)
    | (go_at_call 114; (with_reducible refine (C1.out _ (below_drew HW0.out)).mono ?_); rintro e' w1 ⟨A1, c1, rfl, hc1, hO1, hb⟩; have Q1 : Hid (Below W.heap.size W w1) := HH (keep_trans (below_drew (Below.refl _ W)) hb); have O11 := HH hO1.out; clear hb hO1)
    | fail)
  have KF := HH (((((K1.out.after Q3.out).set_ 0 (.string ⟨s.toArray⟩)).set_ 1 (.slice A1 ns c1)).set_ 2 (.slice A2 nr c2)).set_ 3 (.slice A3 ny c3))
  have hz := K1.out.lt
  have z1 := Q1.out.size
  have z2 := Q2.out.size
  go_wp2
  refine bodyPost_ret (v := .agg #[.string ⟨s.toArray⟩, .slice A1 ns c1, .slice A2 nr c2, .slice A3 ny c3]) (rt_read9 rfl KF.out) rfl ?_
  obtain ⟨e1, e2, e3⟩ := EE.out
  refine ⟨A1, A2, A3, c1, c2, c3, by dsimp only [rtV]; rw [List.length_map, e1, e2, e3], ⟨rd_set4 (own_rd O13.out) (by show _ < W.heap.size; omega) (by show _ ≤ W.heap.size; omega), rd_set4 (own_rd O23.out) (by omega) (by omega), rd_set4 (own_rd O33.out) (by omega) (by omega)⟩, ?_⟩
  exact below_set1 (below_set1 (below_set1 (below_set1 (keep_trans HW0.out Q3.out) (by simp) _) (by simp) _) (by simp) _) (by simp) _
theorem told5_any (s : Nm) (a : TripO) (gN : Nat) (n : NamesM) (p : NaA) (w : World) (hb : Blk w gN 30 (naL n p)) (hr : Rd w (· < w.heap.size) p.a4 (cs strC n.routes)) (h1 : inB a.route n.routes = true) :
    Calls Tryz.prog 116 #[.string ⟨s.toArray⟩, toV a, .pointer (some ⟨gN, 0, none⟩)] w (fun e w' => e = .returned (trV (tTrip n s a)) ∧ Below w.heap.size w w') := by
  obtain ⟨h0, hl, hat⟩ := nm_at h1
  obtain ⟨ad, e, hS, c0, -⟩ := rd_at 1 (fun _ => rfl) (by omega) hr hat
  rw [Nat.mul_one] at c0
  have HN := HH hb
  have hg : gN < w.heap.size := hb.lt
  obtain ⟨x0, x1, x2, x3⟩ := a
  dsimp only at c0 h0 hl ⊢
  have hblk : ad.block < w.heap.size := hS
  obtain ⟨k, rfl⟩ : ∃ k : Nat, x0 = (k : Int) := ⟨x0.toNat, by omega⟩
  rw [Int.toNat_natCast] at c0 hl
  have HC := HH c0
  have HE := HH e
  have hlt : (k : Int) < (n.routes.length : Int) := by omega
  have hn0 : ¬ ((k : Int) < 0) := by omega
  clear hb hr h1 hat e hS h0 c0
  dsimp only [tTrip]
  generalize nm n.routes k = t at *
  go_enter Tryz.func116, Tryz.ntmps116
  go_upto_region 1 with fail
  obtain ⟨W, hW⟩ : ∃ W, W = World.drewN ((w.alloc (.cells #[.int .i64 (k : Int), .int .i64 x1, .int .i64 x2, .int .i64 x3] 56)).alloc (.cells #[.string ⟨#[]⟩, .string ⟨#[]⟩, .int .i64 0, .int .i64 0, .int .i64 0] 123)) 1 := ⟨_, rfl⟩
  have BW : Hid (Below w.heap.size w W) := HH (by rw [hW]; exact below_drewN (two_box _ _ _) 1)
  have K0 : Blk W w.heap.size 56 [.int .i64 (k : Int), .int .i64 x1, .int .i64 x2, .int .i64 x3] := by rw [hW]; exact ((Blk.new w _ _).alloc _)
  have K1 : Blk W (w.heap.size + 1) 123 [.string ⟨#[]⟩, .string ⟨#[]⟩, .int .i64 0, .int .i64 0, .int .i64 0] := by rw [hW]; exact Blk.new2 w _ _ _
  have f0 : W.cell? ⟨gN, 3, none⟩ = some (.slice (some ad) n.routes.length p.c4) := by rw [← HE.out]; exact (HN.out.after BW.out).cell 3
  have f1 : W.cell? (ad.add k) = some (.string ⟨t.toArray⟩) := (cell_keep (p := ad.add k) BW.out (by rw [block_of_add]; exact hblk)).trans HC.out
  have b0 : W.cell? ⟨w.heap.size, 0, none⟩ = some (.int .i64 (k : Int)) := K0.cell 0
  have b1 : W.cell? ⟨w.heap.size, 1, none⟩ = some (.int .i64 x1) := K0.cell 1
  have b2 : W.cell? ⟨w.heap.size, 2, none⟩ = some (.int .i64 x2) := K0.cell 2
  have b3 : W.cell? ⟨w.heap.size, 3, none⟩ = some (.int .i64 x3) := K0.cell 3
  have KZ := HH K1
  generalize n.routes.length = m at *
  refine wp_region_still_tail 14 (by kernel_rfl) (by kernel_rfl) ?_
  simp only [List.take_succ_cons, List.take_zero, List.drop_succ_cons, List.drop_zero]
  change wpStill _ _ (World.drewN ((w.alloc (.cells #[.int .i64 (k : Int), .int .i64 x1, .int .i64 x2, .int .i64 x3] 56)).alloc (.cells #[.string ⟨#[]⟩, .string ⟨#[]⟩, .int .i64 0, .int .i64 0, .int .i64 0] 123)) 1) (fun a' => wpList _ _ _ _ a' (World.drewN ((w.alloc (.cells #[.int .i64 (k : Int), .int .i64 x1, .int .i64 x2, .int .i64 x3] 56)).alloc (.cells #[.string ⟨#[]⟩, .string ⟨#[]⟩, .int .i64 0, .int .i64 0, .int .i64 0] 123)) 1)) _ _
  rw [← hW]
  clear hW K0 K1
  iterate 14 still_step
  refine wpStill_nil ?_
  have y0 : W.cell? ⟨w.heap.size + 1, 0, none⟩ = some (.string ⟨#[]⟩) := KZ.out.cell 0
  have y1 : W.cell? ⟨w.heap.size + 1, 1, none⟩ = some (.string ⟨#[]⟩) := KZ.out.cell 1
  have y2 : W.cell? ⟨w.heap.size + 1, 2, none⟩ = some (.int .i64 0) := KZ.out.cell 2
  have y3 : W.cell? ⟨w.heap.size + 1, 3, none⟩ = some (.int .i64 0) := KZ.out.cell 3
  have y4 : W.cell? ⟨w.heap.size + 1, 4, none⟩ = some (.int .i64 0) := KZ.out.cell 4
  have yf : ∀ i, W.frozen? ⟨w.heap.size + 1, i, none⟩ = false := fun i => KZ.out.frozen i
  go_wp2
  refine bodyPost_ret (tr_read rfl (((((KZ.out.set_ 0 _).set_ 1 _).set_ 2 _).set_ 3 _).set_ 4 _)) rfl ?_
  exact ⟨rfl, below_set1 (below_set1 (below_set1 (below_set1 (below_set1 (BW.out) (by simp) _) (by simp) _) (by simp) _) (by simp) _) (by simp) _⟩
theorem told6_any (s : Nm) (a : HazO) (gN : Nat) (n : NamesM) (p : NaA) (w : World) (hb : Blk w gN 30 (naL n p)) (hr : Na w (· < w.heap.size) n p) (h1 : inB a.on_ (clW n a.stop) = true) :
    Calls Tryz.prog 118 #[.string ⟨s.toArray⟩, hoG a, .pointer (some ⟨gN, 0, none⟩)] w (fun e w' => e = .returned (haV (tHaz n s a)) ∧ Below w.heap.size w w') := by
  obtain ⟨h0, hl, hat⟩ := nm_at h1
  have hr2 : Rd w (· < w.heap.size) (clA p a.stop) (cs strC (clW n a.stop)) := by
    unfold clA clW; cases a.stop
    · exact hr.r2
    · exact hr.r1
  obtain ⟨ad, e, hS, c0, -⟩ := rd_at 1 (fun _ => rfl) (by omega) hr2 hat
  rw [Nat.mul_one] at c0
  have HN := HH hb
  have hg : gN < w.heap.size := hb.lt
  have HCL := HH (fun w' => clos_any n p a w')
  have ht : tHaz n s a = ⟨s, nm (clW n a.stop) a.on_, a.times⟩ := rfl
  rw [ht]
  clear ht
  rw [e] at HCL
  obtain ⟨x0, x1, ⟨x2, x3, x4⟩⟩ := a
  dsimp only at c0 h0 hl HCL ⊢
  have hblk : ad.block < w.heap.size := hS
  obtain ⟨k, rfl⟩ : ∃ k : Nat, x1 = (k : Int) := ⟨x1.toNat, by omega⟩
  rw [Int.toNat_natCast] at c0 hl
  have HC := HH c0
  have hlt : (k : Int) < ((clW n x0).length : Int) := by omega
  have hn0 : ¬ ((k : Int) < 0) := by omega
  clear hb hr hr2 h1 hat e hS h0 c0
  generalize nm (clW n x0) k = t at *
  generalize (clW n x0).length = m at *
  generalize clC p x0 = cc at *
  go_enter Tryz.func118, Tryz.ntmps118
  go_upto_region 1 with fail
  obtain ⟨W, hW⟩ : ∃ W, W = (w.alloc (.cells #[.bool x0, .int .i64 (k : Int), .int .i64 x2, .int .i64 x3, .int .i64 x4] 101)).alloc (.cells #[.string ⟨#[]⟩, .string ⟨#[]⟩, .int .i64 0, .int .i64 0, .int .i64 0] 125) := ⟨_, rfl⟩
  have HW0 : Hid (Below w.heap.size w W) := HH (by rw [hW]; exact two_box _ _ _)
  have K0 : Hid (Blk W w.heap.size 101 [.bool x0, .int .i64 (k : Int), .int .i64 x2, .int .i64 x3, .int .i64 x4]) := HH (by rw [hW]; exact ((Blk.new w _ _).alloc _))
  have K1 : Hid (Blk W (w.heap.size + 1) 125 [.string ⟨#[]⟩, .string ⟨#[]⟩, .int .i64 0, .int .i64 0, .int .i64 0]) := HH (by rw [hW]; exact Blk.new2 w _ _ _)
  have HNW := HH (HN.out.after HW0.out)
  have HCW : Hid (W.cell? (ad.add k) = some (.string ⟨t.toArray⟩)) := HH ((cell_keep (p := ad.add k) HW0.out (by rw [block_of_add]; exact hblk)).trans HC.out)
  have hbW : (ad.add k).block < W.heap.size := by rw [block_of_add]; exact Nat.lt_of_lt_of_le hblk HW0.out.size
  rw [← hW]
  clear hW
  have KC : Hid (∀ w', Below W.heap.size W w' → (w'.cell? ⟨w.heap.size, 0, none⟩ = some (.bool x0) ∧ w'.cell? ⟨w.heap.size, 1, none⟩ = some (.int .i64 (k : Int)) ∧ w'.cell? ⟨w.heap.size, 2, none⟩ = some (.int .i64 x2) ∧ w'.cell? ⟨w.heap.size, 3, none⟩ = some (.int .i64 x3) ∧ w'.cell? ⟨w.heap.size, 4, none⟩ = some (.int .i64 x4) ∧ w'.cell? ⟨gN, 0, none⟩ = some (.slice p.a1 n.stops.length p.c1) ∧ w'.cell? ⟨gN, 1, none⟩ = some (.slice p.a2 n.paths.length p.c2) ∧ w'.cell? ⟨gN, 2, none⟩ = some (.slice p.a3 n.doors.length p.c3) ∧ w'.cell? ⟨gN, 3, none⟩ = some (.slice p.a4 n.routes.length p.c4) ∧ w'.cell? ⟨gN, 4, none⟩ = some (.slice p.a5 n.trips.length p.c5) ∧ w'.cell? ⟨gN, 5, none⟩ = some (.slice p.a6 n.hazards.length p.c6) ∧ w'.cell? (ad.add k) = some (.string ⟨t.toArray⟩))) := by
    refine HH (fun w' hb => ?_)
    have a := K0.out.after hb
    have c := HNW.out.after hb
    exact ⟨a.cell 0, a.cell 1, a.cell 2, a.cell 3, a.cell 4, c.cell 0, c.cell 1, c.cell 2, c.cell 3, c.cell 4, c.cell 5, (cell_keep hb hbW).trans HCW.out⟩
  have KY : Hid (∀ w', Below W.heap.size W w' → w'.cell? ⟨w.heap.size + 1, 0, none⟩ = some (.string ⟨#[]⟩) ∧ w'.cell? ⟨w.heap.size + 1, 1, none⟩ = some (.string ⟨#[]⟩) ∧ w'.cell? ⟨w.heap.size + 1, 2, none⟩ = some (.int .i64 0) ∧ w'.cell? ⟨w.heap.size + 1, 3, none⟩ = some (.int .i64 0) ∧ w'.cell? ⟨w.heap.size + 1, 4, none⟩ = some (.int .i64 0) ∧ ∀ i, w'.frozen? ⟨w.heap.size + 1, i, none⟩ = false) := HH fun w' hb => by
    have b := K1.out.after hb
    exact ⟨b.cell 0, b.cell 1, b.cell 2, b.cell 3, b.cell 4, fun i => b.frozen i⟩
  have hgN : ¬ (gN = w.heap.size + 1) := by omega
  have hgN' : ¬ (w.heap.size + 1 = gN) := by omega
  have hgB : ¬ (ad.block = w.heap.size + 1) := by omega
  have hgB' : ¬ (w.heap.size + 1 = ad.block) := by omega
  have KD : Hid (∀ w' (v0 v1 v2 v3 v4 : Value), Below W.heap.size W w' → (((((w'.setCell ⟨w.heap.size + 1, 0, none⟩ v0).setCell ⟨w.heap.size + 1, 1, none⟩ v1).setCell ⟨w.heap.size + 1, 2, none⟩ v2).setCell ⟨w.heap.size + 1, 3, none⟩ v3).setCell ⟨w.heap.size + 1, 4, none⟩ v4).cell? (ad.add k) = some (.string ⟨t.toArray⟩)) := HH fun w' v0 v1 v2 v3 v4 hb => by
    rw [← HCW.out, ← cell_keep hb hbW]
    have hq : (ad.add k).block ≠ w.heap.size + 1 := by rw [block_of_add]; omega
    exact World.cell?_of_block ((Below.heap_setCell _ _ _ _ hq).trans ((Below.heap_setCell _ _ _ _ hq).trans ((Below.heap_setCell _ _ _ _ hq).trans ((Below.heap_setCell _ _ _ _ hq).trans (Below.heap_setCell _ _ _ _ hq)))))
  go_region_held3 (fun w' => w'.cell? ⟨w.heap.size, 0, none⟩ = some (.bool x0) ∧ w'.cell? ⟨w.heap.size, 1, none⟩ = some (.int .i64 (k : Int)) ∧ w'.cell? ⟨w.heap.size, 2, none⟩ = some (.int .i64 x2) ∧ w'.cell? ⟨w.heap.size, 3, none⟩ = some (.int .i64 x3) ∧ w'.cell? ⟨w.heap.size, 4, none⟩ = some (.int .i64 x4) ∧ w'.cell? ⟨gN, 0, none⟩ = some (.slice p.a1 n.stops.length p.c1) ∧ w'.cell? ⟨gN, 1, none⟩ = some (.slice p.a2 n.paths.length p.c2) ∧ w'.cell? ⟨gN, 2, none⟩ = some (.slice p.a3 n.doors.length p.c3) ∧ w'.cell? ⟨gN, 3, none⟩ = some (.slice p.a4 n.routes.length p.c4) ∧ w'.cell? ⟨gN, 4, none⟩ = some (.slice p.a5 n.trips.length p.c5) ∧ w'.cell? ⟨gN, 5, none⟩ = some (.slice p.a6 n.hazards.length p.c6) ∧ w'.cell? (ad.add k) = some (.string ⟨t.toArray⟩)) (first | exact KC.out _ Q1.out | exact KC.out _ (below_drew (Below.refl _ _)) | (have kd := KD.out _ (.string ⟨s.toArray⟩) (.string ⟨t.toArray⟩) (.int .i64 x2) (.int .i64 x3) (.int .i64 x4) Q1.out; go_keep) | go_keep) (first
    | (go_at_call 105; (with_reducible refine (HCL.out _).mono ?_); rintro e' w1 ⟨rfl, hb⟩; have Q1 : Hid (Below W.heap.size W w1) := HH (keep_trans (below_drew (Below.refl _ W)) hb); obtain ⟨u0, u1, u2, u3, u4, u5, u6, u7, u8, u9, ua, ub⟩ := KC.out _ Q1.out; obtain ⟨y0, y1, y2, y3, y4, yf⟩ := KY.out _ Q1.out; clear hb)
    | fail)
  have KZ := HH (K1.out.after Q1.out)
  have hz := K1.out.lt
  have z1 := Q1.out.size
  go_wp2
  refine bodyPost_ret (ha_read rfl (((((KZ.out.set_ 0 _).set_ 1 _).set_ 2 _).set_ 3 _).set_ 4 _)) rfl ?_
  exact ⟨rfl, below_set1 (below_set1 (below_set1 (below_set1 (below_set1 (keep_trans HW0.out Q1.out) (by simp) _) (by simp) _) (by simp) _) (by simp) _) (by simp) _⟩
end Go.Proofs.YtfefnfifeaihhaaGreat.Wo
