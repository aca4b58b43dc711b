/- The maker while its things are checked: its world's rows are its own. No conditions. -/
import Derived.Test.YtfefnfifeaihhaaGreatWoWay
set_option linter.unusedVariables false
set_option linter.unusedSimpArgs false
set_option maxHeartbeats 1000000
namespace Go.Proofs.YtfefnfifeaihhaaGreat.Wo
open Go.ChangeShapes Go.WideShapes Go.ChangeAt Go.RowKit Go.Maps
open Lx Sh It
structure Ms (w : World) (B M T : Nat) (X : Nat → Prop) (x : SheetM) (p : ShA) (tA : Option Addr) (tn tc : Nat) (nv : List Value) (wd : WorldM) (v2 v3 v4 v5 v6 : Value) : Prop where
  blk : Blk w M 177 (mkL T tA tn tc x p ++ (nv ++ [v2, v3, v4, v5, v6]))
  hnv : nv.length = 7
  hM : M < B
  hB : B ≤ w.heap.size
  tab : TabAt w X T (namesX x).flat
  hX : ∀ k, X k → k < B ∧ k ≠ M
  htn : tn = (thingsN (namesX x)).length
  th : Rd w (fun b => b < B ∧ b ≠ M) tA (cs thC (thingsN (namesX x)))
  sh : Sh w (fun b => b < B ∧ b ≠ M) x p
  r2 : w.ownsRow B 92 3 v2 wd.paths.length (cs poC wd.paths)
  r3 : w.ownsRow B 97 6 v3 wd.doors.length (cs dooC wd.doors)
  r4 : ∃ c, w.ownsRow B 59 3 v4 wd.routes.length c ∧ Rtos w (Away w (B - 1) [v2, v3, v4, v5, v6]) wd.routes c
  r5 : w.ownsRow B 56 4 v5 wd.trips.length (cs toC wd.trips)
  r6 : w.ownsRow B 101 5 v6 wd.hazards.length (cs hoC wd.hazards)
section
variable {w w' wA w6 : World} {B M T : Nat} {X : Nat → Prop} {x : SheetM} {p : ShA} {tA : Option Addr} {tn tc : Nat} {nv : List Value} {wd : WorldM} {v2 v3 v4 v5 v6 v' : Value}
theorem Ms.mk_ (h : Ms w B M T X x p tA tn tc nv wd v2 v3 v4 v5 v6) : Mk w M T X x p tA tn tc :=
  ⟨⟨_, h.blk⟩, h.tab, h.htn, h.th.more fun b hb => by have := h.hB; omega, h.sh.more fun b hb => by have := h.hB; omega⟩
theorem Ms.lt (h : Ms w B M T X x p tA tn tc nv wd v2 v3 v4 v5 v6) : M < w.heap.size := by have := h.hM; have := h.hB; omega
theorem Ms.after (h : Ms w B M T X x p tA tn tc nv wd v2 v3 v4 v5 v6) (hb : Below w.heap.size w w') : Ms w' B M T X x p tA tn tc nv wd v2 v3 v4 v5 v6 := by
  have hB := h.hB
  obtain ⟨c, h4, h4'⟩ := h.r4
  exact ⟨h.blk.after hb, h.hnv, h.hM, Nat.le_trans h.hB hb.size, h.tab.after hb, h.hX, h.htn, h.th.keep fun b hk => hb.block b (by omega), h.sh.keep fun b hk => hb.block b (by omega), own_after h.r2 hb, own_after h.r3 hb, ⟨c, own_after h4 hb, (h4'.keep fun b hk => hb.block b hk.2.1).more fun b hk => hk.on hb.size fun _ h => .inl h⟩, own_after h.r5 hb, own_after h.r6 hb⟩
theorem Ms.cell (h : Ms w B M T X x p tA tn tc nv wd v2 v3 v4 v5 v6) (i : Nat) (hi : i < 9) : w.cell? ⟨M, i, none⟩ = (mkL T tA tn tc x p)[i]? := h.mk_.cell i hi
theorem Ms.row (h : Ms w B M T X x p tA tn tc nv wd v2 v3 v4 v5 v6) (i : Nat) (hi : i < 5) : w.cell? ⟨M, i + 16, none⟩ = [v2, v3, v4, v5, v6][i]? := by
  have e : (mkL T tA tn tc x p).length = 9 := rfl
  have hn := h.hnv
  rw [h.blk.cell, List.getElem?_append_right (by omega), List.getElem?_append_right (by omega)]
  congr 1
  omega
/-- all of the maker's but one row's blocks and the maker's cells -/
theorem Ms.six (h : Ms w B M T X x p tA tn tc nv wd v2 v3 v4 v5 v6) (hb : Below w.heap.size w wA) {v : Value} (hv : v ∈ [v2, v3, v4, v5, v6]) (hg : wA.grownBy w6 v.ownBlock) : Blk w6 M 177 (mkL T tA tn tc x p ++ (nv ++ [v2, v3, v4, v5, v6])) ∧ (∀ k, v.ownBlock = some k → B ≤ k) := by
  have hB : ∀ k, v.ownBlock = some k → B ≤ k := by
    intro k hk
    obtain ⟨c, h4, -⟩ := h.r4
    simp only [List.mem_cons, List.not_mem_nil, or_false] at hv
    rcases hv with rfl | rfl | rfl | rfl | rfl
    · exact (h.r2.lt k hk).1
    · exact (h.r3.lt k hk).1
    · exact (h4.lt k hk).1
    · exact (h.r5.lt k hk).1
    · exact (h.r6.lt k hk).1
  refine ⟨(h.blk.after hb).grown hg fun e => ?_, hB⟩
  have := hB M e.symm
  have := h.hM
  omega
theorem Ms.add2 (h : Ms w B M T X x p tA tn tc nv wd v2 v3 v4 v5 v6) (hb : Below w.heap.size w wA) {q : PathO} (ho : w6.ownsRow B 92 3 v' (wd.paths.length + 1) (cs poC wd.paths ++ poC q)) (hg : wA.grownBy w6 v2.ownBlock) (hor : v'.ownBlock = v2.ownBlock ∨ v'.ownBlock = some wA.heap.size) :
    Ms (w6.setCell ⟨M, 16, none⟩ v') B M T X x p tA tn tc nv { wd with paths := wd.paths ++ [q] } v' v3 v4 v5 v6 ∧ Ch (fun k => k = M ∨ B ≤ k) w (w6.setCell ⟨M, 16, none⟩ v') := by
  have hA := h.after hb
  obtain ⟨c4, h4, h4'⟩ := hA.r4
  obtain ⟨k6, hB⟩ := h.six hb (v := v2) (by simp) hg
  have c1 : Ch (fun k => some k = v2.ownBlock) wA w6 := Ch.of_grown (X := fun k => some k = v2.ownBlock) hg fun k e => e
  have c2 : Ch (fun k => k = M ∨ some k = v2.ownBlock) wA (w6.setCell ⟨M, 16, none⟩ v') := (c1.mono fun k _ h => .inr h).setCell (p := ⟨M, 16, none⟩) (.inl (.inl rfl)) v'
  have hlow : ∀ k, k < B → k ≠ M → ¬ (k = M ∨ some k = v2.ownBlock) := fun k hk hkM hx => hx.elim hkM fun e => by have := hB k e.symm; omega
  have hBA := hA.hB
  have hMB := h.hM
  have hnv := h.hnv
  have HV : ∀ u ∈ [v', v3, v4, v5, v6], u ∈ [v2, v3, v4, v5, v6] ∨ ∃ v ∈ [v2, v3, v4, v5, v6], u.ownBlock = v.ownBlock ∨ ∃ k, u.ownBlock = some k ∧ wA.heap.size ≤ k := by
    intro u hu
    simp only [List.mem_cons, List.not_mem_nil, or_false] at hu
    rcases hu with rfl | rfl | rfl | rfl | rfl
    · exact .inr ⟨v2, by simp, hor.imp id fun e => ⟨_, e, Nat.le_refl _⟩⟩
    · exact .inl (by simp)
    · exact .inl (by simp)
    · exact .inl (by simp)
    · exact .inl (by simp)
  have RN : (w6.setCell ⟨M, 16, none⟩ v').ownsRow B 92 3 v' ({ wd with paths := wd.paths ++ [q] } : WorldM).paths.length (cs poC (wd.paths ++ [q])) := by
    rw [show cs poC (wd.paths ++ [q]) = cs poC wd.paths ++ poC q by simp [cs]]
    have hl : ({ wd with paths := wd.paths ++ [q] } : WorldM).paths.length = wd.paths.length + 1 := by simp
    rw [hl]
    exact (ch_set w6 M 16 v').own ho fun b hbk e => by have := (ho.lt b hbk).1; omega
  have hblk : Blk (w6.setCell ⟨M, 16, none⟩ v') M 177 (mkL T tA tn tc x p ++ (nv ++ [v', v3, v4, v5, v6])) := by
    have := k6.set_ 16 v'
    rw [List.set_append_right _ _ (by simp [mkL]), List.set_append_right _ _ (by simp [mkL, hnv])] at this
    simpa [mkL, hnv] using this
  refine ⟨⟨hblk, h.hnv, h.hM, Nat.le_trans hBA c2.size, ?_, h.hX, h.htn, ?_, ?_, RN, c2.own hA.r3 (fun b hbk hx => hx.elim (fun e => by have := (hA.r3.lt b hbk).1; omega) (fun e => own_ne (hA.r3) (hA.r2) (by decide) b hbk e.symm)), ⟨c4, c2.own h4 (fun b hbk hx => hx.elim (fun e => by have := (h4.lt b hbk).1; omega) (fun e => own_ne (h4) (hA.r2) (by decide) b hbk e.symm)), (h4'.keep fun b hk => c2.block b hk.2.1 fun hx => hx.elim (fun e => by have := hk.1; omega) (fun e => hk.2.2 v2 (by simp) e.symm)).more fun b hk => hk.on c2.size HV⟩, c2.own hA.r5 (fun b hbk hx => hx.elim (fun e => by have := (hA.r5.lt b hbk).1; omega) (fun e => own_ne (hA.r5) (hA.r2) (by decide) b hbk e.symm)), c2.own hA.r6 (fun b hbk hx => hx.elim (fun e => by have := (hA.r6.lt b hbk).1; omega) (fun e => own_ne (hA.r6) (hA.r2) (by decide) b hbk e.symm))⟩, ?_⟩
  · exact hA.tab.far c2 fun k hk => hlow k (h.hX k hk).1 (h.hX k hk).2
  · exact hA.th.keep fun b hk => c2.block b (by omega) (hlow b hk.1 hk.2)
  · exact hA.sh.keep fun b hk => c2.block b (by omega) (hlow b hk.1 hk.2)
  · exact (Ch.of_below hb).trans' c2 (fun i _ hx => hx.imp id fun e => hB i e.symm)
theorem Ms.add3 (h : Ms w B M T X x p tA tn tc nv wd v2 v3 v4 v5 v6) (hb : Below w.heap.size w wA) {q : DoorO} (ho : w6.ownsRow B 97 6 v' (wd.doors.length + 1) (cs dooC wd.doors ++ dooC q)) (hg : wA.grownBy w6 v3.ownBlock) (hor : v'.ownBlock = v3.ownBlock ∨ v'.ownBlock = some wA.heap.size) :
    Ms (w6.setCell ⟨M, 17, none⟩ v') B M T X x p tA tn tc nv { wd with doors := wd.doors ++ [q] } v2 v' v4 v5 v6 ∧ Ch (fun k => k = M ∨ B ≤ k) w (w6.setCell ⟨M, 17, none⟩ v') := by
  have hA := h.after hb
  obtain ⟨c4, h4, h4'⟩ := hA.r4
  obtain ⟨k6, hB⟩ := h.six hb (v := v3) (by simp) hg
  have c1 : Ch (fun k => some k = v3.ownBlock) wA w6 := Ch.of_grown (X := fun k => some k = v3.ownBlock) hg fun k e => e
  have c2 : Ch (fun k => k = M ∨ some k = v3.ownBlock) wA (w6.setCell ⟨M, 17, none⟩ v') := (c1.mono fun k _ h => .inr h).setCell (p := ⟨M, 17, none⟩) (.inl (.inl rfl)) v'
  have hlow : ∀ k, k < B → k ≠ M → ¬ (k = M ∨ some k = v3.ownBlock) := fun k hk hkM hx => hx.elim hkM fun e => by have := hB k e.symm; omega
  have hBA := hA.hB
  have hMB := h.hM
  have hnv := h.hnv
  have HV : ∀ u ∈ [v2, v', v4, v5, v6], u ∈ [v2, v3, v4, v5, v6] ∨ ∃ v ∈ [v2, v3, v4, v5, v6], u.ownBlock = v.ownBlock ∨ ∃ k, u.ownBlock = some k ∧ wA.heap.size ≤ k := by
    intro u hu
    simp only [List.mem_cons, List.not_mem_nil, or_false] at hu
    rcases hu with rfl | rfl | rfl | rfl | rfl
    · exact .inl (by simp)
    · exact .inr ⟨v3, by simp, hor.imp id fun e => ⟨_, e, Nat.le_refl _⟩⟩
    · exact .inl (by simp)
    · exact .inl (by simp)
    · exact .inl (by simp)
  have RN : (w6.setCell ⟨M, 17, none⟩ v').ownsRow B 97 6 v' ({ wd with doors := wd.doors ++ [q] } : WorldM).doors.length (cs dooC (wd.doors ++ [q])) := by
    rw [show cs dooC (wd.doors ++ [q]) = cs dooC wd.doors ++ dooC q by simp [cs]]
    have hl : ({ wd with doors := wd.doors ++ [q] } : WorldM).doors.length = wd.doors.length + 1 := by simp
    rw [hl]
    exact (ch_set w6 M 17 v').own ho fun b hbk e => by have := (ho.lt b hbk).1; omega
  have hblk : Blk (w6.setCell ⟨M, 17, none⟩ v') M 177 (mkL T tA tn tc x p ++ (nv ++ [v2, v', v4, v5, v6])) := by
    have := k6.set_ 17 v'
    rw [List.set_append_right _ _ (by simp [mkL]), List.set_append_right _ _ (by simp [mkL, hnv])] at this
    simpa [mkL, hnv] using this
  refine ⟨⟨hblk, h.hnv, h.hM, Nat.le_trans hBA c2.size, ?_, h.hX, h.htn, ?_, ?_, c2.own hA.r2 (fun b hbk hx => hx.elim (fun e => by have := (hA.r2.lt b hbk).1; omega) (fun e => own_ne (hA.r2) (hA.r3) (by decide) b hbk e.symm)), RN, ⟨c4, c2.own h4 (fun b hbk hx => hx.elim (fun e => by have := (h4.lt b hbk).1; omega) (fun e => own_ne (h4) (hA.r3) (by decide) b hbk e.symm)), (h4'.keep fun b hk => c2.block b hk.2.1 fun hx => hx.elim (fun e => by have := hk.1; omega) (fun e => hk.2.2 v3 (by simp) e.symm)).more fun b hk => hk.on c2.size HV⟩, c2.own hA.r5 (fun b hbk hx => hx.elim (fun e => by have := (hA.r5.lt b hbk).1; omega) (fun e => own_ne (hA.r5) (hA.r3) (by decide) b hbk e.symm)), c2.own hA.r6 (fun b hbk hx => hx.elim (fun e => by have := (hA.r6.lt b hbk).1; omega) (fun e => own_ne (hA.r6) (hA.r3) (by decide) b hbk e.symm))⟩, ?_⟩
  · exact hA.tab.far c2 fun k hk => hlow k (h.hX k hk).1 (h.hX k hk).2
  · exact hA.th.keep fun b hk => c2.block b (by omega) (hlow b hk.1 hk.2)
  · exact hA.sh.keep fun b hk => c2.block b (by omega) (hlow b hk.1 hk.2)
  · exact (Ch.of_below hb).trans' c2 (fun i _ hx => hx.imp id fun e => hB i e.symm)
theorem Ms.add4 (h : Ms w B M T X x p tA tn tc nv wd v2 v3 v4 v5 v6) (hb : Below w.heap.size w wA) {q : RouteO} (c : List Value) (hc : wA.ownsRow B 59 3 v4 wd.routes.length c) (hcr : Rtos wA (Away wA (B - 1) [v2, v3, v4, v5, v6]) wd.routes c) (d : List Value) (ho : w6.ownsRow B 59 3 v' (wd.routes.length + 1) (c ++ d)) (hd : Rtos wA (fun b => w.heap.size ≤ b ∧ b < wA.heap.size) [q] d) (hg : wA.grownBy w6 v4.ownBlock) (hor : v'.ownBlock = v4.ownBlock ∨ v'.ownBlock = some wA.heap.size) :
    Ms (w6.setCell ⟨M, 18, none⟩ v') B M T X x p tA tn tc nv { wd with routes := wd.routes ++ [q] } v2 v3 v' v5 v6 ∧ Ch (fun k => k = M ∨ B ≤ k) w (w6.setCell ⟨M, 18, none⟩ v') := by
  have hA := h.after hb
  obtain ⟨c4, h4, h4'⟩ := hA.r4
  obtain ⟨k6, hB⟩ := h.six hb (v := v4) (by simp) hg
  have c1 : Ch (fun k => some k = v4.ownBlock) wA w6 := Ch.of_grown (X := fun k => some k = v4.ownBlock) hg fun k e => e
  have c2 : Ch (fun k => k = M ∨ some k = v4.ownBlock) wA (w6.setCell ⟨M, 18, none⟩ v') := (c1.mono fun k _ h => .inr h).setCell (p := ⟨M, 18, none⟩) (.inl (.inl rfl)) v'
  have hlow : ∀ k, k < B → k ≠ M → ¬ (k = M ∨ some k = v4.ownBlock) := fun k hk hkM hx => hx.elim hkM fun e => by have := hB k e.symm; omega
  have hBA := hA.hB
  have hMB := h.hM
  have hnv := h.hnv
  have HV : ∀ u ∈ [v2, v3, v', v5, v6], u ∈ [v2, v3, v4, v5, v6] ∨ ∃ v ∈ [v2, v3, v4, v5, v6], u.ownBlock = v.ownBlock ∨ ∃ k, u.ownBlock = some k ∧ wA.heap.size ≤ k := by
    intro u hu
    simp only [List.mem_cons, List.not_mem_nil, or_false] at hu
    rcases hu with rfl | rfl | rfl | rfl | rfl
    · exact .inl (by simp)
    · exact .inl (by simp)
    · exact .inr ⟨v4, by simp, hor.imp id fun e => ⟨_, e, Nat.le_refl _⟩⟩
    · exact .inl (by simp)
    · exact .inl (by simp)
  have own4 := h.r4.choose_spec.1
  have RN : (w6.setCell ⟨M, 18, none⟩ v').ownsRow B 59 3 v' ({ wd with routes := wd.routes ++ [q] } : WorldM).routes.length (c ++ d) := by
    have hl : ({ wd with routes := wd.routes ++ [q] } : WorldM).routes.length = wd.routes.length + 1 := by simp
    rw [hl]
    exact (ch_set w6 M 18 v').own ho fun b hbk e => by have := (ho.lt b hbk).1; omega
  have AWN : ∀ b, w.heap.size ≤ b ∧ b < wA.heap.size → Away (w6.setCell ⟨M, 18, none⟩ v') (B - 1) [v2, v3, v', v5, v6] b := by
    intro b hb2
    have hlt := h.lt
    have hBw := h.hB
    refine ⟨by omega, Nat.lt_of_lt_of_le hb2.2 c2.size, fun v hv e => ?_⟩
    simp only [List.mem_cons, List.not_mem_nil, or_false] at hv
    rcases hv with rfl | rfl | rfl | rfl | rfl
    · have := (h.r2.lt b e).2; omega
    · have := (h.r3.lt b e).2; omega
    · rcases hor with h0 | h0
      · rw [h0] at e; have := (own4.lt b e).2; omega
      · rw [h0] at e; injection e with e; omega
    · have := (h.r5.lt b e).2; omega
    · have := (h.r6.lt b e).2; omega
  have hblk : Blk (w6.setCell ⟨M, 18, none⟩ v') M 177 (mkL T tA tn tc x p ++ (nv ++ [v2, v3, v', v5, v6])) := by
    have := k6.set_ 18 v'
    rw [List.set_append_right _ _ (by simp [mkL]), List.set_append_right _ _ (by simp [mkL, hnv])] at this
    simpa [mkL, hnv] using this
  refine ⟨⟨hblk, h.hnv, h.hM, Nat.le_trans hBA c2.size, ?_, h.hX, h.htn, ?_, ?_, c2.own hA.r2 (fun b hbk hx => hx.elim (fun e => by have := (hA.r2.lt b hbk).1; omega) (fun e => own_ne (hA.r2) (h4) (by decide) b hbk e.symm)), c2.own hA.r3 (fun b hbk hx => hx.elim (fun e => by have := (hA.r3.lt b hbk).1; omega) (fun e => own_ne (hA.r3) (h4) (by decide) b hbk e.symm)), ⟨c ++ d, RN, Rtos.snoc ((hd.keep fun b hk => c2.block b hk.2 fun hx => hx.elim (fun e => by have := h.lt; omega) (fun e => by have := (h4.lt b e.symm).2; have := (own4.lt b e.symm).2; omega)).more AWN) ((hcr.keep fun b hk => c2.block b hk.2.1 fun hx => hx.elim (fun e => by have := hk.1; omega) (fun e => hk.2.2 v4 (by simp) e.symm)).more fun b hk => hk.on c2.size HV)⟩, c2.own hA.r5 (fun b hbk hx => hx.elim (fun e => by have := (hA.r5.lt b hbk).1; omega) (fun e => own_ne (hA.r5) (h4) (by decide) b hbk e.symm)), c2.own hA.r6 (fun b hbk hx => hx.elim (fun e => by have := (hA.r6.lt b hbk).1; omega) (fun e => own_ne (hA.r6) (h4) (by decide) b hbk e.symm))⟩, ?_⟩
  · exact hA.tab.far c2 fun k hk => hlow k (h.hX k hk).1 (h.hX k hk).2
  · exact hA.th.keep fun b hk => c2.block b (by omega) (hlow b hk.1 hk.2)
  · exact hA.sh.keep fun b hk => c2.block b (by omega) (hlow b hk.1 hk.2)
  · exact (Ch.of_below hb).trans' c2 (fun i _ hx => hx.imp id fun e => hB i e.symm)
theorem Ms.add5 (h : Ms w B M T X x p tA tn tc nv wd v2 v3 v4 v5 v6) (hb : Below w.heap.size w wA) {q : TripO} (ho : w6.ownsRow B 56 4 v' (wd.trips.length + 1) (cs toC wd.trips ++ toC q)) (hg : wA.grownBy w6 v5.ownBlock) (hor : v'.ownBlock = v5.ownBlock ∨ v'.ownBlock = some wA.heap.size) :
    Ms (w6.setCell ⟨M, 19, none⟩ v') B M T X x p tA tn tc nv { wd with trips := wd.trips ++ [q] } v2 v3 v4 v' v6 ∧ Ch (fun k => k = M ∨ B ≤ k) w (w6.setCell ⟨M, 19, none⟩ v') := by
  have hA := h.after hb
  obtain ⟨c4, h4, h4'⟩ := hA.r4
  obtain ⟨k6, hB⟩ := h.six hb (v := v5) (by simp) hg
  have c1 : Ch (fun k => some k = v5.ownBlock) wA w6 := Ch.of_grown (X := fun k => some k = v5.ownBlock) hg fun k e => e
  have c2 : Ch (fun k => k = M ∨ some k = v5.ownBlock) wA (w6.setCell ⟨M, 19, none⟩ v') := (c1.mono fun k _ h => .inr h).setCell (p := ⟨M, 19, none⟩) (.inl (.inl rfl)) v'
  have hlow : ∀ k, k < B → k ≠ M → ¬ (k = M ∨ some k = v5.ownBlock) := fun k hk hkM hx => hx.elim hkM fun e => by have := hB k e.symm; omega
  have hBA := hA.hB
  have hMB := h.hM
  have hnv := h.hnv
  have HV : ∀ u ∈ [v2, v3, v4, v', v6], u ∈ [v2, v3, v4, v5, v6] ∨ ∃ v ∈ [v2, v3, v4, v5, v6], u.ownBlock = v.ownBlock ∨ ∃ k, u.ownBlock = some k ∧ wA.heap.size ≤ k := by
    intro u hu
    simp only [List.mem_cons, List.not_mem_nil, or_false] at hu
    rcases hu with rfl | rfl | rfl | rfl | rfl
    · exact .inl (by simp)
    · exact .inl (by simp)
    · exact .inl (by simp)
    · exact .inr ⟨v5, by simp, hor.imp id fun e => ⟨_, e, Nat.le_refl _⟩⟩
    · exact .inl (by simp)
  have RN : (w6.setCell ⟨M, 19, none⟩ v').ownsRow B 56 4 v' ({ wd with trips := wd.trips ++ [q] } : WorldM).trips.length (cs toC (wd.trips ++ [q])) := by
    rw [show cs toC (wd.trips ++ [q]) = cs toC wd.trips ++ toC q by simp [cs]]
    have hl : ({ wd with trips := wd.trips ++ [q] } : WorldM).trips.length = wd.trips.length + 1 := by simp
    rw [hl]
    exact (ch_set w6 M 19 v').own ho fun b hbk e => by have := (ho.lt b hbk).1; omega
  have hblk : Blk (w6.setCell ⟨M, 19, none⟩ v') M 177 (mkL T tA tn tc x p ++ (nv ++ [v2, v3, v4, v', v6])) := by
    have := k6.set_ 19 v'
    rw [List.set_append_right _ _ (by simp [mkL]), List.set_append_right _ _ (by simp [mkL, hnv])] at this
    simpa [mkL, hnv] using this
  refine ⟨⟨hblk, h.hnv, h.hM, Nat.le_trans hBA c2.size, ?_, h.hX, h.htn, ?_, ?_, c2.own hA.r2 (fun b hbk hx => hx.elim (fun e => by have := (hA.r2.lt b hbk).1; omega) (fun e => own_ne (hA.r2) (hA.r5) (by decide) b hbk e.symm)), c2.own hA.r3 (fun b hbk hx => hx.elim (fun e => by have := (hA.r3.lt b hbk).1; omega) (fun e => own_ne (hA.r3) (hA.r5) (by decide) b hbk e.symm)), ⟨c4, c2.own h4 (fun b hbk hx => hx.elim (fun e => by have := (h4.lt b hbk).1; omega) (fun e => own_ne (h4) (hA.r5) (by decide) b hbk e.symm)), (h4'.keep fun b hk => c2.block b hk.2.1 fun hx => hx.elim (fun e => by have := hk.1; omega) (fun e => hk.2.2 v5 (by simp) e.symm)).more fun b hk => hk.on c2.size HV⟩, RN, c2.own hA.r6 (fun b hbk hx => hx.elim (fun e => by have := (hA.r6.lt b hbk).1; omega) (fun e => own_ne (hA.r6) (hA.r5) (by decide) b hbk e.symm))⟩, ?_⟩
  · exact hA.tab.far c2 fun k hk => hlow k (h.hX k hk).1 (h.hX k hk).2
  · exact hA.th.keep fun b hk => c2.block b (by omega) (hlow b hk.1 hk.2)
  · exact hA.sh.keep fun b hk => c2.block b (by omega) (hlow b hk.1 hk.2)
  · exact (Ch.of_below hb).trans' c2 (fun i _ hx => hx.imp id fun e => hB i e.symm)
theorem Ms.add6 (h : Ms w B M T X x p tA tn tc nv wd v2 v3 v4 v5 v6) (hb : Below w.heap.size w wA) {q : HazO} (ho : w6.ownsRow B 101 5 v' (wd.hazards.length + 1) (cs hoC wd.hazards ++ hoC q)) (hg : wA.grownBy w6 v6.ownBlock) (hor : v'.ownBlock = v6.ownBlock ∨ v'.ownBlock = some wA.heap.size) :
    Ms (w6.setCell ⟨M, 20, none⟩ v') B M T X x p tA tn tc nv { wd with hazards := wd.hazards ++ [q] } v2 v3 v4 v5 v' ∧ Ch (fun k => k = M ∨ B ≤ k) w (w6.setCell ⟨M, 20, none⟩ v') := by
  have hA := h.after hb
  obtain ⟨c4, h4, h4'⟩ := hA.r4
  obtain ⟨k6, hB⟩ := h.six hb (v := v6) (by simp) hg
  have c1 : Ch (fun k => some k = v6.ownBlock) wA w6 := Ch.of_grown (X := fun k => some k = v6.ownBlock) hg fun k e => e
  have c2 : Ch (fun k => k = M ∨ some k = v6.ownBlock) wA (w6.setCell ⟨M, 20, none⟩ v') := (c1.mono fun k _ h => .inr h).setCell (p := ⟨M, 20, none⟩) (.inl (.inl rfl)) v'
  have hlow : ∀ k, k < B → k ≠ M → ¬ (k = M ∨ some k = v6.ownBlock) := fun k hk hkM hx => hx.elim hkM fun e => by have := hB k e.symm; omega
  have hBA := hA.hB
  have hMB := h.hM
  have hnv := h.hnv
  have HV : ∀ u ∈ [v2, v3, v4, v5, v'], u ∈ [v2, v3, v4, v5, v6] ∨ ∃ v ∈ [v2, v3, v4, v5, v6], u.ownBlock = v.ownBlock ∨ ∃ k, u.ownBlock = some k ∧ wA.heap.size ≤ k := by
    intro u hu
    simp only [List.mem_cons, List.not_mem_nil, or_false] at hu
    rcases hu with rfl | rfl | rfl | rfl | rfl
    · exact .inl (by simp)
    · exact .inl (by simp)
    · exact .inl (by simp)
    · exact .inl (by simp)
    · exact .inr ⟨v6, by simp, hor.imp id fun e => ⟨_, e, Nat.le_refl _⟩⟩
  have RN : (w6.setCell ⟨M, 20, none⟩ v').ownsRow B 101 5 v' ({ wd with hazards := wd.hazards ++ [q] } : WorldM).hazards.length (cs hoC (wd.hazards ++ [q])) := by
    rw [show cs hoC (wd.hazards ++ [q]) = cs hoC wd.hazards ++ hoC q by simp [cs]]
    have hl : ({ wd with hazards := wd.hazards ++ [q] } : WorldM).hazards.length = wd.hazards.length + 1 := by simp
    rw [hl]
    exact (ch_set w6 M 20 v').own ho fun b hbk e => by have := (ho.lt b hbk).1; omega
  have hblk : Blk (w6.setCell ⟨M, 20, none⟩ v') M 177 (mkL T tA tn tc x p ++ (nv ++ [v2, v3, v4, v5, v'])) := by
    have := k6.set_ 20 v'
    rw [List.set_append_right _ _ (by simp [mkL]), List.set_append_right _ _ (by simp [mkL, hnv])] at this
    simpa [mkL, hnv] using this
  refine ⟨⟨hblk, h.hnv, h.hM, Nat.le_trans hBA c2.size, ?_, h.hX, h.htn, ?_, ?_, c2.own hA.r2 (fun b hbk hx => hx.elim (fun e => by have := (hA.r2.lt b hbk).1; omega) (fun e => own_ne (hA.r2) (hA.r6) (by decide) b hbk e.symm)), c2.own hA.r3 (fun b hbk hx => hx.elim (fun e => by have := (hA.r3.lt b hbk).1; omega) (fun e => own_ne (hA.r3) (hA.r6) (by decide) b hbk e.symm)), ⟨c4, c2.own h4 (fun b hbk hx => hx.elim (fun e => by have := (h4.lt b hbk).1; omega) (fun e => own_ne (h4) (hA.r6) (by decide) b hbk e.symm)), (h4'.keep fun b hk => c2.block b hk.2.1 fun hx => hx.elim (fun e => by have := hk.1; omega) (fun e => hk.2.2 v6 (by simp) e.symm)).more fun b hk => hk.on c2.size HV⟩, c2.own hA.r5 (fun b hbk hx => hx.elim (fun e => by have := (hA.r5.lt b hbk).1; omega) (fun e => own_ne (hA.r5) (hA.r6) (by decide) b hbk e.symm)), RN⟩, ?_⟩
  · exact hA.tab.far c2 fun k hk => hlow k (h.hX k hk).1 (h.hX k hk).2
  · exact hA.th.keep fun b hk => c2.block b (by omega) (hlow b hk.1 hk.2)
  · exact hA.sh.keep fun b hk => c2.block b (by omega) (hlow b hk.1 hk.2)
  · exact (Ch.of_below hb).trans' c2 (fun i _ hx => hx.imp id fun e => hB i e.symm)
/-- what is left when all is checked -/
structure Fin9 (w : World) (B M : Nat) (nv : List Value) (wd : WorldM) (v2 v3 v4 v5 v6 : Value) : Prop where
  blk : ∃ L : List Value, L.length = 9 ∧ Blk w M 177 (L ++ (nv ++ [v2, v3, v4, v5, v6]))
  hnv : nv.length = 7
  r2 : w.ownsRow B 92 3 v2 wd.paths.length (cs poC wd.paths)
  r3 : w.ownsRow B 97 6 v3 wd.doors.length (cs dooC wd.doors)
  r4 : ∃ c, w.ownsRow B 59 3 v4 wd.routes.length c ∧ Rtos w (fun b => B ≤ b ∧ b < w.heap.size) wd.routes c
  r5 : w.ownsRow B 56 4 v5 wd.trips.length (cs toC wd.trips)
  r6 : w.ownsRow B 101 5 v6 wd.hazards.length (cs hoC wd.hazards)
theorem Ms.fin (h : Ms w B M T X x p tA tn tc nv wd v2 v3 v4 v5 v6) {g : Nat} (hc : Ch (· = g) w w') (hg : g < B) (hgM : g ≠ M) : Fin9 w' B M nv wd v2 v3 v4 v5 v6 := by
  obtain ⟨c, h4, h4'⟩ := h.r4
  have hM := h.hM
  exact ⟨⟨_, rfl, hc.blk h.blk fun e => hgM e.symm⟩, h.hnv, hc.own h.r2 fun k hk e => by have := (h.r2.lt k hk).1; omega, hc.own h.r3 fun k hk e => by have := (h.r3.lt k hk).1; omega, ⟨c, hc.own h4 fun k hk e => by have := (h4.lt k hk).1; omega, (h4'.keep fun b hb => hc.block b hb.2.1 fun e => by have := hb.1; omega).more fun b hb => ⟨by have := hb.1; omega, Nat.lt_of_lt_of_le hb.2.1 hc.size⟩⟩, hc.own h.r5 fun k hk e => by have := (h.r5.lt k hk).1; omega, hc.own h.r6 fun k hk e => by have := (h.r6.lt k hk).1; omega⟩
end
end Go.Proofs.YtfefnfifeaihhaaGreat.Wo
