/- A sheet that is wanted, as it lies while rows are appended. Conditions: none. -/
import Derived.Test.YteonmabfhilcfaaGreatDoorKitOwnT
namespace Go.Proofs.YteonmabfhilcfaaGreatDoor.Sh
open Go.ChangeShapes Go.WideShapes Go.ChangeAt Go.RowKit
open Lx
set_option linter.unusedVariables false
set_option linter.unusedSimpArgs false
/-- the sheet that is wanted: rows of its own, in the box g -/
structure WJ (w0 W : World) (B g : Nat) (x y : SheetM) (p q : ShA) (SA : Nat → Prop) (cx cy : List Value) (v1 v2 v3 v4 v5 v6 : Value) (n1 n2 n3 n4 n5 n6 : Nat) (l1 l2 l3 l4 l5 l6 : List Value) : Prop where
  hB : w0.heap.size + 1 < B
  hg : w0.heap.size + 1 < g
  kg : Blk W g 29 [.int .i64 x.horizon, v1, v2, v3, v4, v5, v6]
  o1 : W.ownsRow (B + 1) 9 1 v1 n1 l1
  o2 : W.ownsRow (B + 1) 58 4 v2 n2 l2
  o3 : W.ownsRow (B + 1) 41 7 v3 n3 l3
  o4 : W.ownsRow (B + 1) 48 4 v4 n4 l4
  o5 : W.ownsRow (B + 1) 43 5 v5 n5 l5
  o6 : W.ownsRow (B + 1) 45 5 v6 n6 l6
  sg : ∀ b, SA b → b < g
  rt : Rts W SA x.routes cx
  kx : Blk W w0.heap.size 29 (shL' x p)
  ky : Blk W (w0.heap.size + 1) 29 (shL' y q)
  ys : Sh W (· < w0.heap.size) y q
  y4 : Rd W (· < w0.heap.size) q.a4 cy
  yt : Rts W (· < w0.heap.size) y.routes cy
  gw : Below w0.heap.size w0 W
theorem Rts.app {w : World} {S : Nat → Prop} {m : List RouteM} {d : List Value} (hr : Rts w S m d) : ∀ {l : List RouteM} {c : List Value}, Rts w S l c → Rts w S (l ++ m) (c ++ d)
  | [], _, h => by rw [show _ = _ from h]; exact hr
  | _ :: _, _, ⟨sa, sc, ra, rc, ya, yc, rest, e, h1, h2, h3, h4⟩ => ⟨sa, sc, ra, rc, ya, yc, rest ++ d, by rw [e]; rfl, h1, h2, h3, Rts.app hr h4⟩
theorem WJ.step1 {w0 W : World} {B g : Nat} {x y : SheetM} {p q : ShA} {SA : Nat → Prop} {cx cy : List Value} {v1 v2 v3 v4 v5 v6 : Value} {n1 n2 n3 n4 n5 n6 : Nat} {l1 l2 l3 l4 l5 l6 : List Value} {W1 : World} {v' : Value} {n' : Nat} {l' : List Value} (h : WJ w0 W B g x y p q SA cx cy v1 v2 v3 v4 v5 v6 n1 n2 n3 n4 n5 n6 l1 l2 l3 l4 l5 l6) (hgr : W.grownBy W1 v1.ownBlock) (ho : W1.ownsRow (B + 1) 9 1 v' n' l') (hsa : ∀ b, SA b → v1.ownBlock ≠ some b) :
    WJ w0 (W1.setCell ⟨g, 1, none⟩ v') B g x y p q SA cx cy v' v2 v3 v4 v5 v6 n' n2 n3 n4 n5 n6 l' l2 l3 l4 l5 l6 := by
  have hX : Ch (fun b => b = g ∨ some b = v1.ownBlock) W (W1.setCell ⟨g, 1, none⟩ v') := (Ch.of_grown hgr fun k e => .inr e).setCell (p := ⟨g, 1, none⟩) (.inl (.inl rfl)) v'
  have hB := h.hB
  have hgB := h.hg
  have hgl := h.kg.lt
  have f : ∀ {e size n : Nat} {v : Value} {xs : List Value}, e ≠ 9 → e ≠ 29 → W.ownsRow (B + 1) e size v n xs → (W1.setCell ⟨g, 1, none⟩ v').ownsRow (B + 1) e size v n xs := fun hne hn2 ho2 => hX.own ho2 fun k hk e => e.elim (own_ne_blk ho2 h.kg hn2 k hk) fun e => own_ne ho2 h.o1 hne k hk e.symm
  have kg1 := h.kg.grown hgr fun e => own_ne_blk h.o1 h.kg (by decide) g e.symm rfl
  have low : ∀ b, b ≤ w0.heap.size + 1 → ¬ (b = g ∨ some b = v1.ownBlock) := fun b hb e => e.elim (fun e => by omega) fun e => by have := (h.o1.lt b e.symm).1; omega
  have lo2 : ∀ b, b < w0.heap.size → (W1.setCell ⟨g, 1, none⟩ v').heap[b]? = W.heap[b]? := fun b hb => hX.block b (by omega) (low b (by omega))
  exact ⟨hB, hgB, kg1.set_ 1 v', (ch_set W1 g 1 v').own ho (own_ne_blk ho kg1 (by decide)), f (by decide) (by decide) h.o2, f (by decide) (by decide) h.o3, f (by decide) (by decide) h.o4, f (by decide) (by decide) h.o5, f (by decide) (by decide) h.o6, h.sg, h.rt.keep fun b hb => hX.block b (by have := h.sg b hb; omega) (fun e => e.elim (fun e => by have := h.sg b hb; omega) fun e => hsa b hb e.symm), hX.blk h.kx (low _ (by omega)), hX.blk h.ky (low _ (by omega)), h.ys.keep lo2, h.y4.keep lo2, h.yt.keep lo2, h.gw.trans (hX.below (by omega) fun k e => e.elim (fun e => by omega) fun e => by have := (h.o1.lt k e.symm).1; omega)⟩
theorem WJ.step2 {w0 W : World} {B g : Nat} {x y : SheetM} {p q : ShA} {SA : Nat → Prop} {cx cy : List Value} {v1 v2 v3 v4 v5 v6 : Value} {n1 n2 n3 n4 n5 n6 : Nat} {l1 l2 l3 l4 l5 l6 : List Value} {W1 : World} {v' : Value} {n' : Nat} {l' : List Value} (h : WJ w0 W B g x y p q SA cx cy v1 v2 v3 v4 v5 v6 n1 n2 n3 n4 n5 n6 l1 l2 l3 l4 l5 l6) (hgr : W.grownBy W1 v2.ownBlock) (ho : W1.ownsRow (B + 1) 58 4 v' n' l') (hsa : ∀ b, SA b → v2.ownBlock ≠ some b) :
    WJ w0 (W1.setCell ⟨g, 2, none⟩ v') B g x y p q SA cx cy v1 v' v3 v4 v5 v6 n1 n' n3 n4 n5 n6 l1 l' l3 l4 l5 l6 := by
  have hX : Ch (fun b => b = g ∨ some b = v2.ownBlock) W (W1.setCell ⟨g, 2, none⟩ v') := (Ch.of_grown hgr fun k e => .inr e).setCell (p := ⟨g, 2, none⟩) (.inl (.inl rfl)) v'
  have hB := h.hB
  have hgB := h.hg
  have hgl := h.kg.lt
  have f : ∀ {e size n : Nat} {v : Value} {xs : List Value}, e ≠ 58 → e ≠ 29 → W.ownsRow (B + 1) e size v n xs → (W1.setCell ⟨g, 2, none⟩ v').ownsRow (B + 1) e size v n xs := fun hne hn2 ho2 => hX.own ho2 fun k hk e => e.elim (own_ne_blk ho2 h.kg hn2 k hk) fun e => own_ne ho2 h.o2 hne k hk e.symm
  have kg1 := h.kg.grown hgr fun e => own_ne_blk h.o2 h.kg (by decide) g e.symm rfl
  have low : ∀ b, b ≤ w0.heap.size + 1 → ¬ (b = g ∨ some b = v2.ownBlock) := fun b hb e => e.elim (fun e => by omega) fun e => by have := (h.o2.lt b e.symm).1; omega
  have lo2 : ∀ b, b < w0.heap.size → (W1.setCell ⟨g, 2, none⟩ v').heap[b]? = W.heap[b]? := fun b hb => hX.block b (by omega) (low b (by omega))
  exact ⟨hB, hgB, kg1.set_ 2 v', f (by decide) (by decide) h.o1, (ch_set W1 g 2 v').own ho (own_ne_blk ho kg1 (by decide)), f (by decide) (by decide) h.o3, f (by decide) (by decide) h.o4, f (by decide) (by decide) h.o5, f (by decide) (by decide) h.o6, h.sg, h.rt.keep fun b hb => hX.block b (by have := h.sg b hb; omega) (fun e => e.elim (fun e => by have := h.sg b hb; omega) fun e => hsa b hb e.symm), hX.blk h.kx (low _ (by omega)), hX.blk h.ky (low _ (by omega)), h.ys.keep lo2, h.y4.keep lo2, h.yt.keep lo2, h.gw.trans (hX.below (by omega) fun k e => e.elim (fun e => by omega) fun e => by have := (h.o2.lt k e.symm).1; omega)⟩
theorem WJ.step3 {w0 W : World} {B g : Nat} {x y : SheetM} {p q : ShA} {SA : Nat → Prop} {cx cy : List Value} {v1 v2 v3 v4 v5 v6 : Value} {n1 n2 n3 n4 n5 n6 : Nat} {l1 l2 l3 l4 l5 l6 : List Value} {W1 : World} {v' : Value} {n' : Nat} {l' : List Value} (h : WJ w0 W B g x y p q SA cx cy v1 v2 v3 v4 v5 v6 n1 n2 n3 n4 n5 n6 l1 l2 l3 l4 l5 l6) (hgr : W.grownBy W1 v3.ownBlock) (ho : W1.ownsRow (B + 1) 41 7 v' n' l') (hsa : ∀ b, SA b → v3.ownBlock ≠ some b) :
    WJ w0 (W1.setCell ⟨g, 3, none⟩ v') B g x y p q SA cx cy v1 v2 v' v4 v5 v6 n1 n2 n' n4 n5 n6 l1 l2 l' l4 l5 l6 := by
  have hX : Ch (fun b => b = g ∨ some b = v3.ownBlock) W (W1.setCell ⟨g, 3, none⟩ v') := (Ch.of_grown hgr fun k e => .inr e).setCell (p := ⟨g, 3, none⟩) (.inl (.inl rfl)) v'
  have hB := h.hB
  have hgB := h.hg
  have hgl := h.kg.lt
  have f : ∀ {e size n : Nat} {v : Value} {xs : List Value}, e ≠ 41 → e ≠ 29 → W.ownsRow (B + 1) e size v n xs → (W1.setCell ⟨g, 3, none⟩ v').ownsRow (B + 1) e size v n xs := fun hne hn2 ho2 => hX.own ho2 fun k hk e => e.elim (own_ne_blk ho2 h.kg hn2 k hk) fun e => own_ne ho2 h.o3 hne k hk e.symm
  have kg1 := h.kg.grown hgr fun e => own_ne_blk h.o3 h.kg (by decide) g e.symm rfl
  have low : ∀ b, b ≤ w0.heap.size + 1 → ¬ (b = g ∨ some b = v3.ownBlock) := fun b hb e => e.elim (fun e => by omega) fun e => by have := (h.o3.lt b e.symm).1; omega
  have lo2 : ∀ b, b < w0.heap.size → (W1.setCell ⟨g, 3, none⟩ v').heap[b]? = W.heap[b]? := fun b hb => hX.block b (by omega) (low b (by omega))
  exact ⟨hB, hgB, kg1.set_ 3 v', f (by decide) (by decide) h.o1, f (by decide) (by decide) h.o2, (ch_set W1 g 3 v').own ho (own_ne_blk ho kg1 (by decide)), f (by decide) (by decide) h.o4, f (by decide) (by decide) h.o5, f (by decide) (by decide) h.o6, h.sg, h.rt.keep fun b hb => hX.block b (by have := h.sg b hb; omega) (fun e => e.elim (fun e => by have := h.sg b hb; omega) fun e => hsa b hb e.symm), hX.blk h.kx (low _ (by omega)), hX.blk h.ky (low _ (by omega)), h.ys.keep lo2, h.y4.keep lo2, h.yt.keep lo2, h.gw.trans (hX.below (by omega) fun k e => e.elim (fun e => by omega) fun e => by have := (h.o3.lt k e.symm).1; omega)⟩
theorem WJ.step4 {w0 W : World} {B g : Nat} {x y : SheetM} {p q : ShA} {SA : Nat → Prop} {cx cy : List Value} {v1 v2 v3 v4 v5 v6 : Value} {n1 n2 n3 n4 n5 n6 : Nat} {l1 l2 l3 l4 l5 l6 : List Value} {W1 : World} {v' : Value} {n' : Nat} {l' : List Value} (h : WJ w0 W B g x y p q SA cx cy v1 v2 v3 v4 v5 v6 n1 n2 n3 n4 n5 n6 l1 l2 l3 l4 l5 l6) (hgr : W.grownBy W1 v4.ownBlock) (ho : W1.ownsRow (B + 1) 48 4 v' n' l') (hsa : ∀ b, SA b → v4.ownBlock ≠ some b) :
    WJ w0 (W1.setCell ⟨g, 4, none⟩ v') B g x y p q SA cx cy v1 v2 v3 v' v5 v6 n1 n2 n3 n' n5 n6 l1 l2 l3 l' l5 l6 := by
  have hX : Ch (fun b => b = g ∨ some b = v4.ownBlock) W (W1.setCell ⟨g, 4, none⟩ v') := (Ch.of_grown hgr fun k e => .inr e).setCell (p := ⟨g, 4, none⟩) (.inl (.inl rfl)) v'
  have hB := h.hB
  have hgB := h.hg
  have hgl := h.kg.lt
  have f : ∀ {e size n : Nat} {v : Value} {xs : List Value}, e ≠ 48 → e ≠ 29 → W.ownsRow (B + 1) e size v n xs → (W1.setCell ⟨g, 4, none⟩ v').ownsRow (B + 1) e size v n xs := fun hne hn2 ho2 => hX.own ho2 fun k hk e => e.elim (own_ne_blk ho2 h.kg hn2 k hk) fun e => own_ne ho2 h.o4 hne k hk e.symm
  have kg1 := h.kg.grown hgr fun e => own_ne_blk h.o4 h.kg (by decide) g e.symm rfl
  have low : ∀ b, b ≤ w0.heap.size + 1 → ¬ (b = g ∨ some b = v4.ownBlock) := fun b hb e => e.elim (fun e => by omega) fun e => by have := (h.o4.lt b e.symm).1; omega
  have lo2 : ∀ b, b < w0.heap.size → (W1.setCell ⟨g, 4, none⟩ v').heap[b]? = W.heap[b]? := fun b hb => hX.block b (by omega) (low b (by omega))
  exact ⟨hB, hgB, kg1.set_ 4 v', f (by decide) (by decide) h.o1, f (by decide) (by decide) h.o2, f (by decide) (by decide) h.o3, (ch_set W1 g 4 v').own ho (own_ne_blk ho kg1 (by decide)), f (by decide) (by decide) h.o5, f (by decide) (by decide) h.o6, h.sg, h.rt.keep fun b hb => hX.block b (by have := h.sg b hb; omega) (fun e => e.elim (fun e => by have := h.sg b hb; omega) fun e => hsa b hb e.symm), hX.blk h.kx (low _ (by omega)), hX.blk h.ky (low _ (by omega)), h.ys.keep lo2, h.y4.keep lo2, h.yt.keep lo2, h.gw.trans (hX.below (by omega) fun k e => e.elim (fun e => by omega) fun e => by have := (h.o4.lt k e.symm).1; omega)⟩
theorem WJ.step5 {w0 W : World} {B g : Nat} {x y : SheetM} {p q : ShA} {SA : Nat → Prop} {cx cy : List Value} {v1 v2 v3 v4 v5 v6 : Value} {n1 n2 n3 n4 n5 n6 : Nat} {l1 l2 l3 l4 l5 l6 : List Value} {W1 : World} {v' : Value} {n' : Nat} {l' : List Value} (h : WJ w0 W B g x y p q SA cx cy v1 v2 v3 v4 v5 v6 n1 n2 n3 n4 n5 n6 l1 l2 l3 l4 l5 l6) (hgr : W.grownBy W1 v5.ownBlock) (ho : W1.ownsRow (B + 1) 43 5 v' n' l') (hsa : ∀ b, SA b → v5.ownBlock ≠ some b) :
    WJ w0 (W1.setCell ⟨g, 5, none⟩ v') B g x y p q SA cx cy v1 v2 v3 v4 v' v6 n1 n2 n3 n4 n' n6 l1 l2 l3 l4 l' l6 := by
  have hX : Ch (fun b => b = g ∨ some b = v5.ownBlock) W (W1.setCell ⟨g, 5, none⟩ v') := (Ch.of_grown hgr fun k e => .inr e).setCell (p := ⟨g, 5, none⟩) (.inl (.inl rfl)) v'
  have hB := h.hB
  have hgB := h.hg
  have hgl := h.kg.lt
  have f : ∀ {e size n : Nat} {v : Value} {xs : List Value}, e ≠ 43 → e ≠ 29 → W.ownsRow (B + 1) e size v n xs → (W1.setCell ⟨g, 5, none⟩ v').ownsRow (B + 1) e size v n xs := fun hne hn2 ho2 => hX.own ho2 fun k hk e => e.elim (own_ne_blk ho2 h.kg hn2 k hk) fun e => own_ne ho2 h.o5 hne k hk e.symm
  have kg1 := h.kg.grown hgr fun e => own_ne_blk h.o5 h.kg (by decide) g e.symm rfl
  have low : ∀ b, b ≤ w0.heap.size + 1 → ¬ (b = g ∨ some b = v5.ownBlock) := fun b hb e => e.elim (fun e => by omega) fun e => by have := (h.o5.lt b e.symm).1; omega
  have lo2 : ∀ b, b < w0.heap.size → (W1.setCell ⟨g, 5, none⟩ v').heap[b]? = W.heap[b]? := fun b hb => hX.block b (by omega) (low b (by omega))
  exact ⟨hB, hgB, kg1.set_ 5 v', f (by decide) (by decide) h.o1, f (by decide) (by decide) h.o2, f (by decide) (by decide) h.o3, f (by decide) (by decide) h.o4, (ch_set W1 g 5 v').own ho (own_ne_blk ho kg1 (by decide)), f (by decide) (by decide) h.o6, h.sg, h.rt.keep fun b hb => hX.block b (by have := h.sg b hb; omega) (fun e => e.elim (fun e => by have := h.sg b hb; omega) fun e => hsa b hb e.symm), hX.blk h.kx (low _ (by omega)), hX.blk h.ky (low _ (by omega)), h.ys.keep lo2, h.y4.keep lo2, h.yt.keep lo2, h.gw.trans (hX.below (by omega) fun k e => e.elim (fun e => by omega) fun e => by have := (h.o5.lt k e.symm).1; omega)⟩
theorem WJ.step6 {w0 W : World} {B g : Nat} {x y : SheetM} {p q : ShA} {SA : Nat → Prop} {cx cy : List Value} {v1 v2 v3 v4 v5 v6 : Value} {n1 n2 n3 n4 n5 n6 : Nat} {l1 l2 l3 l4 l5 l6 : List Value} {W1 : World} {v' : Value} {n' : Nat} {l' : List Value} (h : WJ w0 W B g x y p q SA cx cy v1 v2 v3 v4 v5 v6 n1 n2 n3 n4 n5 n6 l1 l2 l3 l4 l5 l6) (hgr : W.grownBy W1 v6.ownBlock) (ho : W1.ownsRow (B + 1) 45 5 v' n' l') (hsa : ∀ b, SA b → v6.ownBlock ≠ some b) :
    WJ w0 (W1.setCell ⟨g, 6, none⟩ v') B g x y p q SA cx cy v1 v2 v3 v4 v5 v' n1 n2 n3 n4 n5 n' l1 l2 l3 l4 l5 l' := by
  have hX : Ch (fun b => b = g ∨ some b = v6.ownBlock) W (W1.setCell ⟨g, 6, none⟩ v') := (Ch.of_grown hgr fun k e => .inr e).setCell (p := ⟨g, 6, none⟩) (.inl (.inl rfl)) v'
  have hB := h.hB
  have hgB := h.hg
  have hgl := h.kg.lt
  have f : ∀ {e size n : Nat} {v : Value} {xs : List Value}, e ≠ 45 → e ≠ 29 → W.ownsRow (B + 1) e size v n xs → (W1.setCell ⟨g, 6, none⟩ v').ownsRow (B + 1) e size v n xs := fun hne hn2 ho2 => hX.own ho2 fun k hk e => e.elim (own_ne_blk ho2 h.kg hn2 k hk) fun e => own_ne ho2 h.o6 hne k hk e.symm
  have kg1 := h.kg.grown hgr fun e => own_ne_blk h.o6 h.kg (by decide) g e.symm rfl
  have low : ∀ b, b ≤ w0.heap.size + 1 → ¬ (b = g ∨ some b = v6.ownBlock) := fun b hb e => e.elim (fun e => by omega) fun e => by have := (h.o6.lt b e.symm).1; omega
  have lo2 : ∀ b, b < w0.heap.size → (W1.setCell ⟨g, 6, none⟩ v').heap[b]? = W.heap[b]? := fun b hb => hX.block b (by omega) (low b (by omega))
  exact ⟨hB, hgB, kg1.set_ 6 v', f (by decide) (by decide) h.o1, f (by decide) (by decide) h.o2, f (by decide) (by decide) h.o3, f (by decide) (by decide) h.o4, f (by decide) (by decide) h.o5, (ch_set W1 g 6 v').own ho (own_ne_blk ho kg1 (by decide)), h.sg, h.rt.keep fun b hb => hX.block b (by have := h.sg b hb; omega) (fun e => e.elim (fun e => by have := h.sg b hb; omega) fun e => hsa b hb e.symm), hX.blk h.kx (low _ (by omega)), hX.blk h.ky (low _ (by omega)), h.ys.keep lo2, h.y4.keep lo2, h.yt.keep lo2, h.gw.trans (hX.below (by omega) fun k e => e.elim (fun e => by omega) fun e => by have := (h.o6.lt k e.symm).1; omega)⟩
end Go.Proofs.YteonmabfhilcfaaGreatDoor.Sh
