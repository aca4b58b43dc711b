/- A world in memory of one's own whose rows of stops' names, paths' names and paths grow. No conditions. -/
import Derived.Test.YtgdanbfglefiiaaGreatWoOwB
import Derived.ChangeSlices
import Derived.Deep.Strs
import Derived.Deep.SlicePairs
import Derived.ChangeArms
import Derived.Carry
import Derived.Deep.RegionHeld3
import Derived.Deep.RegionHeldLaw
import Derived.Deep.CutRange
import Derived.StillTailTactics
import Derived.WalkSpells
import Derived.Lib.QuietBelow
import Derived.Deep.QuietTactic
namespace Go.Proofs.YtgdanbfglefiiaaGreat.Wo
open Go.ChangeShapes Go.WideShapes Go.ChangeAt Go.RowKit Go.Maps
open Lx Sh It
set_option linter.unusedVariables false
set_option linter.unusedSimpArgs false
theorem own_len {A : Option Addr} {n m c d : Nat} : (Value.slice A n c).ownBlock = (Value.slice A m d).ownBlock := by cases A <;> rfl
theorem cs_more {α : Type} (f : α → List Value) (l : List α) (a : α) : cs f (l ++ [a]) = cs f l ++ f a := by simp [cs]
theorem OwW.add1 {w1 w2 : World} {B s c : Nat} {x : WorldM} {p : WoA} {A : Option Addr} {a : Nm} {l : List Value} (h : OwW w1 B s x p) (hk : Blk w1 s 32 l)
    (h1 : w2.ownsRow (B + 1) 9 1 (Value.slice A (x.names.stops.length + 1) c) (x.names.stops.length + 1) (cs strC x.names.stops ++ strC a)) (hg : w1.grownBy w2 (wv1 x p).ownBlock) (hor : (Value.slice A (x.names.stops.length + 1) c).ownBlock = (wv1 x p).ownBlock ∨ (Value.slice A (x.names.stops.length + 1) c).ownBlock = some w1.heap.size) :
    OwW (w2.setCell ⟨s, 1, none⟩ (Value.slice A (x.names.stops.length + 1) c)) B s { x with names := { x.names with stops := x.names.stops ++ [a] } } ⟨⟨A, p.n.a2, p.n.a3, p.n.a4, p.n.a5, p.n.a6, c, p.n.c2, p.n.c3, p.n.c4, p.n.c5, p.n.c6⟩, p.b2, p.b3, p.b4, p.b5, p.b6, p.d2, p.d3, p.d4, p.d5, p.d6⟩ ∧ Blk (w2.setCell ⟨s, 1, none⟩ (Value.slice A (x.names.stops.length + 1) c)) s 32 (l.set 1 (Value.slice A (x.names.stops.length + 1) c)) := by
  have hX : Ch (fun b => some b = (wv1 x p).ownBlock) w1 w2 := Ch.of_grown hg fun k e => e
  have k2 := hX.blk hk (fun e => own_ne_blk h.o1 hk (by decide) s e.symm rfl)
  have hB : Ch (· = s) w2 (w2.setCell ⟨s, 1, none⟩ (Value.slice A (x.names.stops.length + 1) c)) := (Ch.refl (· = s) _).setCell (p := ⟨s, 1, none⟩) (.inl rfl) _
  have r := (h.rr.keep fun b hb => hX.block b hb.2.1 (fun e => hb.2.2 (wv1 x p) (by simp) e.symm))
  have hd : ∀ i, (wv1 ({ x with names := { x.names with stops := x.names.stops ++ [a] } } : WorldM) (⟨⟨A, p.n.a2, p.n.a3, p.n.a4, p.n.a5, p.n.a6, c, p.n.c2, p.n.c3, p.n.c4, p.n.c5, p.n.c6⟩, p.b2, p.b3, p.b4, p.b5, p.b6, p.d2, p.d3, p.d4, p.d5, p.d6⟩ : WoA)).ownBlock = some i → (wv2 ({ x with names := { x.names with stops := x.names.stops ++ [a] } } : WorldM) (⟨⟨A, p.n.a2, p.n.a3, p.n.a4, p.n.a5, p.n.a6, c, p.n.c2, p.n.c3, p.n.c4, p.n.c5, p.n.c6⟩, p.b2, p.b3, p.b4, p.b5, p.b6, p.d2, p.d3, p.d4, p.d5, p.d6⟩ : WoA)).ownBlock ≠ some i := fun i e e' => by
    rcases hor with q | q
    · exact h.d i (q.symm.trans (own_len.trans e)) e'
    · have e2 := q.symm.trans (own_len.trans e)
      injection e2 with e2
      have := (h.o2.lt i e').2
      omega
  have aw : ∀ b, Away w1 B [wv1 x p, wv2 x p, wv3 x p, bxV s] b → Away w2 B [wv1 ({ x with names := { x.names with stops := x.names.stops ++ [a] } } : WorldM) (⟨⟨A, p.n.a2, p.n.a3, p.n.a4, p.n.a5, p.n.a6, c, p.n.c2, p.n.c3, p.n.c4, p.n.c5, p.n.c6⟩, p.b2, p.b3, p.b4, p.b5, p.b6, p.d2, p.d3, p.d4, p.d5, p.d6⟩ : WoA), wv2 ({ x with names := { x.names with stops := x.names.stops ++ [a] } } : WorldM) (⟨⟨A, p.n.a2, p.n.a3, p.n.a4, p.n.a5, p.n.a6, c, p.n.c2, p.n.c3, p.n.c4, p.n.c5, p.n.c6⟩, p.b2, p.b3, p.b4, p.b5, p.b6, p.d2, p.d3, p.d4, p.d5, p.d6⟩ : WoA), wv3 ({ x with names := { x.names with stops := x.names.stops ++ [a] } } : WorldM) (⟨⟨A, p.n.a2, p.n.a3, p.n.a4, p.n.a5, p.n.a6, c, p.n.c2, p.n.c3, p.n.c4, p.n.c5, p.n.c6⟩, p.b2, p.b3, p.b4, p.b5, p.b6, p.d2, p.d3, p.d4, p.d5, p.d6⟩ : WoA), bxV s] b := fun b hb => by
    refine hb.on hX.size ?_
    intro v' hv'
    simp only [List.mem_cons, List.not_mem_nil, or_false] at hv'
    rcases hv' with rfl | rfl | rfl | rfl
    · refine .inr ⟨wv1 x p, by simp, ?_⟩
      rcases hor with q | q
      · exact .inl (own_len.trans q)
      · exact .inr ⟨_, own_len.trans q, Nat.le_refl _⟩
    · exact .inl (by simp)
    · exact .inl (by simp)
    · exact .inl (by simp)
  have r2 := r.more aw
  have g : OwW w2 B s { x with names := { x.names with stops := x.names.stops ++ [a] } } ⟨⟨A, p.n.a2, p.n.a3, p.n.a4, p.n.a5, p.n.a6, c, p.n.c2, p.n.c3, p.n.c4, p.n.c5, p.n.c6⟩, p.b2, p.b3, p.b4, p.b5, p.b6, p.d2, p.d3, p.d4, p.d5, p.d6⟩ := ⟨by simpa [wv1, cs_more] using h1, hX.own h.o2 (fun i e e' => h.d i e'.symm e), hX.own h.o3 (fun i e e' => own_ne h.o1 h.o3 (by decide) i e'.symm e), hd, ⟨r2.n3, r2.n4, r2.n5, r2.n6, r2.r3, r2.r4, r2.r5, r2.r6⟩⟩
  exact ⟨g.box k2 hB, k2.set_ 1 _⟩
theorem OwW.add2 {w1 w2 : World} {B s c : Nat} {x : WorldM} {p : WoA} {A : Option Addr} {a : Nm} {l : List Value} (h : OwW w1 B s x p) (hk : Blk w1 s 32 l)
    (h1 : w2.ownsRow (B + 1) 9 1 (Value.slice A (x.names.paths.length + 1) c) (x.names.paths.length + 1) (cs strC x.names.paths ++ strC a)) (hg : w1.grownBy w2 (wv2 x p).ownBlock) (hor : (Value.slice A (x.names.paths.length + 1) c).ownBlock = (wv2 x p).ownBlock ∨ (Value.slice A (x.names.paths.length + 1) c).ownBlock = some w1.heap.size) :
    OwW (w2.setCell ⟨s, 2, none⟩ (Value.slice A (x.names.paths.length + 1) c)) B s { x with names := { x.names with paths := x.names.paths ++ [a] } } ⟨⟨p.n.a1, A, p.n.a3, p.n.a4, p.n.a5, p.n.a6, p.n.c1, c, p.n.c3, p.n.c4, p.n.c5, p.n.c6⟩, p.b2, p.b3, p.b4, p.b5, p.b6, p.d2, p.d3, p.d4, p.d5, p.d6⟩ ∧ Blk (w2.setCell ⟨s, 2, none⟩ (Value.slice A (x.names.paths.length + 1) c)) s 32 (l.set 2 (Value.slice A (x.names.paths.length + 1) c)) := by
  have hX : Ch (fun b => some b = (wv2 x p).ownBlock) w1 w2 := Ch.of_grown hg fun k e => e
  have k2 := hX.blk hk (fun e => own_ne_blk h.o2 hk (by decide) s e.symm rfl)
  have hB : Ch (· = s) w2 (w2.setCell ⟨s, 2, none⟩ (Value.slice A (x.names.paths.length + 1) c)) := (Ch.refl (· = s) _).setCell (p := ⟨s, 2, none⟩) (.inl rfl) _
  have r := (h.rr.keep fun b hb => hX.block b hb.2.1 (fun e => hb.2.2 (wv2 x p) (by simp) e.symm))
  have hd : ∀ i, (wv1 ({ x with names := { x.names with paths := x.names.paths ++ [a] } } : WorldM) (⟨⟨p.n.a1, A, p.n.a3, p.n.a4, p.n.a5, p.n.a6, p.n.c1, c, p.n.c3, p.n.c4, p.n.c5, p.n.c6⟩, p.b2, p.b3, p.b4, p.b5, p.b6, p.d2, p.d3, p.d4, p.d5, p.d6⟩ : WoA)).ownBlock = some i → (wv2 ({ x with names := { x.names with paths := x.names.paths ++ [a] } } : WorldM) (⟨⟨p.n.a1, A, p.n.a3, p.n.a4, p.n.a5, p.n.a6, p.n.c1, c, p.n.c3, p.n.c4, p.n.c5, p.n.c6⟩, p.b2, p.b3, p.b4, p.b5, p.b6, p.d2, p.d3, p.d4, p.d5, p.d6⟩ : WoA)).ownBlock ≠ some i := fun i e e' => by
    rcases hor with q | q
    · exact h.d i e (q.symm.trans (own_len.trans e'))
    · have e2 := q.symm.trans (own_len.trans e')
      injection e2 with e2
      have := (h.o1.lt i e).2
      omega
  have aw : ∀ b, Away w1 B [wv1 x p, wv2 x p, wv3 x p, bxV s] b → Away w2 B [wv1 ({ x with names := { x.names with paths := x.names.paths ++ [a] } } : WorldM) (⟨⟨p.n.a1, A, p.n.a3, p.n.a4, p.n.a5, p.n.a6, p.n.c1, c, p.n.c3, p.n.c4, p.n.c5, p.n.c6⟩, p.b2, p.b3, p.b4, p.b5, p.b6, p.d2, p.d3, p.d4, p.d5, p.d6⟩ : WoA), wv2 ({ x with names := { x.names with paths := x.names.paths ++ [a] } } : WorldM) (⟨⟨p.n.a1, A, p.n.a3, p.n.a4, p.n.a5, p.n.a6, p.n.c1, c, p.n.c3, p.n.c4, p.n.c5, p.n.c6⟩, p.b2, p.b3, p.b4, p.b5, p.b6, p.d2, p.d3, p.d4, p.d5, p.d6⟩ : WoA), wv3 ({ x with names := { x.names with paths := x.names.paths ++ [a] } } : WorldM) (⟨⟨p.n.a1, A, p.n.a3, p.n.a4, p.n.a5, p.n.a6, p.n.c1, c, p.n.c3, p.n.c4, p.n.c5, p.n.c6⟩, p.b2, p.b3, p.b4, p.b5, p.b6, p.d2, p.d3, p.d4, p.d5, p.d6⟩ : WoA), bxV s] b := fun b hb => by
    refine hb.on hX.size ?_
    intro v' hv'
    simp only [List.mem_cons, List.not_mem_nil, or_false] at hv'
    rcases hv' with rfl | rfl | rfl | rfl
    · exact .inl (by simp)
    · refine .inr ⟨wv2 x p, by simp, ?_⟩
      rcases hor with q | q
      · exact .inl (own_len.trans q)
      · exact .inr ⟨_, own_len.trans q, Nat.le_refl _⟩
    · exact .inl (by simp)
    · exact .inl (by simp)
  have r2 := r.more aw
  have g : OwW w2 B s { x with names := { x.names with paths := x.names.paths ++ [a] } } ⟨⟨p.n.a1, A, p.n.a3, p.n.a4, p.n.a5, p.n.a6, p.n.c1, c, p.n.c3, p.n.c4, p.n.c5, p.n.c6⟩, p.b2, p.b3, p.b4, p.b5, p.b6, p.d2, p.d3, p.d4, p.d5, p.d6⟩ := ⟨hX.own h.o1 (fun i e e' => h.d i e e'.symm), by simpa [wv2, cs_more] using h1, hX.own h.o3 (fun i e e' => own_ne h.o2 h.o3 (by decide) i e'.symm e), hd, ⟨r2.n3, r2.n4, r2.n5, r2.n6, r2.r3, r2.r4, r2.r5, r2.r6⟩⟩
  exact ⟨g.box k2 hB, k2.set_ 2 _⟩
theorem OwW.add3 {w1 w2 : World} {B s c : Nat} {x : WorldM} {p : WoA} {A : Option Addr} {a : PathO} {l : List Value} (h : OwW w1 B s x p) (hk : Blk w1 s 32 l)
    (h1 : w2.ownsRow (B + 1) 51 3 (Value.slice A (x.paths.length + 1) c) (x.paths.length + 1) (cs poC x.paths ++ poC a)) (hg : w1.grownBy w2 (wv3 x p).ownBlock) (hor : (Value.slice A (x.paths.length + 1) c).ownBlock = (wv3 x p).ownBlock ∨ (Value.slice A (x.paths.length + 1) c).ownBlock = some w1.heap.size) :
    OwW (w2.setCell ⟨s, 7, none⟩ (Value.slice A (x.paths.length + 1) c)) B s { x with paths := x.paths ++ [a] } ⟨p.n, A, p.b3, p.b4, p.b5, p.b6, c, p.d3, p.d4, p.d5, p.d6⟩ ∧ Blk (w2.setCell ⟨s, 7, none⟩ (Value.slice A (x.paths.length + 1) c)) s 32 (l.set 7 (Value.slice A (x.paths.length + 1) c)) := by
  have hX : Ch (fun b => some b = (wv3 x p).ownBlock) w1 w2 := Ch.of_grown hg fun k e => e
  have k2 := hX.blk hk (fun e => own_ne_blk h.o3 hk (by decide) s e.symm rfl)
  have hB : Ch (· = s) w2 (w2.setCell ⟨s, 7, none⟩ (Value.slice A (x.paths.length + 1) c)) := (Ch.refl (· = s) _).setCell (p := ⟨s, 7, none⟩) (.inl rfl) _
  have r := (h.rr.keep fun b hb => hX.block b hb.2.1 (fun e => hb.2.2 (wv3 x p) (by simp) e.symm))
  have hd : ∀ i, (wv1 ({ x with paths := x.paths ++ [a] } : WorldM) (⟨p.n, A, p.b3, p.b4, p.b5, p.b6, c, p.d3, p.d4, p.d5, p.d6⟩ : WoA)).ownBlock = some i → (wv2 ({ x with paths := x.paths ++ [a] } : WorldM) (⟨p.n, A, p.b3, p.b4, p.b5, p.b6, c, p.d3, p.d4, p.d5, p.d6⟩ : WoA)).ownBlock ≠ some i := h.d
  have aw : ∀ b, Away w1 B [wv1 x p, wv2 x p, wv3 x p, bxV s] b → Away w2 B [wv1 ({ x with paths := x.paths ++ [a] } : WorldM) (⟨p.n, A, p.b3, p.b4, p.b5, p.b6, c, p.d3, p.d4, p.d5, p.d6⟩ : WoA), wv2 ({ x with paths := x.paths ++ [a] } : WorldM) (⟨p.n, A, p.b3, p.b4, p.b5, p.b6, c, p.d3, p.d4, p.d5, p.d6⟩ : WoA), wv3 ({ x with paths := x.paths ++ [a] } : WorldM) (⟨p.n, A, p.b3, p.b4, p.b5, p.b6, c, p.d3, p.d4, p.d5, p.d6⟩ : WoA), bxV s] b := fun b hb => by
    refine hb.on hX.size ?_
    intro v' hv'
    simp only [List.mem_cons, List.not_mem_nil, or_false] at hv'
    rcases hv' with rfl | rfl | rfl | rfl
    · exact .inl (by simp)
    · exact .inl (by simp)
    · refine .inr ⟨wv3 x p, by simp, ?_⟩
      rcases hor with q | q
      · exact .inl (own_len.trans q)
      · exact .inr ⟨_, own_len.trans q, Nat.le_refl _⟩
    · exact .inl (by simp)
  have r2 := r.more aw
  have g : OwW w2 B s { x with paths := x.paths ++ [a] } ⟨p.n, A, p.b3, p.b4, p.b5, p.b6, c, p.d3, p.d4, p.d5, p.d6⟩ := ⟨hX.own h.o1 (fun i e e' => own_ne h.o3 h.o1 (by decide) i e'.symm e), hX.own h.o2 (fun i e e' => own_ne h.o3 h.o2 (by decide) i e'.symm e), by simpa [wv3, cs_more] using h1, hd, ⟨r2.n3, r2.n4, r2.n5, r2.n6, r2.r3, r2.r4, r2.r5, r2.r6⟩⟩
  exact ⟨g.box k2 hB, k2.set_ 7 _⟩
end Go.Proofs.YtgdanbfglefiiaaGreat.Wo
