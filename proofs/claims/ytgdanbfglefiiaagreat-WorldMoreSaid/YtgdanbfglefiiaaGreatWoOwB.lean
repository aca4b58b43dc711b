/- The kit's OwnWorld: a world in memory of the call's own. Conditions: the rows have at most a million things. -/
import Derived.Test.YtgdanbfglefiiaaGreatBaFr
import Derived.Test.YtgdanbfglefiiaaGreatWoOwA
import Derived.ChangeSlices
import Derived.Deep.Strs
import Derived.Deep.SlicePairs
import Derived.ChangeArms
import Derived.Carry
import Derived.Deep.RegionHeld3
import Derived.Deep.RegionHeldLaw
import Derived.Deep.CutRange
import Derived.StillTailTactics
import Derived.WalkSpells
import Derived.Lib.QuietBelow
import Derived.Deep.QuietTactic
namespace Go.Proofs.YtgdanbfglefiiaaGreat.Wo
open Go.ChangeShapes Go.WideShapes Go.ChangeAt Go.RowKit Go.Maps
open Lx Sh It
set_option linter.unusedVariables false
set_option linter.unusedSimpArgs false
abbrev wv1 (x : WorldM) (p : WoA) : Value := .slice p.n.a1 x.names.stops.length p.n.c1
abbrev wv2 (x : WorldM) (p : WoA) : Value := .slice p.n.a2 x.names.paths.length p.n.c2
abbrev wv3 (x : WorldM) (p : WoA) : Value := .slice p.b2 x.paths.length p.d2
/-- the rows that nobody appends to -/
structure WoR (w : World) (S : Nat → Prop) (x : WorldM) (p : WoA) : Prop where
  n3 : Rd w S p.n.a3 (cs strC x.names.doors)
  n4 : Rd w S p.n.a4 (cs strC x.names.routes)
  n5 : Rd w S p.n.a5 (cs strC x.names.trips)
  n6 : Rd w S p.n.a6 (cs strC x.names.hazards)
  r3 : Rd w S p.b3 (cs dooC x.doors)
  r4 : ∃ c, Rd w S p.b4 c ∧ Rtos w S x.routes c
  r5 : Rd w S p.b5 (cs toC x.trips)
  r6 : Rd w S p.b6 (cs hoC x.hazards)
theorem WoR.keep {w w' : World} {S : Nat → Prop} {x : WorldM} {p : WoA} (h : WoR w S x p) (hk : ∀ b, S b → w'.heap[b]? = w.heap[b]?) : WoR w' S x p := by
  obtain ⟨c, h4, h4'⟩ := h.r4
  exact ⟨h.n3.keep hk, h.n4.keep hk, h.n5.keep hk, h.n6.keep hk, h.r3.keep hk, ⟨c, h4.keep hk, Rtos.keep hk h4'⟩, h.r5.keep hk, h.r6.keep hk⟩
theorem WoR.more {w : World} {S S' : Nat → Prop} {x : WorldM} {p : WoA} (h : WoR w S x p) (hs : ∀ b, S b → S' b) : WoR w S' x p := by
  obtain ⟨c, h4, h4'⟩ := h.r4
  exact ⟨h.n3.more hs, h.n4.more hs, h.n5.more hs, h.n6.more hs, h.r3.more hs, ⟨c, h4.more hs, Rtos.more hs h4'⟩, h.r5.more hs, h.r6.more hs⟩
/-- a world whose rows of stops' names, paths' names and paths are the caller's own -/
structure OwW (w : World) (B s : Nat) (x : WorldM) (p : WoA) : Prop where
  o1 : w.ownsRow (B + 1) 9 1 (wv1 x p) x.names.stops.length (cs strC x.names.stops)
  o2 : w.ownsRow (B + 1) 9 1 (wv2 x p) x.names.paths.length (cs strC x.names.paths)
  o3 : w.ownsRow (B + 1) 51 3 (wv3 x p) x.paths.length (cs poC x.paths)
  d : ∀ k, (wv1 x p).ownBlock = some k → (wv2 x p).ownBlock ≠ some k
  rr : WoR w (Away w B [wv1 x p, wv2 x p, wv3 x p, bxV s]) x p
theorem OwW.keep {w w' : World} {B s : Nat} {x : WorldM} {p : WoA} (h : OwW w B s x p) {X : Nat → Prop} (hc : Ch X w w') (h1 : ∀ v ∈ [wv1 x p, wv2 x p, wv3 x p], ∀ k, v.ownBlock = some k → ¬ X k) (h2 : ∀ b, Away w B [wv1 x p, wv2 x p, wv3 x p, bxV s] b → ¬ X b) : OwW w' B s x p :=
  ⟨hc.own h.o1 (h1 _ (by simp)), hc.own h.o2 (h1 _ (by simp)), hc.own h.o3 (h1 _ (by simp)), h.d, (h.rr.keep fun b hb => hc.block b hb.2.1 (h2 b hb)).more fun b hb => hb.on hc.size fun _ h => .inl h⟩
theorem OwW.after {w w' : World} {B s : Nat} {x : WorldM} {p : WoA} (h : OwW w B s x p) (hb : Below w.heap.size w w') : OwW w' B s x p :=
  h.keep (Ch.of_below (X := fun _ => False) hb) (fun _ _ _ _ h => h) (fun _ _ h => h)
theorem OwW.low {w w' : World} {B s : Nat} {x : WorldM} {p : WoA} (h : OwW w B s x p) {X : Nat → Prop} (hc : Ch X w w') (hX : ∀ k, X k → k ≤ B) : OwW w' B s x p := by
  refine h.keep hc ?_ (fun b hb e => by have := hX b e; have := hb.1; omega)
  intro v hv k hk e
  have := hX k e
  simp only [List.mem_cons, List.not_mem_nil, or_false] at hv
  rcases hv with rfl | rfl | rfl
  · have := (h.o1.lt k hk).1; omega
  · have := (h.o2.lt k hk).1; omega
  · have := (h.o3.lt k hk).1; omega
theorem OwW.box {w w' : World} {B s : Nat} {x : WorldM} {p : WoA} {l : List Value} (h : OwW w B s x p) (hk : Blk w s 32 l) (hc : Ch (· = s) w w') : OwW w' B s x p := by
  refine h.keep hc ?_ (fun b hb e => hb.2.2 (bxV s) (by simp) (by rw [e]; rfl))
  intro v hv
  simp only [List.mem_cons, List.not_mem_nil, or_false] at hv
  rcases hv with rfl | rfl | rfl
  · exact own_ne_blk h.o1 hk (by decide)
  · exact own_ne_blk h.o2 hk (by decide)
  · exact own_ne_blk h.o3 hk (by decide)
/-- another box, where none is yet -/
theorem OwW.at_ {w : World} {B s s' : Nat} {x : WorldM} {p : WoA} (h : OwW w B s x p) (hs : w.heap.size ≤ s') : OwW w B s' x p :=
  ⟨h.o1, h.o2, h.o3, h.d, h.rr.more fun b hb => ⟨hb.1, hb.2.1, fun v hv => by
    simp only [List.mem_cons, List.not_mem_nil, or_false] at hv
    rcases hv with rfl | rfl | rfl | rfl
    · exact hb.2.2 _ (by simp)
    · exact hb.2.2 _ (by simp)
    · exact hb.2.2 _ (by simp)
    · intro e
      have e2 : (some s' : Option Nat) = some b := e
      injection e2 with e2
      have := hb.2.1
      omega⟩⟩
theorem OwW.wo {w : World} {B s : Nat} {x : WorldM} {p : WoA} (h : OwW w B s x p) : Wo w (fun b => B < b ∧ b < w.heap.size) x p := by
  have r := h.rr.more (S' := fun b => B < b ∧ b < w.heap.size) fun b hb => ⟨hb.1, hb.2.1⟩
  exact ⟨⟨(own_rd h.o1).more fun b hb => ⟨by omega, hb.2⟩, (own_rd h.o2).more fun b hb => ⟨by omega, hb.2⟩, r.n3, r.n4, r.n5, r.n6⟩, (own_rd h.o3).more fun b hb => ⟨by omega, hb.2⟩, r.r3, r.r4, r.r5, r.r6⟩
/-- the routes come -/
theorem OwW.fin {w w' : World} {B s : Nat} {x : WorldM} {n : NaA} {b2 b3 b5 b6 A4 : Option Addr} {d2 d3 d5 d6 d4 c4 : Nat} {l c : List Value} {R : List RouteO} {A0 : Option Addr}
    (h : OwW w B s { x with routes := R } ⟨n, b2, b3, A0, b5, b6, d2, d3, d4, d5, d6⟩) (hk : Blk w s 32 l) (hc : Ch (· = s) w w') (hB : B < w.heap.size)
    (h4 : w'.ownsRow w.heap.size 111 3 (.slice A4 x.routes.length c4) x.routes.length c) (hr : Rtos w' (fun b => w.heap.size ≤ b ∧ b < w'.heap.size) x.routes c) : OwW w' B s x ⟨n, b2, b3, A4, b5, b6, d2, d3, c4, d5, d6⟩ := by
  have g := h.box hk hc
  have hsl := hk.lt
  have aw : ∀ b, w.heap.size ≤ b ∧ b < w'.heap.size → Away w' B [wv1 { x with routes := R } ⟨n, b2, b3, A0, b5, b6, d2, d3, d4, d5, d6⟩, wv2 { x with routes := R } ⟨n, b2, b3, A0, b5, b6, d2, d3, d4, d5, d6⟩, wv3 { x with routes := R } ⟨n, b2, b3, A0, b5, b6, d2, d3, d4, d5, d6⟩, bxV s] b := fun b hb => by
    refine ⟨by omega, hb.2, fun v hv e => ?_⟩
    simp only [List.mem_cons, List.not_mem_nil, or_false] at hv
    rcases hv with rfl | rfl | rfl | rfl
    · have := (h.o1.lt b e).2; omega
    · have := (h.o2.lt b e).2; omega
    · have := (h.o3.lt b e).2; omega
    · have e2 : (some s : Option Nat) = some b := e
      injection e2 with e2
      omega
  have r := g.rr
  exact ⟨g.o1, g.o2, g.o3, g.d, ⟨r.n3, r.n4, r.n5, r.n6, r.r3, ⟨c, (own_rd h4).more aw, Rtos.more aw hr⟩, r.r5, r.r6⟩⟩
/-- a route more: its own rows lie beyond all, and not in the row of routes -/
theorem rtos_more {w0 w1 w2 w3 w4 : World} {B s : Nat} {l : List RouteO} {r : RouteO} {v4 v4' : Value} {n : Nat} {c : List Value} {sa ra ya : Option Addr} {sc rc yc : Nat}
    (h4 : w0.ownsRow B 111 3 v4 n c) (h : Rtos w0 (fun b => B ≤ b ∧ b < w0.heap.size ∧ v4.ownBlock ≠ some b) l c)
    (h1 : Below w0.heap.size w0 w1) (hr : RoAt w1 (fun b => w0.heap.size ≤ b ∧ b < w1.heap.size) r sa ra ya) (h2 : Below w1.heap.size w1 w2)
    (hg : w2.grownBy w3 v4.ownBlock) (hor : v4'.ownBlock = v4.ownBlock ∨ v4'.ownBlock = some w2.heap.size) (hB : B ≤ w0.heap.size) (hs : s < B) (h3 : Ch (· = s) w3 w4) :
    Rtos w4 (fun b => B ≤ b ∧ b < w4.heap.size ∧ v4'.ownBlock ≠ some b) (l ++ [r]) (c ++ [.slice sa r.stops.length sc, .slice ra r.rides.length rc, .slice ya r.stays.length yc]) := by
  have hX : Ch (fun b => some b = v4.ownBlock) w2 w3 := Ch.of_grown hg fun k e => e
  have z1 := h1.size
  have z2 := h2.size
  have z3 := hX.size
  have z4 := h3.size
  have nv : ∀ b, b < w2.heap.size → v4.ownBlock ≠ some b → v4'.ownBlock ≠ some b := fun b hb hn e => by
    rcases hor with e2 | e2
    · exact hn (e2.symm.trans e)
    · rw [e2] at e; injection e with e; omega
  have k0 : ∀ b, B ≤ b ∧ b < w0.heap.size ∧ v4.ownBlock ≠ some b → w4.heap[b]? = w0.heap[b]? := fun b hb =>
    (h3.block b (by omega) (by omega)).trans ((hX.block b (by omega) (fun e => hb.2.2 e.symm)).trans ((h2.block b (by omega)).trans (h1.block b hb.2.1)))
  have k1 : ∀ b, w0.heap.size ≤ b ∧ b < w1.heap.size → w4.heap[b]? = w1.heap[b]? := fun b hb =>
    (h3.block b (by omega) (by omega)).trans ((hX.block b (by omega) (fun e => by have := (h4.lt b e.symm).2; omega)).trans (h2.block b hb.2))
  have m1 : ∀ b, w0.heap.size ≤ b ∧ b < w1.heap.size → B ≤ b ∧ b < w4.heap.size ∧ v4'.ownBlock ≠ some b := fun b hb => ⟨by omega, by omega, nv b (by omega) fun e => by have := (h4.lt b e).2; omega⟩
  refine Rtos.snoc ?_ (Rtos.more (fun b hb => ⟨hb.1, by omega, nv b (by omega) hb.2.2⟩) (Rtos.keep k0 h))
  exact ⟨sa, sc, ra, rc, ya, yc, [], rfl, (hr.hs.keep k1).more m1, (hr.hr.keep k1).more m1, (hr.hy.keep k1).more m1, rfl⟩
theorem rtos_next {w0 w1 w3 w4 : World} {B s : Nat} {l l2 : List RouteO} {r : RouteO} {v4 v4' : Value} {n n1 n2 n3 : Nat} {c : List Value} {sa ra ya : Option Addr} {sc rc yc : Nat}
    (h4 : w0.ownsRow B 111 3 v4 n c) (h : Rtos w0 (fun b => B ≤ b ∧ b < w0.heap.size ∧ v4.ownBlock ≠ some b) l c)
    (h1 : Below w0.heap.size w0 w1) (hr : RoAt w1 (fun b => w0.heap.size ≤ b ∧ b < w1.heap.size) r sa ra ya)
    (hg : w1.grownBy w3 v4.ownBlock) (hor : v4'.ownBlock = v4.ownBlock ∨ v4'.ownBlock = some w1.heap.size) (hB : B ≤ w0.heap.size) (hs : s < B) (h3 : Ch (· = s) w3 w4) (e1 : n1 = r.stops.length) (e2 : n2 = r.rides.length) (e3 : n3 = r.stays.length) (el : l2 = l ++ [r]) :
    Rtos w4 (fun b => B ≤ b ∧ b < w4.heap.size ∧ v4'.ownBlock ≠ some b) l2 (c ++ [.slice sa n1 sc, .slice ra n2 rc, .slice ya n3 yc]) := by
  subst e1 e2 e3 el
  exact rtos_more (w2 := w1) h4 h h1 hr (Below.refl _ _) hg hor hB hs h3
theorem sto12_below {w : World} {s : Nat} {v0 v1 v2 v3 v4 v5 v6 v7 v8 v9 v10 v11 : Value} {B : Nat} {a : World} (h : Below B a w) (hs : B ≤ s) : Below B a (sto12 w s v0 v1 v2 v3 v4 v5 v6 v7 v8 v9 v10 v11) := below_set1 (p := ⟨s, 11, none⟩) (below_set1 (p := ⟨s, 10, none⟩) (below_set1 (p := ⟨s, 9, none⟩) (below_set1 (p := ⟨s, 8, none⟩) (below_set1 (p := ⟨s, 7, none⟩) (below_set1 (p := ⟨s, 6, none⟩) (below_set1 (p := ⟨s, 5, none⟩) (below_set1 (p := ⟨s, 4, none⟩) (below_set1 (p := ⟨s, 3, none⟩) (below_set1 (p := ⟨s, 2, none⟩) (below_set1 (p := ⟨s, 1, none⟩) (below_set1 (p := ⟨s, 0, none⟩) (h) hs _) hs _) hs _) hs _) hs _) hs _) hs _) hs _) hs _) hs _) hs _) hs _
def sto6n (w : World) (g : Nat) (u1 u2 u3 u4 u5 u6 : Value) : World := ((((((w.setCell ⟨g, 1, none⟩ u1).setCell ⟨g, 2, none⟩ u2).setCell ⟨g, 3, none⟩ u3).setCell ⟨g, 4, none⟩ u4).setCell ⟨g, 5, none⟩ u5).setCell ⟨g, 6, none⟩ u6)
theorem sto6n_ch (w : World) (g : Nat) (u1 u2 u3 u4 u5 u6 : Value) : Ch (· = g) w (sto6n w g u1 u2 u3 u4 u5 u6) := by
  unfold sto6n
  exact (((((((Ch.refl (· = g) w).setCell (p := ⟨g, 1, none⟩) (.inl rfl) u1).setCell (p := ⟨g, 2, none⟩) (.inl rfl) u2).setCell (p := ⟨g, 3, none⟩) (.inl rfl) u3).setCell (p := ⟨g, 4, none⟩) (.inl rfl) u4).setCell (p := ⟨g, 5, none⟩) (.inl rfl) u5).setCell (p := ⟨g, 6, none⟩) (.inl rfl) u6)
theorem sto6n_blk {w : World} {g : Nat} {t : TypeId} {a0 a1 a2 a3 a4 a5 a6 a7 a8 a9 a10 a11 : Value} (h : Blk w g t [a0, a1, a2, a3, a4, a5, a6, a7, a8, a9, a10, a11]) (u1 u2 u3 u4 u5 u6 : Value) : Blk (sto6n w g u1 u2 u3 u4 u5 u6) g t [a0, u1, u2, u3, u4, u5, u6, a7, a8, a9, a10, a11] := by
  unfold sto6n
  exact ((((((h.set_ 1 u1).set_ 2 u2).set_ 3 u3).set_ 4 u4).set_ 5 u5).set_ 6 u6)
theorem own_rd1 {w : World} {b e s n k c : Nat} {A : Option Addr} {xs : List Value} (h : w.ownsRow b e s (.slice A n c) k xs) : Rd w (fun i => (Value.slice A n c).ownBlock = some i) A xs := by
  intro hn
  obtain ⟨ad, hA, hb, hc⟩ := own_rd h hn
  exact ⟨ad, hA, by rw [hA]; rfl, hc⟩
end Go.Proofs.YtgdanbfglefiiaaGreat.Wo
