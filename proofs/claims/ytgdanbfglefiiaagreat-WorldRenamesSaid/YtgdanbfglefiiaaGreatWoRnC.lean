/- A round of each loop of WorldRenames, as worlds see it. Conditions: none beside those that the theorems name. -/
import Derived.Test.YtgdanbfglefiiaaGreatWoRnB
import Derived.ChangeSlices
import Derived.Deep.Strs
import Derived.Deep.SlicePairs
import Derived.ChangeArms
import Derived.Carry
import Derived.Deep.RegionHeld3
import Derived.Deep.RegionHeldLaw
import Derived.Deep.CutRange
import Derived.StillTailTactics
import Derived.WalkSpells
import Derived.Lib.QuietBelow
import Derived.Deep.QuietTactic
namespace Go.Proofs.YtgdanbfglefiiaaGreat.Wo
open Go.ChangeShapes Go.WideShapes Go.ChangeAt Go.RowKit Go.Maps
open Lx Sh It
set_option linter.unusedVariables false
set_option linter.unusedSimpArgs false
/-- the copy under way: its rows one's own, its box, and nothing else changed -/
structure Rn (w5 : World) (s sb : Nat) (Y : List Value) (v1 v2 v3 v4 v5 v6 : Value) (x : SheetM) (w : World) : Prop where
  o : OwX w (w5.heap.size + 1) sb x v1 v2 v3 v4 v5 v6
  k : Blk w s 44 Y
  b : Below w5.heap.size w5 w
theorem Rn.drew {w5 w : World} {s sb : Nat} {Y : List Value} {v1 v2 v3 v4 v5 v6 : Value} {x : SheetM} (h : Rn w5 s sb Y v1 v2 v3 v4 v5 v6 x w) : Rn w5 s sb Y v1 v2 v3 v4 v5 v6 x w.drew := ⟨h.o.after (below_drew (Below.refl _ _)), h.k.after (below_drew (Below.refl _ _)), below_drew h.b⟩
theorem Rn.put1 {w5 w : World} {s sb n c i : Nat} {Y : List Value} {v2 v3 v4 v5 v6 : Value} {A : Option Addr} {ad : Addr} {x : SheetM} {l : List Nm} {a : Nm} (h : Rn w5 s sb Y (.slice A n c) v2 v3 v4 v5 v6 { x with stops := upd rz i l } w) (hs : w5.heap.size ≤ s) (hn : l.length = n) (ha : l[i]? = some a) (E : El w (w5.heap.size + 1 + 1) 9 1 n c A (cs strC (upd rz i l)) ad) :
    Rn w5 s sb Y (.slice A n c) v2 v3 v4 v5 v6 { x with stops := upd rz (i + 1) l } (w.setCell (ad.add i) (.string ⟨(rz a).toArray⟩)) := by
  have h1 : w.ownsRow (w5.heap.size + 1 + 1) 9 1 (.slice A n c) (upd rz i l).length (cs strC (upd rz i l)) := h.o.r1
  rw [upd_len, hn] at h1
  have g0 := E.put h1 i (.string ⟨(rz a).toArray⟩)
  have hX := g0.2.1
  have he := cs_put1 (f := strC) (sz := 1) (a' := rz a) (u0 := .string ⟨(rz a).toArray⟩) (fun _ => rfl) (upd_at rz ha) (by omega) rfl
  rw [Nat.mul_one] at he
  rw [← upd_next rz ha] at he
  have h2 := g0.1
  rw [he] at h2
  refine ⟨OwX.put1 (x := { x with stops := upd rz i l }) h.o hX (by show World.ownsRow _ _ _ _ _ (upd rz i l).length _; rw [upd_len, hn]; exact h2) (by show _ = (upd rz i l).length; rw [upd_len, upd_len]), hX.blk h.k fun e => own_ne_blk h1 h.k (by decide) s e.symm rfl, h.b.trans (hX.below (by have := h.b.size; exact this) fun k e => ?_)⟩
  have := (h1.lt k e.symm).1; omega
theorem Rn.put2 {w5 w : World} {s sb n c i : Nat} {Y : List Value} {v1 v3 v4 v5 v6 : Value} {A : Option Addr} {ad : Addr} {x : SheetM} {l : List PathM} {a : PathM} (h : Rn w5 s sb Y v1 (.slice A n c) v3 v4 v5 v6 { x with paths := upd rzP i l } w) (hs : w5.heap.size ≤ s) (hn : l.length = n) (ha : l[i]? = some a) (E : El w (w5.heap.size + 1 + 1) 65 4 n c A (cs paC (upd rzP i l)) ad) :
    Rn w5 s sb Y v1 (.slice A n c) v3 v4 v5 v6 { x with paths := upd rzP (i + 1) l } (((w.setCell (ad.add (i * 4)) (.string ⟨(rz a.name).toArray⟩)).setCell ⟨(ad.add (i * 4)).block, (ad.add (i * 4)).off + 1, none⟩ (.string ⟨(rz a.a).toArray⟩)).setCell ⟨(ad.add (i * 4)).block, (ad.add (i * 4)).off + 2, none⟩ (.string ⟨(rz a.b).toArray⟩)) := by
  have h1 : w.ownsRow (w5.heap.size + 1 + 1) 65 4 (.slice A n c) (upd rzP i l).length (cs paC (upd rzP i l)) := h.o.r2
  rw [upd_len, hn] at h1
  have g0 := E.put h1 (i * 4) (.string ⟨(rz a.name).toArray⟩)
  have g1 := g0.2.2.put g0.1 (i * 4 + 1) (.string ⟨(rz a.a).toArray⟩)
  have g2 := g1.2.2.put g1.1 (i * 4 + 2) (.string ⟨(rz a.b).toArray⟩)
  rw [E.eq, E.eq]
  have hX := ((g0.2.1).trans g1.2.1).trans g2.2.1
  have he := cs_put3 (f := paC) (sz := 4) (a' := rzP a) (u0 := .string ⟨(rz a.name).toArray⟩) (u1 := .string ⟨(rz a.a).toArray⟩) (u2 := .string ⟨(rz a.b).toArray⟩) (fun _ => rfl) (upd_at rzP ha) (by omega) rfl
  rw [← upd_next rzP ha] at he
  have h2 := g2.1
  rw [he] at h2
  refine ⟨OwX.put2 (x := { x with paths := upd rzP i l }) h.o hX (by show World.ownsRow _ _ _ _ _ (upd rzP i l).length _; rw [upd_len, hn]; exact h2) (by show _ = (upd rzP i l).length; rw [upd_len, upd_len]), hX.blk h.k fun e => own_ne_blk h1 h.k (by decide) s e.symm rfl, h.b.trans (hX.below (by have := h.b.size; exact this) fun k e => ?_)⟩
  have := (h1.lt k e.symm).1; omega
theorem Rn.put3 {w5 w : World} {s sb n c i : Nat} {Y : List Value} {v1 v2 v4 v5 v6 : Value} {A : Option Addr} {ad : Addr} {x : SheetM} {l : List DoorM} {a : DoorM} (h : Rn w5 s sb Y v1 v2 (.slice A n c) v4 v5 v6 { x with doors := upd rzD i l } w) (hs : w5.heap.size ≤ s) (hn : l.length = n) (ha : l[i]? = some a) (E : El w (w5.heap.size + 1 + 1) 55 7 n c A (cs doC (upd rzD i l)) ad) :
    Rn w5 s sb Y v1 v2 (.slice A n c) v4 v5 v6 { x with doors := upd rzD (i + 1) l } (((w.setCell (ad.add (i * 7)) (.string ⟨(rz a.name).toArray⟩)).setCell ⟨(ad.add (i * 7)).block, (ad.add (i * 7)).off + 1, none⟩ (.string ⟨(rz a.a).toArray⟩)).setCell ⟨(ad.add (i * 7)).block, (ad.add (i * 7)).off + 2, none⟩ (.string ⟨(rz a.b).toArray⟩)) := by
  have h1 : w.ownsRow (w5.heap.size + 1 + 1) 55 7 (.slice A n c) (upd rzD i l).length (cs doC (upd rzD i l)) := h.o.r3
  rw [upd_len, hn] at h1
  have g0 := E.put h1 (i * 7) (.string ⟨(rz a.name).toArray⟩)
  have g1 := g0.2.2.put g0.1 (i * 7 + 1) (.string ⟨(rz a.a).toArray⟩)
  have g2 := g1.2.2.put g1.1 (i * 7 + 2) (.string ⟨(rz a.b).toArray⟩)
  rw [E.eq, E.eq]
  have hX := ((g0.2.1).trans g1.2.1).trans g2.2.1
  have he := cs_put3 (f := doC) (sz := 7) (a' := rzD a) (u0 := .string ⟨(rz a.name).toArray⟩) (u1 := .string ⟨(rz a.a).toArray⟩) (u2 := .string ⟨(rz a.b).toArray⟩) (fun _ => rfl) (upd_at rzD ha) (by omega) rfl
  rw [← upd_next rzD ha] at he
  have h2 := g2.1
  rw [he] at h2
  refine ⟨OwX.put3 (x := { x with doors := upd rzD i l }) h.o hX (by show World.ownsRow _ _ _ _ _ (upd rzD i l).length _; rw [upd_len, hn]; exact h2) (by show _ = (upd rzD i l).length; rw [upd_len, upd_len]), hX.blk h.k fun e => own_ne_blk h1 h.k (by decide) s e.symm rfl, h.b.trans (hX.below (by have := h.b.size; exact this) fun k e => ?_)⟩
  have := (h1.lt k e.symm).1; omega
theorem Rn.put5 {w5 w : World} {s sb n c i : Nat} {Y : List Value} {v1 v2 v3 v4 v6 : Value} {A : Option Addr} {ad : Addr} {x : SheetM} {l : List TripM} {a : TripM} (h : Rn w5 s sb Y v1 v2 v3 v4 (.slice A n c) v6 { x with trips := upd rzT i l } w) (hs : w5.heap.size ≤ s) (hn : l.length = n) (ha : l[i]? = some a) (E : El w (w5.heap.size + 1 + 1) 67 5 n c A (cs trC (upd rzT i l)) ad) :
    Rn w5 s sb Y v1 v2 v3 v4 (.slice A n c) v6 { x with trips := upd rzT (i + 1) l } ((w.setCell (ad.add (i * 5)) (.string ⟨(rz a.name).toArray⟩)).setCell ⟨(ad.add (i * 5)).block, (ad.add (i * 5)).off + 1, none⟩ (.string ⟨(rz a.route).toArray⟩)) := by
  have h1 : w.ownsRow (w5.heap.size + 1 + 1) 67 5 (.slice A n c) (upd rzT i l).length (cs trC (upd rzT i l)) := h.o.r5
  rw [upd_len, hn] at h1
  have g0 := E.put h1 (i * 5) (.string ⟨(rz a.name).toArray⟩)
  have g1 := g0.2.2.put g0.1 (i * 5 + 1) (.string ⟨(rz a.route).toArray⟩)
  rw [E.eq]
  have hX := (g0.2.1).trans g1.2.1
  have he := cs_put2 (f := trC) (sz := 5) (a' := rzT a) (u0 := .string ⟨(rz a.name).toArray⟩) (u1 := .string ⟨(rz a.route).toArray⟩) (fun _ => rfl) (upd_at rzT ha) (by omega) rfl
  rw [← upd_next rzT ha] at he
  have h2 := g1.1
  rw [he] at h2
  refine ⟨OwX.put5 (x := { x with trips := upd rzT i l }) h.o hX (by show World.ownsRow _ _ _ _ _ (upd rzT i l).length _; rw [upd_len, hn]; exact h2) (by show _ = (upd rzT i l).length; rw [upd_len, upd_len]), hX.blk h.k fun e => own_ne_blk h1 h.k (by decide) s e.symm rfl, h.b.trans (hX.below (by have := h.b.size; exact this) fun k e => ?_)⟩
  have := (h1.lt k e.symm).1; omega
theorem Rn.put6 {w5 w : World} {s sb n c i : Nat} {Y : List Value} {v1 v2 v3 v4 v5 : Value} {A : Option Addr} {ad : Addr} {x : SheetM} {l : List HazM} {a : HazM} (h : Rn w5 s sb Y v1 v2 v3 v4 v5 (.slice A n c) { x with hazards := upd rzH i l } w) (hs : w5.heap.size ≤ s) (hn : l.length = n) (ha : l[i]? = some a) (E : El w (w5.heap.size + 1 + 1) 78 5 n c A (cs haC (upd rzH i l)) ad) :
    Rn w5 s sb Y v1 v2 v3 v4 v5 (.slice A n c) { x with hazards := upd rzH (i + 1) l } ((w.setCell (ad.add (i * 5)) (.string ⟨(rz a.name).toArray⟩)).setCell ⟨(ad.add (i * 5)).block, (ad.add (i * 5)).off + 1, none⟩ (.string ⟨(rz a.at_).toArray⟩)) := by
  have h1 : w.ownsRow (w5.heap.size + 1 + 1) 78 5 (.slice A n c) (upd rzH i l).length (cs haC (upd rzH i l)) := h.o.r6
  rw [upd_len, hn] at h1
  have g0 := E.put h1 (i * 5) (.string ⟨(rz a.name).toArray⟩)
  have g1 := g0.2.2.put g0.1 (i * 5 + 1) (.string ⟨(rz a.at_).toArray⟩)
  rw [E.eq]
  have hX := (g0.2.1).trans g1.2.1
  have he := cs_put2 (f := haC) (sz := 5) (a' := rzH a) (u0 := .string ⟨(rz a.name).toArray⟩) (u1 := .string ⟨(rz a.at_).toArray⟩) (fun _ => rfl) (upd_at rzH ha) (by omega) rfl
  rw [← upd_next rzH ha] at he
  have h2 := g1.1
  rw [he] at h2
  refine ⟨OwX.put6 (x := { x with hazards := upd rzH i l }) h.o hX (by show World.ownsRow _ _ _ _ _ (upd rzH i l).length _; rw [upd_len, hn]; exact h2) (by show _ = (upd rzH i l).length; rw [upd_len, upd_len]), hX.blk h.k fun e => own_ne_blk h1 h.k (by decide) s e.symm rfl, h.b.trans (hX.below (by have := h.b.size; exact this) fun k e => ?_)⟩
  have := (h1.lt k e.symm).1; omega
end Go.Proofs.YtgdanbfglefiiaaGreat.Wo
