/- A sheet whose rows are all one's own and apart: what a store into one of its rows does. Conditions: none beside those that the theorems name. -/
import Derived.Test.YtgdanbfglefiiaaGreatWoMake
import Derived.Test.YtgdanbfglefiiaaGreatWoMathZ
import Derived.Test.YtgdanbfglefiiaaGreatWoRnG
import Derived.ChangeSlices
import Derived.Deep.Strs
import Derived.Deep.SlicePairs
import Derived.ChangeArms
import Derived.Carry
import Derived.Deep.RegionHeld3
import Derived.Deep.RegionHeldLaw
import Derived.Deep.CutRange
import Derived.StillTailTactics
import Derived.WalkSpells
import Derived.Lib.QuietBelow
import Derived.Deep.QuietTactic
namespace Go.Proofs.YtgdanbfglefiiaaGreat.Wo
open Go.ChangeShapes Go.WideShapes Go.ChangeAt Go.RowKit Go.Maps
open Lx Sh It
set_option linter.unusedVariables false
set_option linter.unusedSimpArgs false
/-- the first i of a list changed -/
def upd {α : Type} (f : α → α) (i : Nat) (l : List α) : List α := (l.take i).map f ++ l.drop i
theorem upd_zero {α : Type} (f : α → α) (l : List α) : upd f 0 l = l := by simp [upd]
theorem upd_all {α : Type} (f : α → α) (l : List α) : upd f l.length l = l.map f := by simp [upd]
theorem upd_len {α : Type} (f : α → α) (i : Nat) (l : List α) : (upd f i l).length = l.length := by simp [upd]; omega
theorem upd_at {α : Type} (f : α → α) {i : Nat} {l : List α} {a : α} (h : l[i]? = some a) : (upd f i l)[i]? = some a := by
  have hi := (List.getElem?_eq_some_iff.1 h).1
  unfold upd
  rw [List.getElem?_append_right (by simp; omega)]
  simp [Nat.min_eq_left (Nat.le_of_lt hi), h]
theorem upd_next {α : Type} (f : α → α) : ∀ {i : Nat} {l : List α} {a : α}, l[i]? = some a → upd f (i + 1) l = (upd f i l).set i (f a)
  | _, [], _, h => by simp at h
  | 0, b :: l, a, h => by simp at h; subst h; simp [upd]
  | i + 1, b :: l, a, h => by
    simp at h
    have g := upd_next f h
    unfold upd at g ⊢
    simp only [List.take_succ_cons, List.map_cons, List.drop_succ_cons, List.cons_append, List.set_cons_succ]
    rw [g]
theorem flat_set {sz : Nat} {j : Nat} {u : Value} (hj : j < sz) : ∀ {L : List (List Value)} {i : Nat} {c : List Value}, (∀ q ∈ L, q.length = sz) → L[i]? = some c → L.flatten.set (i * sz + j) u = (L.set i (c.set j u)).flatten
  | [], _, _, _, h => by simp at h
  | b :: L, 0, c, hl, h => by
    simp at h; subst h
    have hb := hl b (by simp)
    simp only [List.flatten_cons, Nat.zero_mul, Nat.zero_add, List.set_cons_zero]
    exact List.set_append_left _ _ (by omega)
  | b :: L, i + 1, c, hl, h => by
    simp at h
    have hb := hl b (by simp)
    simp only [List.flatten_cons, List.set_cons_succ]
    rw [List.set_append_right _ _ (by rw [hb, Nat.succ_mul]; omega), ← flat_set hj (fun q hq => hl q (by simp [hq])) h, hb, Nat.succ_mul]
    congr 2
    omega
theorem cs_flat {α : Type} (f : α → List Value) (l : List α) : cs f l = (l.map f).flatten := by simp [cs, List.flatMap_def]
section
variable {α : Type} {f : α → List Value} {sz : Nat}
theorem cs_put {l : List α} {i : Nat} {a a' : α} {c : List Value} (hf : ∀ a, (f a).length = sz) (h : l[i]? = some a) (hc : c = f a') : cs f (l.set i a') = ((l.map f).set i c).flatten := by
  rw [cs_flat, hc, List.map_set]
theorem cs_put1 {l : List α} {i : Nat} {a a' : α} {u0 : Value} (hf : ∀ a, (f a).length = sz) (h : l[i]? = some a) (hs : 0 < sz) (hc : (f a).set 0 u0 = f a') : (cs f l).set (i * sz) u0 = cs f (l.set i a') := by
  have hL : ∀ q ∈ l.map f, q.length = sz := fun q hq => by obtain ⟨b, -, rfl⟩ := List.mem_map.1 hq; exact hf b
  have e := flat_set (j := 0) (u := u0) hs hL (i := i) (c := f a) (by simp [h])
  rw [cs_put hf h hc, cs_flat]
  simpa using e
theorem set_in {L : List (List Value)} {i : Nat} {c d : List Value} (hL : ∀ q ∈ L, q.length = sz) (hd : d.length = sz) : ∀ q ∈ L.set i d, q.length = sz := fun q hq => by
  rcases List.mem_or_eq_of_mem_set hq with g | g
  · exact hL q g
  · rw [g]; exact hd
theorem cs_put2 {l : List α} {i : Nat} {a a' : α} {u0 u1 : Value} (hf : ∀ a, (f a).length = sz) (h : l[i]? = some a) (hs : 1 < sz) (hc : ((f a).set 0 u0).set 1 u1 = f a') : ((cs f l).set (i * sz) u0).set (i * sz + 1) u1 = cs f (l.set i a') := by
  have hL : ∀ q ∈ l.map f, q.length = sz := fun q hq => by obtain ⟨b, -, rfl⟩ := List.mem_map.1 hq; exact hf b
  have hi := (List.getElem?_eq_some_iff.1 h).1
  have e := flat_set (j := 0) (u := u0) (by omega) hL (i := i) (c := f a) (by simp [h])
  have e1 := flat_set (j := 1) (u := u1) hs (set_in (c := f a) (d := (f a).set 0 u0) (i := i) hL (by simp [hf])) (i := i) (c := (f a).set 0 u0) (by simp [hi])
  rw [cs_put hf h hc, cs_flat]
  rw [Nat.add_zero] at e
  rw [e, e1, List.set_set]
theorem cs_put3 {l : List α} {i : Nat} {a a' : α} {u0 u1 u2 : Value} (hf : ∀ a, (f a).length = sz) (h : l[i]? = some a) (hs : 2 < sz) (hc : (((f a).set 0 u0).set 1 u1).set 2 u2 = f a') : (((cs f l).set (i * sz) u0).set (i * sz + 1) u1).set (i * sz + 2) u2 = cs f (l.set i a') := by
  have hL : ∀ q ∈ l.map f, q.length = sz := fun q hq => by obtain ⟨b, -, rfl⟩ := List.mem_map.1 hq; exact hf b
  have hi := (List.getElem?_eq_some_iff.1 h).1
  have e := flat_set (j := 0) (u := u0) (by omega) hL (i := i) (c := f a) (by simp [h])
  have h1 := set_in (c := f a) (d := (f a).set 0 u0) (i := i) hL (by simp [hf])
  have e1 := flat_set (j := 1) (u := u1) (by omega) h1 (i := i) (c := (f a).set 0 u0) (by simp [hi])
  have h2 := set_in (c := f a) (d := ((f a).set 0 u0).set 1 u1) (i := i) h1 (by simp [hf])
  have e2 := flat_set (j := 2) (u := u2) hs h2 (i := i) (c := ((f a).set 0 u0).set 1 u1) (by simp [hi])
  rw [cs_put hf h hc, cs_flat]
  rw [Nat.add_zero] at e
  rw [e, e1, e2, List.set_set, List.set_set]
end
/-- a row of one's own with something in it: where it lies, and what a store does -/
structure El (w : World) (b : Nat) (e : TypeId) (s n c : Nat) (A : Option Addr) (xs : List Value) (ad : Addr) : Prop where
  hA : A = some ad
  lo : b ≤ ad.block
  hi : ad.block < w.heap.size
  ob : (Value.slice A n c).ownBlock = some ad.block
  eq : ∀ j i, (⟨(ad.add j).block, (ad.add j).off + i, none⟩ : Addr) = ad.add (j + i)
  cell : ∀ j u, xs[j]? = some u → w.cell? (ad.add j) = some u
  fz : ∀ j, w.frozen? (ad.add j) = false
  blk : ∀ j, (ad.add j).block = ad.block
theorem own_el {w : World} {b e s n c : Nat} {A : Option Addr} {xs : List Value} (h : w.ownsRow b e s (.slice A n c) n xs) (hn : 0 < n) : ∃ ad, El w b e s n c A xs ad := by
  obtain ⟨g, cap, e1⟩ : ∃ g cap, Value.slice A n c = .slice (some ⟨g, 0, none⟩) n cap := by
    rcases h.2 with ⟨e1, -⟩ | ⟨g, cap, cur, e1, -⟩
    · injection e1 with e2 e3; omega
    · exact ⟨g, cap, e1⟩
  injection e1 with e2 e3 e4
  subst e2 e4
  have hl := h.lt g rfl
  refine ⟨⟨g, 0, none⟩, rfl, hl.1, hl.2, rfl, fun j i => by simp only [Addr.add_lit, Nat.add_assoc], fun j u hu => h.cells (g := g) rfl j u hu, fun j => ?_, fun j => by rw [Addr.add_lit]⟩
  rw [Addr.add_lit]
  exact h.frozenAt (g := g) (cap := c) (0 + j)
theorem El.put {w : World} {b e s n c : Nat} {A : Option Addr} {xs : List Value} {ad : Addr} (k : El w b e s n c A xs ad) (h : w.ownsRow b e s (.slice A n c) n xs) (j : Nat) (u : Value) :
    (w.setCell (ad.add j) u).ownsRow b e s (.slice A n c) n (xs.set j u) ∧ Ch (fun i => some i = (Value.slice A n c).ownBlock) w (w.setCell (ad.add j) u) ∧ El (w.setCell (ad.add j) u) b e s n c A (xs.set j u) ad := by
  obtain ⟨g, cap, e1⟩ : ∃ g cap, Value.slice A n c = .slice (some ⟨g, 0, none⟩) n cap := by
    rcases h.2 with ⟨e1, -⟩ | ⟨g, cap, cur, e1, -⟩
    · injection e1 with e2 e3; have := k.hA; rw [e2] at this; cases this
    · exact ⟨g, cap, e1⟩
  injection e1 with e2 e3 e4
  subst e2 e4
  obtain rfl : (⟨g, 0, none⟩ : Addr) = ad := by have := k.hA; injection this
  have g1 := h.stored (g := g) (cap := c) (0 + j) u
  simp only [Nat.zero_add] at g1
  have e5 : (Addr.add ⟨g, 0, none⟩ j) = ⟨g, j, none⟩ := by rw [Addr.add_lit, Nat.zero_add]
  rw [e5]
  refine ⟨g1.1, Ch.of_grown g1.2 fun i e => e, ?_⟩
  refine ⟨rfl, k.lo, by simpa using k.hi, rfl, k.eq, fun i v hv => g1.1.cells (g := g) rfl i v hv, fun i => ?_, fun i => by rw [Addr.add_lit]⟩
  rw [Addr.add_lit]
  exact g1.1.frozenAt (g := g) (cap := c) (0 + i)
theorem OwX.put1 {w w' : World} {B s : Nat} {x : SheetM} {v1 v2 v3 v4 v5 v6 : Value} {l : List Nm} (h : OwX w B s x v1 v2 v3 v4 v5 v6) (hX : Ch (fun b => some b = v1.ownBlock) w w') (ho : w'.ownsRow (B + 1) 9 1 v1 x.stops.length (cs strC l)) (hl : l.length = x.stops.length) : OwX w' B s { x with stops := l } v1 v2 v3 v4 v5 v6 := by
  obtain ⟨c, h4, h4'⟩ := h.r4
  exact ⟨by rw [hl]; exact ho, hX.own h.r2 (fun k e e' => own_ne h.r2 h.r1 (by decide) k e e'.symm), hX.own h.r3 (fun k e e' => own_ne h.r3 h.r1 (by decide) k e e'.symm), ⟨c, hX.own h4 (fun k e e' => own_ne h4 h.r1 (by decide) k e e'.symm), (h4'.keep fun b hb => hX.block b hb.2.1 (fun e => hb.2.2 v1 (by simp) e.symm)).more fun b hb => hb.on hX.size fun _ h => .inl h⟩, hX.own h.r5 (fun k e e' => own_ne h.r5 h.r1 (by decide) k e e'.symm), hX.own h.r6 (fun k e e' => own_ne h.r6 h.r1 (by decide) k e e'.symm)⟩
theorem OwX.put2 {w w' : World} {B s : Nat} {x : SheetM} {v1 v2 v3 v4 v5 v6 : Value} {l : List PathM} (h : OwX w B s x v1 v2 v3 v4 v5 v6) (hX : Ch (fun b => some b = v2.ownBlock) w w') (ho : w'.ownsRow (B + 1) 65 4 v2 x.paths.length (cs paC l)) (hl : l.length = x.paths.length) : OwX w' B s { x with paths := l } v1 v2 v3 v4 v5 v6 := by
  obtain ⟨c, h4, h4'⟩ := h.r4
  exact ⟨hX.own h.r1 (fun k e e' => own_ne h.r1 h.r2 (by decide) k e e'.symm), by rw [hl]; exact ho, hX.own h.r3 (fun k e e' => own_ne h.r3 h.r2 (by decide) k e e'.symm), ⟨c, hX.own h4 (fun k e e' => own_ne h4 h.r2 (by decide) k e e'.symm), (h4'.keep fun b hb => hX.block b hb.2.1 (fun e => hb.2.2 v2 (by simp) e.symm)).more fun b hb => hb.on hX.size fun _ h => .inl h⟩, hX.own h.r5 (fun k e e' => own_ne h.r5 h.r2 (by decide) k e e'.symm), hX.own h.r6 (fun k e e' => own_ne h.r6 h.r2 (by decide) k e e'.symm)⟩
theorem OwX.put3 {w w' : World} {B s : Nat} {x : SheetM} {v1 v2 v3 v4 v5 v6 : Value} {l : List DoorM} (h : OwX w B s x v1 v2 v3 v4 v5 v6) (hX : Ch (fun b => some b = v3.ownBlock) w w') (ho : w'.ownsRow (B + 1) 55 7 v3 x.doors.length (cs doC l)) (hl : l.length = x.doors.length) : OwX w' B s { x with doors := l } v1 v2 v3 v4 v5 v6 := by
  obtain ⟨c, h4, h4'⟩ := h.r4
  exact ⟨hX.own h.r1 (fun k e e' => own_ne h.r1 h.r3 (by decide) k e e'.symm), hX.own h.r2 (fun k e e' => own_ne h.r2 h.r3 (by decide) k e e'.symm), by rw [hl]; exact ho, ⟨c, hX.own h4 (fun k e e' => own_ne h4 h.r3 (by decide) k e e'.symm), (h4'.keep fun b hb => hX.block b hb.2.1 (fun e => hb.2.2 v3 (by simp) e.symm)).more fun b hb => hb.on hX.size fun _ h => .inl h⟩, hX.own h.r5 (fun k e e' => own_ne h.r5 h.r3 (by decide) k e e'.symm), hX.own h.r6 (fun k e e' => own_ne h.r6 h.r3 (by decide) k e e'.symm)⟩
theorem OwX.put5 {w w' : World} {B s : Nat} {x : SheetM} {v1 v2 v3 v4 v5 v6 : Value} {l : List TripM} (h : OwX w B s x v1 v2 v3 v4 v5 v6) (hX : Ch (fun b => some b = v5.ownBlock) w w') (ho : w'.ownsRow (B + 1) 67 5 v5 x.trips.length (cs trC l)) (hl : l.length = x.trips.length) : OwX w' B s { x with trips := l } v1 v2 v3 v4 v5 v6 := by
  obtain ⟨c, h4, h4'⟩ := h.r4
  exact ⟨hX.own h.r1 (fun k e e' => own_ne h.r1 h.r5 (by decide) k e e'.symm), hX.own h.r2 (fun k e e' => own_ne h.r2 h.r5 (by decide) k e e'.symm), hX.own h.r3 (fun k e e' => own_ne h.r3 h.r5 (by decide) k e e'.symm), ⟨c, hX.own h4 (fun k e e' => own_ne h4 h.r5 (by decide) k e e'.symm), (h4'.keep fun b hb => hX.block b hb.2.1 (fun e => hb.2.2 v5 (by simp) e.symm)).more fun b hb => hb.on hX.size fun _ h => .inl h⟩, by rw [hl]; exact ho, hX.own h.r6 (fun k e e' => own_ne h.r6 h.r5 (by decide) k e e'.symm)⟩
theorem OwX.put6 {w w' : World} {B s : Nat} {x : SheetM} {v1 v2 v3 v4 v5 v6 : Value} {l : List HazM} (h : OwX w B s x v1 v2 v3 v4 v5 v6) (hX : Ch (fun b => some b = v6.ownBlock) w w') (ho : w'.ownsRow (B + 1) 78 5 v6 x.hazards.length (cs haC l)) (hl : l.length = x.hazards.length) : OwX w' B s { x with hazards := l } v1 v2 v3 v4 v5 v6 := by
  obtain ⟨c, h4, h4'⟩ := h.r4
  exact ⟨hX.own h.r1 (fun k e e' => own_ne h.r1 h.r6 (by decide) k e e'.symm), hX.own h.r2 (fun k e e' => own_ne h.r2 h.r6 (by decide) k e e'.symm), hX.own h.r3 (fun k e e' => own_ne h.r3 h.r6 (by decide) k e e'.symm), ⟨c, hX.own h4 (fun k e e' => own_ne h4 h.r6 (by decide) k e e'.symm), (h4'.keep fun b hb => hX.block b hb.2.1 (fun e => hb.2.2 v6 (by simp) e.symm)).more fun b hb => hb.on hX.size fun _ h => .inl h⟩, hX.own h.r5 (fun k e e' => own_ne h.r5 h.r6 (by decide) k e e'.symm), by rw [hl]; exact ho⟩
theorem OwX.put4 {w w' : World} {B s : Nat} {x : SheetM} {v1 v2 v3 v4 v5 v6 : Value} {l : List RouteM} {c c' : List Value} (h : OwX w B s x v1 v2 v3 v4 v5 v6) (h4 : w.ownsRow (B + 1) 72 4 v4 x.routes.length c) (hX : Ch (fun b => some b = v4.ownBlock) w w') (ho : w'.ownsRow (B + 1) 72 4 v4 x.routes.length c') (hr : Rtx w' (Away w B [v1, v2, v3, v4, v5, v6, bxV s]) l c') (hl : l.length = x.routes.length) : OwX w' B s { x with routes := l } v1 v2 v3 v4 v5 v6 :=
  ⟨hX.own h.r1 (fun k e e' => own_ne h.r1 h4 (by decide) k e e'.symm), hX.own h.r2 (fun k e e' => own_ne h.r2 h4 (by decide) k e e'.symm), hX.own h.r3 (fun k e e' => own_ne h.r3 h4 (by decide) k e e'.symm), ⟨c', by rw [hl]; exact ho, hr.more fun b hb => hb.on hX.size fun _ h => .inl h⟩, hX.own h.r5 (fun k e e' => own_ne h.r5 h4 (by decide) k e e'.symm), hX.own h.r6 (fun k e e' => own_ne h.r6 h4 (by decide) k e e'.symm)⟩
theorem OwX.putR {w w' : World} {B s : Nat} {x : SheetM} {v1 v2 v3 v4 v5 v6 u : Value} {l : List RouteM} {c : List Value} (h : OwX w B s x v1 v2 v3 v4 v5 v6) (h4 : w.ownsRow (B + 1) 72 4 v4 x.routes.length c) (hu : ∀ k, u.ownBlock = some k → Away w B [v1, v2, v3, v4, v5, v6, bxV s] k) (hX : Ch (fun b => some b = u.ownBlock) w w') (hr : Rtx w' (Away w B [v1, v2, v3, v4, v5, v6, bxV s]) l c) (hl : l.length = x.routes.length) : OwX w' B s { x with routes := l } v1 v2 v3 v4 v5 v6 := by
  have f : ∀ {v : Value}, v ∈ [v1, v2, v3, v4, v5, v6, bxV s] → ∀ k, v.ownBlock = some k → ¬ some k = u.ownBlock := fun hv k e e' => (hu k e'.symm).2.2 _ hv e
  exact ⟨hX.own h.r1 (f (by simp)), hX.own h.r2 (f (by simp)), hX.own h.r3 (f (by simp)), ⟨c, by rw [hl]; exact hX.own h4 (f (by simp)), hr.more fun b hb => hb.on hX.size fun _ h => .inl h⟩, hX.own h.r5 (f (by simp)), hX.own h.r6 (f (by simp))⟩
theorem OwX.sh {w : World} {B s : Nat} {x : SheetM} {p : ShA} (h : OwX w B s x (.slice p.a1 x.stops.length p.c1) (.slice p.a2 x.paths.length p.c2) (.slice p.a3 x.doors.length p.c3) (.slice p.a4 x.routes.length p.c4) (.slice p.a5 x.trips.length p.c5) (.slice p.a6 x.hazards.length p.c6)) : Sh w (· < w.heap.size) x p := by
  obtain ⟨c, h4, h4'⟩ := h.r4
  exact ⟨(own_rd h.r1).more fun b hb => hb.2, (own_rd h.r2).more fun b hb => hb.2, (own_rd h.r3).more fun b hb => hb.2, ⟨c, (own_rd h4).more fun b hb => hb.2, Rts.more (fun b hb => hb.2.1) h4'.rts⟩, (own_rd h.r5).more fun b hb => hb.2, (own_rd h.r6).more fun b hb => hb.2⟩
end Go.Proofs.YtgdanbfglefiiaaGreat.Wo
