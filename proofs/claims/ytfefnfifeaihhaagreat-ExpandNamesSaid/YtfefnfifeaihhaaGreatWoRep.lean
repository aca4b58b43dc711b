/- Worlds as they lie in memory: cells of their things, rows of routes, what keeps them. No conditions. -/
import Derived.Test.YtfefnfifeaihhaaGreatBaF
import Derived.Test.YtfefnfifeaihhaaGreatWoMath
import Derived.WalkSpells
import Derived.Lib.QuietBelow
set_option linter.unusedVariables false
set_option linter.unusedSimpArgs false
set_option maxHeartbeats 1000000
set_option maxRecDepth 100000
namespace Go.Proofs.YtfefnfifeaihhaaGreat.Wo
open Go.ChangeShapes Go.WideShapes Go.ChangeAt Go.RowKit Go.Maps
open Lx Sh
def poC (p : PathO) : List Value := [i64 p.a, i64 p.b, i64 p.len]
def dooC (p : DoorO) : List Value := [i64 p.a, i64 p.b, i64 p.len, i64 p.times.frm, i64 p.times.every, i64 p.times.len]
def toC (p : TripO) : List Value := [i64 p.route, i64 p.frm, i64 p.every, i64 p.til]
def hoC (p : HazO) : List Value := [.bool p.stop, i64 p.on_, i64 p.times.frm, i64 p.times.every, i64 p.times.len]
abbrev poV (p : PathO) : Value := .agg #[.int .i64 p.a, .int .i64 p.b, .int .i64 p.len]
abbrev toV (p : TripO) : Value := .agg #[.int .i64 p.route, .int .i64 p.frm, .int .i64 p.every, .int .i64 p.til]
abbrev wrV (x : WrM) : Value := .agg #[.int .i64 x.err, .int .i64 x.kind, .int .i64 x.at_]
/-- rows of routes with numbers -/
def Rtos (w : World) (S : Nat → Prop) : List RouteO → List Value → Prop
  | [], c => c = []
  | r :: l, c => ∃ (sa : Option Addr) (sc : Nat) (ra : Option Addr) (rc : Nat) (ya : Option Addr) (yc : Nat) (rest : List Value),
      c = .slice sa r.stops.length sc :: .slice ra r.rides.length rc :: .slice ya r.stays.length yc :: rest ∧
      Rd w S sa (cs intC r.stops) ∧ Rd w S ra (cs intC r.rides) ∧ Rd w S ya (cs intC r.stays) ∧ Rtos w S l rest
theorem Rtos.keep {w w' : World} {S : Nat → Prop} (hk : ∀ b, S b → w'.heap[b]? = w.heap[b]?) : ∀ {l : List RouteO} {c : List Value}, Rtos w S l c → Rtos w' S l c
  | [], _, h => h
  | _ :: _, _, ⟨sa, sc, ra, rc, ya, yc, rest, e, h1, h2, h3, h4⟩ => ⟨sa, sc, ra, rc, ya, yc, rest, e, h1.keep hk, h2.keep hk, h3.keep hk, Rtos.keep hk h4⟩
theorem Rtos.more {w : World} {S S' : Nat → Prop} (hs : ∀ b, S b → S' b) : ∀ {l : List RouteO} {c : List Value}, Rtos w S l c → Rtos w S' l c
  | [], _, h => h
  | _ :: _, _, ⟨sa, sc, ra, rc, ya, yc, rest, e, h1, h2, h3, h4⟩ => ⟨sa, sc, ra, rc, ya, yc, rest, e, h1.more hs, h2.more hs, h3.more hs, Rtos.more hs h4⟩
theorem Rtos.length {w : World} {S : Nat → Prop} : ∀ {l : List RouteO} {c : List Value}, Rtos w S l c → c.length = l.length * 3
  | [], _, h => by rw [show _ = _ from h]; rfl
  | _ :: _, _, ⟨_, _, _, _, _, _, _, e, _, _, _, h4⟩ => by rw [e]; simp [Rtos.length h4]; omega
theorem Rtos.snoc {w : World} {S : Nat → Prop} {r : RouteO} {d : List Value} (hr : Rtos w S [r] d) : ∀ {l : List RouteO} {c : List Value}, Rtos w S l c → Rtos w S (l ++ [r]) (c ++ d)
  | [], _, h => by rw [show _ = _ from h]; exact hr
  | _ :: _, _, ⟨sa, sc, ra, rc, ya, yc, rest, e, h1, h2, h3, h4⟩ => ⟨sa, sc, ra, rc, ya, yc, rest ++ d, by rw [e]; rfl, h1, h2, h3, Rtos.snoc hr h4⟩
theorem Rtos.later {w w' : World} {l : List RouteO} {c : List Value} (h : Rtos w (· < w.heap.size) l c) (hb : Below w.heap.size w w') : Rtos w' (· < w'.heap.size) l c :=
  (h.keep fun b hl => hb.block b hl).more fun b h1 => by have := hb.size; omega
/-- a route as it lies -/
structure RoAt (w : World) (S : Nat → Prop) (r : RouteO) (sa ra ya : Option Addr) : Prop where
  hs : Rd w S sa (cs intC r.stops)
  hr : Rd w S ra (cs intC r.rides)
  hy : Rd w S ya (cs intC r.stays)
theorem RoAt.keep {w w' : World} {S : Nat → Prop} {r : RouteO} {sa ra ya : Option Addr} (h : RoAt w S r sa ra ya) (hk : ∀ b, S b → w'.heap[b]? = w.heap[b]?) : RoAt w' S r sa ra ya := ⟨h.hs.keep hk, h.hr.keep hk, h.hy.keep hk⟩
theorem RoAt.more {w : World} {S S' : Nat → Prop} {r : RouteO} {sa ra ya : Option Addr} (h : RoAt w S r sa ra ya) (hs : ∀ b, S b → S' b) : RoAt w S' r sa ra ya := ⟨h.hs.more hs, h.hr.more hs, h.hy.more hs⟩
theorem RoAt.later {w w' : World} {r : RouteO} {sa ra ya : Option Addr} (h : RoAt w (· < w.heap.size) r sa ra ya) (hb : Below w.heap.size w w') : RoAt w' (· < w'.heap.size) r sa ra ya :=
  (h.keep fun b hl => hb.block b hl).more fun b h1 => by have := hb.size; omega
abbrev roV (r : RouteO) (sa ra ya : Option Addr) (sc rc yc : Nat) : Value := .agg #[.slice sa r.stops.length sc, .slice ra r.rides.length rc, .slice ya r.stays.length yc]
theorem rtos_cells {w : World} {S : Nat → Prop} : ∀ {l : List RouteO} {c : List Value} {k : Nat} {r : RouteO}, Rtos w S l c → l[k]? = some r → ∃ sa sc ra rc ya yc, c[k * 3]? = some (.slice sa r.stops.length sc) ∧ c[k * 3 + 1]? = some (.slice ra r.rides.length rc) ∧ c[k * 3 + 2]? = some (.slice ya r.stays.length yc) ∧ RoAt w S r sa ra ya
  | [], _, k, r, _, h => by simp at h
  | x :: l, c, 0, r, ⟨sa, sc, ra, rc, ya, yc, rest, e, h1, h2, h3, _⟩, h => by
    simp at h; subst h; subst e
    exact ⟨sa, sc, ra, rc, ya, yc, rfl, rfl, rfl, h1, h2, h3⟩
  | x :: l, c, k + 1, r, ⟨sa, sc, ra, rc, ya, yc, rest, e, _, _, _, h4⟩, h => by
    simp at h
    obtain ⟨sa', sc', ra', rc', ya', yc', g0, g1, g2, g⟩ := rtos_cells h4 h
    subst e
    have e : (k + 1) * 3 = k * 3 + 3 := by omega
    rw [e]
    exact ⟨sa', sc', ra', rc', ya', yc', by simpa using g0, by simpa using g1, by simpa using g2, g⟩
theorem rtos_at {w : World} {S : Nat → Prop} {A : Option Addr} {l : List RouteO} {c : List Value} {k : Nat} {r : RouteO} (hr : Rd w S A c) (h : Rtos w S l c) (hk : l[k]? = some r) :
    ∃ ad, A = some ad ∧ S ad.block ∧ ∃ sa sc ra rc ya yc, w.cell? (ad.add (k * 3)) = some (.slice sa r.stops.length sc) ∧ w.cell? ⟨(ad.add (k * 3)).block, (ad.add (k * 3)).off + 1, none⟩ = some (.slice ra r.rides.length rc) ∧ w.cell? ⟨(ad.add (k * 3)).block, (ad.add (k * 3)).off + 2, none⟩ = some (.slice ya r.stays.length yc) ∧ RoAt w S r sa ra ya := by
  have hlt : k < l.length := (List.getElem?_eq_some_iff.1 hk).1
  obtain ⟨ad, e, hb, hc⟩ := hr (by rw [Rtos.length h]; omega)
  obtain ⟨sa, sc, ra, rc, ya, yc, g0, g1, g2, g⟩ := rtos_cells h hk
  have e1 : (⟨(ad.add (k * 3)).block, (ad.add (k * 3)).off + 1, none⟩ : Addr) = (ad.add (k * 3)).add 1 := rfl
  have e2 : (⟨(ad.add (k * 3)).block, (ad.add (k * 3)).off + 2, none⟩ : Addr) = (ad.add (k * 3)).add 2 := rfl
  exact ⟨ad, e, hb, sa, sc, ra, rc, ya, yc, hc _ _ g0, by rw [e1, add_of_add]; exact hc _ _ g1, by rw [e2, add_of_add]; exact hc _ _ g2, g⟩
/-- where the rows of names lie -/
structure NaA where
  a1 : Option Addr
  a2 : Option Addr
  a3 : Option Addr
  a4 : Option Addr
  a5 : Option Addr
  a6 : Option Addr
  c1 : Nat
  c2 : Nat
  c3 : Nat
  c4 : Nat
  c5 : Nat
  c6 : Nat
abbrev naV (n : NamesM) (p : NaA) : Value := .agg #[.slice p.a1 n.stops.length p.c1, .slice p.a2 n.paths.length p.c2, .slice p.a3 n.doors.length p.c3, .slice p.a4 n.routes.length p.c4, .slice p.a5 n.trips.length p.c5, .slice p.a6 n.hazards.length p.c6]
structure Na (w : World) (S : Nat → Prop) (n : NamesM) (p : NaA) : Prop where
  r1 : Rd w S p.a1 (cs strC n.stops)
  r2 : Rd w S p.a2 (cs strC n.paths)
  r3 : Rd w S p.a3 (cs strC n.doors)
  r4 : Rd w S p.a4 (cs strC n.routes)
  r5 : Rd w S p.a5 (cs strC n.trips)
  r6 : Rd w S p.a6 (cs strC n.hazards)
theorem Na.keep {w w' : World} {S : Nat → Prop} {n : NamesM} {p : NaA} (h : Na w S n p) (hk : ∀ b, S b → w'.heap[b]? = w.heap[b]?) : Na w' S n p := ⟨h.r1.keep hk, h.r2.keep hk, h.r3.keep hk, h.r4.keep hk, h.r5.keep hk, h.r6.keep hk⟩
theorem Na.more {w : World} {S S' : Nat → Prop} {n : NamesM} {p : NaA} (h : Na w S n p) (hs : ∀ b, S b → S' b) : Na w S' n p := ⟨h.r1.more hs, h.r2.more hs, h.r3.more hs, h.r4.more hs, h.r5.more hs, h.r6.more hs⟩
theorem Na.later {w w' : World} {n : NamesM} {p : NaA} (h : Na w (· < w.heap.size) n p) (hb : Below w.heap.size w w') : Na w' (· < w'.heap.size) n p :=
  (h.keep fun b hl => hb.block b hl).more fun b h1 => by have := hb.size; omega
/-- where a world's rows lie -/
structure WoA where
  n : NaA
  b2 : Option Addr
  b3 : Option Addr
  b4 : Option Addr
  b5 : Option Addr
  b6 : Option Addr
  d2 : Nat
  d3 : Nat
  d4 : Nat
  d5 : Nat
  d6 : Nat
structure Wo (w : World) (S : Nat → Prop) (x : WorldM) (p : WoA) : Prop where
  r1 : Na w S x.names p.n
  r2 : Rd w S p.b2 (cs poC x.paths)
  r3 : Rd w S p.b3 (cs dooC x.doors)
  r4 : ∃ c, Rd w S p.b4 c ∧ Rtos w S x.routes c
  r5 : Rd w S p.b5 (cs toC x.trips)
  r6 : Rd w S p.b6 (cs hoC x.hazards)
theorem Wo.keep {w w' : World} {S : Nat → Prop} {x : WorldM} {p : WoA} (h : Wo w S x p) (hk : ∀ b, S b → w'.heap[b]? = w.heap[b]?) : Wo w' S x p := by
  obtain ⟨c, h4, h4'⟩ := h.r4
  exact ⟨h.r1.keep hk, h.r2.keep hk, h.r3.keep hk, ⟨c, h4.keep hk, h4'.keep hk⟩, h.r5.keep hk, h.r6.keep hk⟩
theorem Wo.more {w : World} {S S' : Nat → Prop} {x : WorldM} {p : WoA} (h : Wo w S x p) (hs : ∀ b, S b → S' b) : Wo w S' x p := by
  obtain ⟨c, h4, h4'⟩ := h.r4
  exact ⟨h.r1.more hs, h.r2.more hs, h.r3.more hs, ⟨c, h4.more hs, h4'.more hs⟩, h.r5.more hs, h.r6.more hs⟩
theorem Wo.later {w w' : World} {x : WorldM} {p : WoA} (h : Wo w (· < w.heap.size) x p) (hb : Below w.heap.size w w') : Wo w' (· < w'.heap.size) x p :=
  (h.keep fun b hl => hb.block b hl).more fun b h1 => by have := hb.size; omega
/-- a world of little -/
structure WLt (x : WorldM) : Prop where
  n1 : x.names.stops.length ≤ 400
  n2 : x.names.paths.length ≤ 400
  n3 : x.names.doors.length ≤ 400
  n4 : x.names.routes.length ≤ 400
  n5 : x.names.trips.length ≤ 400
  n6 : x.names.hazards.length ≤ 400
  l2 : x.paths.length ≤ 400
  l3 : x.doors.length ≤ 400
  l4 : x.routes.length ≤ 400
  l5 : x.trips.length ≤ 400
  l6 : x.hazards.length ≤ 400
  lr : ∀ r ∈ x.routes, r.stops.length ≤ 400 ∧ r.rides.length ≤ 400 ∧ r.stays.length ≤ 400
/-! ### loops that append one thing for each thing of a row -/
def EaRel (w : World) {α β : Type} (T : TypeId) (size : Nat) (g : β → List Value) (f : α → β) (l : List α) (n : Nat) (v vi : Value) (wr : World) : Prop :=
  ∃ (i : Nat) (A : Option Addr) (c : Nat), v = .slice A i c ∧ vi = .int .i64 i ∧ i ≤ n ∧ Hid (wr.ownsRow w.heap.size T size (.slice A i c) i (cs g ((l.take i).map f))) ∧ Hid (Below w.heap.size w wr)
theorem ea_start {w : World} {α β : Type} (T : TypeId) (size : Nat) (g : β → List Value) (f : α → β) (l : List α) (n : Nat) : EaRel w T size g f l n (.slice none 0 0) (.int .i64 0) w :=
  ⟨0, none, 0, rfl, rfl, Nat.zero_le _, HH (by simpa [cs] using own_nil), HH (Below.refl _ _)⟩
theorem ea_more {w w' : World} {α β : Type} {T : TypeId} {size : Nat} {g : β → List Value} {f : α → β} {l : List α} {n i m c : Nat} {A : Option Addr} {a : α} {xs : List Value} (ha : l[i]? = some a) (hi : i + 1 ≤ n) (hx : xs = g (f a)) (hm : m = i + 1)
    (ho : w'.ownsRow w.heap.size T size (.slice A m c) m (cs g ((l.take i).map f) ++ xs)) (hb : Below w.heap.size w w') {v vi : Value} (hv : v = .slice A m c) (hvi : vi = .int .i64 ((i : Int) + 1)) : EaRel w T size g f l n v vi w' := by
  subst hm hx hv hvi
  refine ⟨i + 1, A, c, rfl, by simp, hi, HH ?_, HH hb⟩
  rw [List.take_add_one, ha]
  simpa [cs] using ho
theorem ea_over {w wr : World} {α β : Type} {T : TypeId} {size : Nat} {g : β → List Value} {f : α → β} {l : List α} {n c : Nat} {A : Option Addr} (hn : n = l.length) (ho : wr.ownsRow w.heap.size T size (.slice A n c) n (cs g ((l.take n).map f))) (hb : Below w.heap.size w wr) : NewRow w T size (cs g (l.map f)) n (.returned (.slice A n c)) wr := by
  rw [hn, List.take_length] at ho
  rw [hn]
  obtain ⟨A', c', e, hnd, -⟩ := own_form ho
  injection e with e1 e2 e3
  exact ⟨A, c, rfl, by omega, HH ho, hb⟩
/-! ### rows in new memory -/
/-- the cells xs lie from A on, in blocks from B on -/
def Fr (w : World) (B : Nat) (A : Option Addr) (xs : List Value) : Prop := Rd w (fun b => B ≤ b ∧ b < w.heap.size) A xs
theorem Fr.later {w w' : World} {B : Nat} {A : Option Addr} {xs : List Value} (h : Fr w B A xs) (hb : Below w.heap.size w w') : Fr w' B A xs :=
  (Rd.keep h fun b hl => hb.block b hl.2).more fun b h1 => ⟨h1.1, Nat.lt_of_lt_of_le h1.2 hb.size⟩
theorem Fr.down {w : World} {B B' : Nat} {A : Option Addr} {xs : List Value} (h : Fr w B A xs) (hB : B' ≤ B) : Fr w B' A xs := Rd.more h fun b h1 => ⟨Nat.le_trans hB h1.1, h1.2⟩
theorem Fr.low {w w' : World} {B : Nat} {A : Option Addr} {xs : List Value} {X : Nat → Prop} (h : Fr w B A xs) (hc : Ch X w w') (hX : ∀ k, X k → k < B) : Fr w' B A xs :=
  (Rd.keep h fun b hl => hc.block b hl.2 fun hx => by have := hX b hx; omega).more fun b h1 => ⟨h1.1, Nat.lt_of_lt_of_le h1.2 hc.size⟩
theorem Fr.old {w : World} {B : Nat} {A : Option Addr} {xs : List Value} (h : Fr w B A xs) : Rd w (· < w.heap.size) A xs := Rd.more h fun b h1 => h1.2
theorem fr_own {w : World} {b B e s n k c : Nat} {A : Option Addr} {xs : List Value} (h : w.ownsRow b e s (.slice A n c) k xs) (hB : B ≤ b) : Fr w B A xs := by
  obtain ⟨A', c', e', -, hr⟩ := own_form h
  injection e' with e1 e2 e3
  subst e1
  exact Fr.down hr hB
theorem Fr.nil {w : World} {B : Nat} {A : Option Addr} : Fr w B A [] := fun h => by simp at h
/-- names in new memory -/
def NaF (w : World) (B : Nat) (n : NamesM) (p : NaA) : Prop := Na w (fun b => B ≤ b ∧ b < w.heap.size) n p
theorem NaF.later {w w' : World} {B : Nat} {n : NamesM} {p : NaA} (h : NaF w B n p) (hb : Below w.heap.size w w') : NaF w' B n p :=
  (Na.keep h fun b hl => hb.block b hl.2).more fun b h1 => ⟨h1.1, Nat.lt_of_lt_of_le h1.2 hb.size⟩
theorem NaF.old {w : World} {B : Nat} {n : NamesM} {p : NaA} (h : NaF w B n p) : Na w (· < w.heap.size) n p := Na.more h fun b h1 => h1.2
theorem no_row {w : World} {S : Nat → Prop} {xs : List Value} (h : Rd w S none xs) : xs = [] := by
  cases xs with
  | nil => rfl
  | cons a r => obtain ⟨ad, e, _⟩ := h (by simp); cases e
theorem clone_rstr (w : World) (A : Option Addr) (n c : Nat) (l : List (List UInt8)) (hn : Hid (n = l.length)) (hN : n ≤ 1000000) (hx : Rd w (· < w.heap.size) A (cs strC l)) :
    Calls Tryz.prog 107 #[.slice A n c] w (NewRow w 9 1 (cs strC l) n) := by
  cases A with
  | none =>
    have h0 := no_row hx
    have hl : (cs strC l).length = n * 1 := by rw [cs_length strC 1 (fun _ => rfl), hn.out]
    rw [h0] at hl ⊢
    obtain rfl : n = 0 := by simp at hl; omega
    clear h0 hl hx hn
    have hq := fun w0 => Lib.run_eql_slice_nil (P := Tryz.prog) w0 28 9 none 0 c 0 0 Tryz.underlying28
    go_enter Tryz.func107, Tryz.ntmps107
    go_wp2
    go_ret
    exact ⟨none, 0, rfl, Nat.le_refl _, HH own_nil, Below.refl _ _⟩
  | some ad =>
    have hx' : Rd (w.alloc (.cells #[] 9)) (· < w.heap.size) (some ad) (cs strC l) := hx.keep fun b hb => Below.heap_alloc w _ b hb
    have HX := HH hx'
    have hl : Hid ((cs strC l).length = n * 1) := by show _ = _; rw [cs_length strC 1 (fun _ => rfl), hn.out]
    have h1 := cs_each str_one l
    have H1 := HH h1
    clear hx hx' h1
    have hq := fun w0 => Lib.run_eql_slice_nil (P := Tryz.prog) w0 28 9 (some ad) n c 0 0 Tryz.underlying28
    go_enter Tryz.func107, Tryz.ntmps107
    go_wp2_with (at_builtin; refine wpList_append_rdw rfl (.tmp 5) (.tmp 6) 28 rfl w.heap.size 9 _ 1 16 Tryz.underlying28 info_Str rfl (by omega) (by omega) _ 0 [] rfl (own_empty (Nat.le_refl _)) _ (some ad) n c (cs strC l) rfl hl.out HX.out H1.out (by omega) (by simp) ?_; intro v' w1 hown hbel)
    obtain ⟨B, d, hv, hnd, hrd⟩ := own_form hown.out
    have ho := hown.out
    simp only [Nat.zero_add, List.nil_append] at hv ho hnd
    subst hv
    go_ret
    exact ⟨B, d, rfl, hnd, HH ho, ((Below.refl _ _).alloc (Nat.le_refl _) _).trans hbel.out⟩
theorem clone_rint (w : World) (A : Option Addr) (n c : Nat) (l : List Int) (hn : Hid (n = l.length)) (hN : n ≤ 1000000) (hx : Rd w (· < w.heap.size) A (cs intC l)) :
    Calls Tryz.prog 35 #[.slice A n c] w (NewRow w 2 1 (cs intC l) n) := by
  cases A with
  | none =>
    have h0 := no_row hx
    have hl : (cs intC l).length = n * 1 := by rw [cs_length intC 1 (fun _ => rfl), hn.out]
    rw [h0] at hl ⊢
    obtain rfl : n = 0 := by simp at hl; omega
    clear h0 hl hx hn
    have hq := fun w0 => Lib.run_eql_slice_nil (P := Tryz.prog) w0 22 2 none 0 c 0 0 Tryz.underlying22
    go_enter Tryz.func35, Tryz.ntmps35
    go_wp2
    go_ret
    exact ⟨none, 0, rfl, Nat.le_refl _, HH own_nil, Below.refl _ _⟩
  | some ad =>
    have hx' : Rd (w.alloc (.cells #[] 2)) (· < w.heap.size) (some ad) (cs intC l) := hx.keep fun b hb => Below.heap_alloc w _ b hb
    have HX := HH hx'
    have hl : Hid ((cs intC l).length = n * 1) := by show _ = _; rw [cs_length intC 1 (fun _ => rfl), hn.out]
    have h1 := cs_each int_one l
    have H1 := HH h1
    clear hx hx' h1
    have hq := fun w0 => Lib.run_eql_slice_nil (P := Tryz.prog) w0 22 2 (some ad) n c 0 0 Tryz.underlying22
    go_enter Tryz.func35, Tryz.ntmps35
    go_wp2_with (at_builtin; refine wpList_append_rdw rfl (.tmp 5) (.tmp 6) 22 rfl w.heap.size 2 _ 1 8 Tryz.underlying22 info_int64 rfl (by omega) (by omega) _ 0 [] rfl (own_empty (Nat.le_refl _)) _ (some ad) n c (cs intC l) rfl hl.out HX.out H1.out (by omega) (by simp) ?_; intro v' w1 hown hbel)
    obtain ⟨B, d, hv, hnd, hrd⟩ := own_form hown.out
    have ho := hown.out
    simp only [Nat.zero_add, List.nil_append] at hv ho hnd
    subst hv
    go_ret
    exact ⟨B, d, rfl, hnd, HH ho, ((Below.refl _ _).alloc (Nat.le_refl _) _).trans hbel.out⟩
end Go.Proofs.YtfefnfifeaihhaaGreat.Wo
