/- WorldMore's calls in the words of its walk: a sheet that differs from the first one in its stops and paths alone. Conditions: at most 60 things of a kind. -/
import Derived.Test.YtgdanbfglefiiaaGreatBaG
import Derived.Test.YtgdanbfglefiiaaGreatWoGf
import Derived.Test.YtgdanbfglefiiaaGreatWoLives
import Derived.Test.YtgdanbfglefiiaaGreatWoOwn
import Derived.Test.YtgdanbfglefiiaaGreatWoWorld
import Derived.Test.YtgdanbfglefiiaaGreatWoMathR
import Derived.Test.YtgdanbfglefiiaaGreatWoMrA
import Derived.ChangeSlices
import Derived.Deep.Strs
import Derived.Deep.SlicePairs
import Derived.ChangeArms
import Derived.Carry
import Derived.Deep.RegionHeld3
import Derived.Deep.RegionHeldLaw
import Derived.Deep.CutRange
import Derived.StillTailTactics
import Derived.WalkSpells
import Derived.Lib.QuietBelow
import Derived.Deep.QuietTactic
namespace Go.Proofs.YtgdanbfglefiiaaGreat.Wo
open Go.ChangeShapes Go.WideShapes Go.ChangeAt Go.RowKit Go.Maps
open Lx Sh It
set_option linter.unusedVariables false
set_option linter.unusedSimpArgs false
theorem xlt_moreS {x : SheetM} (h : Lt x) (a : Nm) : XLt (moreS x a) := ⟨by have := h.l1; simp [moreS]; omega, by have := h.l2; show x.paths.length ≤ 400; omega, by have := h.l3; show x.doors.length ≤ 400; omega, by have := h.l4; show x.routes.length ≤ 400; omega, by have := h.l5; show x.trips.length ≤ 400; omega, by have := h.l6; show x.hazards.length ≤ 400; omega, fun r hr => by have := h.lr r hr; omega⟩
theorem xlt_moreP {x : SheetM} (h : Lt x) (a : Nm) (p : PathM) : XLt (moreP (moreS x a) p) := ⟨by have := h.l1; simp [moreS, moreP]; omega, by have := h.l2; simp [moreS, moreP]; omega, by have := h.l3; show x.doors.length ≤ 400; omega, by have := h.l4; show x.routes.length ≤ 400; omega, by have := h.l5; show x.trips.length ≤ 400; omega, by have := h.l6; show x.hazards.length ≤ 400; omega, fun r hr => by have := h.lr r hr; omega⟩
theorem own_below {w0 w1 w2 : World} {C base e size n s i : Nat} {v u : Value} {xs : List Value} (ho : w1.ownsRow base e size v n xs) (hb : Below C w0 w1) (hg : w1.grownBy w2 v.ownBlock) (h1 : C ≤ base) (hC : C ≤ w1.heap.size) (h2 : C ≤ s) : Below C w0 (w2.setCell ⟨s, i, none⟩ u) :=
  below_set1 (p := ⟨s, i, none⟩) (hb.trans ((Ch.of_grown (X := fun k => some k = v.ownBlock) hg fun k e => e).below hC fun k e => Nat.le_trans h1 (ho.lt k e.symm).1)) h2 u
theorem own_ch {w1 w2 : World} {base e size n s i C : Nat} {v u : Value} {xs : List Value} (ho : w1.ownsRow base e size v n xs) (hg : w1.grownBy w2 v.ownBlock) (hlt : ∀ k, v.ownBlock = some k → k < C) (hs : s < C) : Ch (· < C) w1 (w2.setCell ⟨s, i, none⟩ u) :=
  (Ch.of_grown (X := (· < C)) hg fun k e => hlt k e.symm).setCell (p := ⟨s, i, none⟩) (.inl hs) u
theorem pl_first : ∀ {S : List Nm} {b : Nm}, S[0]? = some b → pl S b = 0
  | [], _, h => by simp at h
  | c :: S, b, h => by
    simp at h
    subst h
    simp [pl]
theorem qq_bytes (a : Nm) : (⟨#[113]⟩ ++ ⟨a.toArray⟩ ++ ⟨#[113]⟩ : ByteArray) = ⟨(qq a).toArray⟩ := by
  apply ByteArray.ext
  simp [qq, ByteArray.data_append]
theorem more_path {x : SheetM} (h : (wrongX x).err = 0) (ht : Lt x) {a b : Nm} (ha : a ∉ (namesX x).flat) (hn : nameB a = true) (hl : a.length ≤ 12) (hb : x.stops[0]? = some b) {n : Int} (h1 : 1 ≤ n) (h2 : n ≤ 1000) :
    (wrongX (moreP (moreS x a) ⟨qq a, a, b, n⟩)).err = 6 ∨ (wrongX (moreP (moreS x a) ⟨qq a, a, b, n⟩) = okW ∧ numX (moreP (moreS x a) ⟨qq a, a, b, n⟩) = { numX x with names := { namesX x with stops := x.stops ++ [a], paths := (namesX x).paths ++ [qq a] }, paths := (numX x).paths ++ [⟨(x.stops.length : Int), 0, n⟩] }) := by
  have hok := more_ok h ht.l1 ha hn
  have hm : b ∈ x.stops := List.mem_of_getElem? hb
  have hs : a ∉ x.stops := fun g => ha (by simp [NamesM.flat, namesX, g])
  have hbn : nameB b = true := (good_parts h).1.s b hm
  rcases path_more (y := moreS x a) (congrArg WrM.err hok) ht.l2 (p := ⟨qq a, a, b, n⟩) (by simp [path_name, qq_name hn hl, hn, hbn]) (by simp [path_tick, tickB]; omega) (by simp [moreS]) (by simp [moreS, hm]) (fun e => hs (by have e2 : a = b := e; rw [e2]; exact hm)) h1 with e | ⟨e1, e2⟩
  · exact .inl e
  · refine .inr ⟨e1, ?_⟩
    rw [e2, more_num (good_parts h).2.2 ha]
    simp only [moreS, namesX, pl_new hs, pl_more hm, pl_first hb]
def MkL (w : World) (x : SheetM) (n1 n2 : Nat) (z : WorldM) (e : Ending) (w' : World) : Prop := ∃ (a1 a2 a3 a4 a5 a6 b2 b3 b4 b5 b6 : Option Addr) (c1 c2 c3 c4 c5 c6 d2 d3 d4 d5 d6 : Nat), e = .returned (.tuple #[.agg #[.int .i64 x.horizon, .slice a1 (n1) c1, .slice a2 (n2) c2, .slice a3 (x.doors.length) c3, .slice a4 (x.routes.length) c4, .slice a5 (x.trips.length) c5, .slice a6 (x.hazards.length) c6, .slice b2 (n2) d2, .slice b3 (x.doors.length) d3, .slice b4 (x.routes.length) d4, .slice b5 (x.trips.length) d5, .slice b6 (x.hazards.length) d6], .agg #[.int .i64 0, .int .i64 0, .int .i64 0]]) ∧ Hid (Wo w' (fun b => w.heap.size ≤ b ∧ b < w'.heap.size) z ⟨⟨a1, a2, a3, a4, a5, a6, c1, c2, c3, c4, c5, c6⟩, b2, b3, b4, b5, b6, d2, d3, d4, d5, d6⟩) ∧ Hid (Below w.heap.size w w')
theorem make_l {x y : SheetM} (n1 n2 : Nat) (hy : (wrongX y).err = 0) (hl : XLt y) (e0 : y.horizon = x.horizon) (e1 : y.stops.length = n1) (e2 : y.paths.length = n2) (e3 : y.doors = x.doors) (e4 : y.routes = x.routes) (e5 : y.trips = x.trips) (e6 : y.hazards = x.hazards) (p : ShA) (w : World) (h : Sh w (· < w.heap.size) y p) : Calls Tryz.prog 10 #[.agg #[.int .i64 x.horizon, .slice p.a1 (n1) p.c1, .slice p.a2 (n2) p.c2, .slice p.a3 (x.doors.length) p.c3, .slice p.a4 (x.routes.length) p.c4, .slice p.a5 (x.trips.length) p.c5, .slice p.a6 (x.hazards.length) p.c6]] w (MkL w x n1 n2 (numX y)) := by
  have g := make_good hy p w h hl
  rw [shV] at g
  rw [← e0, ← e1, ← e2, ← e3, ← e4, ← e5, ← e6]
  refine g.mono fun e w' he => ?_
  obtain ⟨a1, a2, a3, a4, a5, a6, b2, b3, b4, b5, b6, c1, c2, c3, c4, c5, c6, d2, d3, d4, d5, d6, h1, h2, h3⟩ := he
  refine ⟨a1, a2, a3, a4, a5, a6, b2, b3, b4, b5, b6, c1, c2, c3, c4, c5, c6, d2, d3, d4, d5, d6, ?_, h2, h3⟩
  rw [h1, ← e0, ← e3, ← e4, ← e5, ← e6]
theorem find_l {x y : SheetM} (n1 n2 : Nat) (a : Nm) (k i : Int) (hk : findW (namesX y) a = (k, i)) (hl : XLt y) (e0 : y.horizon = x.horizon) (e1 : y.stops.length = n1) (e2 : y.paths.length = n2) (e3 : y.doors = x.doors) (e4 : y.routes = x.routes) (e5 : y.trips = x.trips) (e6 : y.hazards = x.hazards) (q : WoA) (w : World) (h : Wo w (· < w.heap.size) (numX y) q) : Calls Tryz.prog 13 #[.agg #[.int .i64 x.horizon, .slice q.n.a1 (n1) q.n.c1, .slice q.n.a2 (n2) q.n.c2, .slice q.n.a3 (x.doors.length) q.n.c3, .slice q.n.a4 (x.routes.length) q.n.c4, .slice q.n.a5 (x.trips.length) q.n.c5, .slice q.n.a6 (x.hazards.length) q.n.c6, .slice q.b2 (n2) q.d2, .slice q.b3 (x.doors.length) q.d3, .slice q.b4 (x.routes.length) q.d4, .slice q.b5 (x.trips.length) q.d5, .slice q.b6 (x.hazards.length) q.d6], .string ⟨a.toArray⟩] w (fun e w' => e = .returned (.tuple #[.int .i64 k, .int .i64 i]) ∧ Below w.heap.size w w') := by
  have g := find_good a k i hk q w h hl
  rw [woX] at g
  rw [← e0, ← e1, ← e2, ← e3, ← e4, ← e5, ← e6]
  exact g
def OwG (w : World) (x : SheetM) (n1 n2 : Nat) (e : Ending) (w' : World) : Prop := ∃ (a1 a2 a3 a4 a5 a6 b2 b3 b4 b5 b6 : Option Addr) (c1 c2 c3 c4 c5 c6 d2 d3 d4 d5 d6 : Nat), e = .returned (.agg #[.int .i64 x.horizon, .slice a1 (n1) c1, .slice a2 (n2) c2, .slice a3 (x.doors.length) c3, .slice a4 (x.routes.length) c4, .slice a5 (x.trips.length) c5, .slice a6 (x.hazards.length) c6, .slice b2 (n2) d2, .slice b3 (x.doors.length) d3, .slice b4 (x.routes.length) d4, .slice b5 (x.trips.length) d5, .slice b6 (x.hazards.length) d6]) ∧ Hid (OwW w' w.heap.size w'.heap.size (numX x) ⟨⟨a1, a2, a3, a4, a5, a6, c1, c2, c3, c4, c5, c6⟩, b2, b3, b4, b5, b6, d2, d3, d4, d5, d6⟩) ∧ Hid (Below w.heap.size w w')
theorem own_mono {w : World} {base base' : Nat} {e : TypeId} {size : Nat} {v : Value} {n : Nat} {xs : List Value} (h : w.ownsRow base e size v n xs) (hb : base' ≤ base) : w.ownsRow base' e size v n xs :=
  ⟨h.1, h.2.imp id fun ⟨g, cap, cur, h1, h2, h3⟩ => ⟨g, cap, cur, h1, Nat.le_trans hb h2, h3⟩⟩
theorem OwW.down {w : World} {B B' s : Nat} {x : WorldM} {p : WoA} (h : OwW w B s x p) (hB : B' ≤ B) : OwW w B' s x p :=
  ⟨own_mono h.o1 (by omega), own_mono h.o2 (by omega), own_mono h.o3 (by omega), h.d, h.rr.more fun b hb => ⟨by have := hb.1; omega, hb.2.1, hb.2.2⟩⟩
theorem OwW.o2n {w : World} {B s n : Nat} {x : WorldM} {p : WoA} (hn : x.names.paths.length = n) (h : OwW w B s x p) : w.ownsRow (B + 1) 9 1 (.slice p.n.a2 n p.n.c2) n (cs strC x.names.paths) := by subst hn; exact h.o2
theorem OwW.o3n {w : World} {B s n : Nat} {x : WorldM} {p : WoA} (hn : x.paths.length = n) (h : OwW w B s x p) : w.ownsRow (B + 1) 51 3 (.slice p.b2 n p.d2) n (cs poC x.paths) := by subst hn; exact h.o3
theorem OwW.add2n {w1 w2 : World} {B s c n : Nat} {x : WorldM} {p : WoA} {A : Option Addr} {a : Nm} {l : List Value} (hn : x.names.paths.length = n) (h : OwW w1 B s x p) (hk : Blk w1 s 32 l)
    (h1 : w2.ownsRow (B + 1) 9 1 (Value.slice A (n + 1) c) (n + 1) (cs strC x.names.paths ++ strC a)) (hg : w1.grownBy w2 (Value.slice p.n.a2 n p.n.c2).ownBlock) (hor : (Value.slice A (n + 1) c).ownBlock = (Value.slice p.n.a2 n p.n.c2).ownBlock ∨ (Value.slice A (n + 1) c).ownBlock = some w1.heap.size) :
    OwW (w2.setCell ⟨s, 2, none⟩ (Value.slice A (n + 1) c)) B s { x with names := { x.names with paths := x.names.paths ++ [a] } } ⟨⟨p.n.a1, A, p.n.a3, p.n.a4, p.n.a5, p.n.a6, p.n.c1, c, p.n.c3, p.n.c4, p.n.c5, p.n.c6⟩, p.b2, p.b3, p.b4, p.b5, p.b6, p.d2, p.d3, p.d4, p.d5, p.d6⟩ ∧ Blk (w2.setCell ⟨s, 2, none⟩ (Value.slice A (n + 1) c)) s 32 (l.set 2 (Value.slice A (n + 1) c)) := by subst hn; exact h.add2 hk h1 hg hor
theorem OwW.add3n {w1 w2 : World} {B s c n : Nat} {x : WorldM} {p : WoA} {A : Option Addr} {a : PathO} {l : List Value} (hn : x.paths.length = n) (h : OwW w1 B s x p) (hk : Blk w1 s 32 l)
    (h1 : w2.ownsRow (B + 1) 51 3 (Value.slice A (n + 1) c) (n + 1) (cs poC x.paths ++ poC a)) (hg : w1.grownBy w2 (Value.slice p.b2 n p.d2).ownBlock) (hor : (Value.slice A (n + 1) c).ownBlock = (Value.slice p.b2 n p.d2).ownBlock ∨ (Value.slice A (n + 1) c).ownBlock = some w1.heap.size) :
    OwW (w2.setCell ⟨s, 7, none⟩ (Value.slice A (n + 1) c)) B s { x with paths := x.paths ++ [a] } ⟨p.n, A, p.b3, p.b4, p.b5, p.b6, c, p.d3, p.d4, p.d5, p.d6⟩ ∧ Blk (w2.setCell ⟨s, 7, none⟩ (Value.slice A (n + 1) c)) s 32 (l.set 7 (Value.slice A (n + 1) c)) := by subst hn; exact h.add3 hk h1 hg hor
theorem own_good (x : SheetM) (q : WoA) (w : World) (h : Wo w (· < w.heap.size) (numX x) q) (hl : XLt x) : Calls Tryz.prog 20 #[woX x q] w (OwG w x x.stops.length x.paths.length) := by
  have g := own_world (numX x) q w h (wlt_num hl)
  rw [woF_num] at g
  refine g.mono fun e w' he => ?_
  obtain ⟨q', h1, h2, h3⟩ := he
  rw [woF_num] at h1
  obtain ⟨⟨a1, a2, a3, a4, a5, a6, c1, c2, c3, c4, c5, c6⟩, b2, b3, b4, b5, b6, d2, d3, d4, d5, d6⟩ := q'
  exact ⟨a1, a2, a3, a4, a5, a6, b2, b3, b4, b5, b6, c1, c2, c3, c4, c5, c6, d2, d3, d4, d5, d6, h1, Lib.hid (h2.down (by omega)), Lib.hid h3⟩
theorem kworld_l {z : WorldM} (p q : WoA) {v1 v2 : Value} (e1 : woF z p = v1) (e2 : woF z q = v2) (hf : WLt z) (w : World) (h : Wo w (· < w.heap.size) z p) (g : Wo w (· < w.heap.size) z q) : Calls Tryz.prog 23 #[v1, v2] w (fun e w' => e = .returned (.bool true) ∧ Below w.heap.size w w') := by
  have c := kworld_any z z p q w h g hf hf
  rw [decide_eq_true rfl, e1, e2] at c
  exact c
end Go.Proofs.YtgdanbfglefiiaaGreat.Wo
