/- Without its last trip, hazard or door a sheet that holds together does so still; a thing told twice does not: walked. No conditions. -/
import Derived.Test.YtgdanbfglefiiaaGreatBaG
import Derived.Test.YtgdanbfglefiiaaGreatWoLives
import Derived.ChangeSlices
import Derived.Deep.Strs
import Derived.Deep.SlicePairs
import Derived.ChangeArms
import Derived.Carry
import Derived.Deep.RegionHeld3
import Derived.Deep.RegionHeldLaw
import Derived.Deep.CutRange
import Derived.StillTailTactics
import Derived.WalkSpells
import Derived.Lib.QuietBelow
import Derived.Deep.QuietTactic
namespace Go.Proofs.YtgdanbfglefiiaaGreat.Wo
open Go.ChangeShapes Go.WideShapes Go.ChangeAt Go.RowKit Go.Maps
open Lx Sh It
set_option linter.unusedVariables false
set_option linter.unusedSimpArgs false
theorem make_w {x : SheetM} {k : WrM} (hx : wrongX x = k) (p : ShA) (w : World) (h : Sh w (· < w.heap.size) x p) (hl : XLt x) : Calls Tryz.prog 10 #[shV x p] w (fun e w' => ∃ (m : WorldM) (q : WoA), e = .returned (.tuple #[woF m q, wrV k]) ∧ Below w.heap.size w w') :=
  (make_any x p w h hl).mono fun e w' he => by
    obtain ⟨q, h1, -, h3⟩ := he
    rw [hx] at h1
    exact ⟨_, q, h1, h3⟩
theorem lt_xlt {x : SheetM} (h : Lt x) : XLt x := ⟨by have := h.l1; omega, by have := h.l2; omega, by have := h.l3; omega, by have := h.l4; omega, by have := h.l5; omega, by have := h.l6; omega, fun r hr => by have := h.lr r hr; omega⟩
/-- an own copy, as the law goes on with it: all of it, and one row alone -/
structure Cp (w : World) (S : Nat → Prop) (x : SheetM) (p : ShA) : Prop where
  sh : Sh w S x p
/-- a sheet whose rows are its own, beyond lo; its routes' rows lie below hi -/
structure Zs (w : World) (lo hi : Nat) (x : SheetM) (p : ShA) : Prop where
  r1 : w.ownsRow (lo + 1) 9 1 (.slice p.a1 x.stops.length p.c1) x.stops.length (cs strC x.stops)
  r2 : w.ownsRow (lo + 1) 65 4 (.slice p.a2 x.paths.length p.c2) x.paths.length (cs paC x.paths)
  r3 : w.ownsRow (lo + 1) 55 7 (.slice p.a3 x.doors.length p.c3) x.doors.length (cs doC x.doors)
  r4 : ∃ c, w.ownsRow (lo + 1) 72 4 (.slice p.a4 x.routes.length p.c4) x.routes.length c ∧ Rts w (fun b => lo < b ∧ b < hi ∧ ∀ v ∈ [Value.slice p.a3 x.doors.length p.c3, .slice p.a5 x.trips.length p.c5, .slice p.a6 x.hazards.length p.c6], v.ownBlock ≠ some b) x.routes c
  r5 : w.ownsRow (lo + 1) 67 5 (.slice p.a5 x.trips.length p.c5) x.trips.length (cs trC x.trips)
  r6 : w.ownsRow (lo + 1) 78 5 (.slice p.a6 x.hazards.length p.c6) x.hazards.length (cs haC x.hazards)
  hi_ : hi ≤ w.heap.size
theorem ows_zs {w : World} {B s : Nat} {x : SheetM} {A1 A2 A3 A4 A5 A6 : Option Addr} {c1 c2 c3 c4 c5 c6 : Nat} (h : OwS w (B + 1) s x (.slice A1 x.stops.length c1) (.slice A2 x.paths.length c2) (.slice A3 x.doors.length c3) (.slice A4 x.routes.length c4) (.slice A5 x.trips.length c5) (.slice A6 x.hazards.length c6)) : Zs w B w.heap.size x ⟨A1, A2, A3, A4, A5, A6, c1, c2, c3, c4, c5, c6⟩ := by
  obtain ⟨c, h4, h4'⟩ := h.r4
  exact ⟨own_base h.r1 (by omega), own_base h.r2 (by omega), own_base h.r3 (by omega), ⟨c, own_base h4 (by omega), h4'.more fun b hb => ⟨by have := hb.1; omega, hb.2.1, fun v hv => hb.2.2 v (by simp only [List.mem_cons, List.not_mem_nil, or_false] at hv ⊢; rcases hv with h | h | h <;> simp [h])⟩⟩, own_base h.r5 (by omega), own_base h.r6 (by omega), Nat.le_refl _⟩
theorem own_rdx {w : World} {b e s n k c : Nat} {A : Option Addr} {xs : List Value} (h : w.ownsRow b e s (.slice A n c) k xs) : Rd w (fun i => b ≤ i ∧ i < w.heap.size ∧ (Value.slice A n c).ownBlock = some i) A xs := by
  intro hn
  obtain ⟨ad, e1, e2, e3⟩ := own_rd'' h hn
  refine ⟨ad, e1, ⟨e2.1, e2.2, ?_⟩, e3⟩
  subst e1
  rcases h.2 with ⟨e4, e5⟩ | ⟨g, cap, cur, e4, -⟩
  · cases e4
  · injection e4 with e5
    injection e5 with e5
    subst e5
    rfl
theorem ows_sh {w : World} {B s : Nat} {x : SheetM} {A1 A2 A3 A4 A5 A6 : Option Addr} {c1 c2 c3 c4 c5 c6 : Nat} (h : OwS w (B + 1) s x (.slice A1 x.stops.length c1) (.slice A2 x.paths.length c2) (.slice A3 x.doors.length c3) (.slice A4 x.routes.length c4) (.slice A5 x.trips.length c5) (.slice A6 x.hazards.length c6)) : Sh w (fun b => B < b ∧ b < w.heap.size) x ⟨A1, A2, A3, A4, A5, A6, c1, c2, c3, c4, c5, c6⟩ := by
  obtain ⟨c, h4, h4'⟩ := h.r4
  exact ⟨(own_rd'' h.r1).more fun b hb => by omega, (own_rd'' h.r2).more fun b hb => by omega, (own_rd'' h.r3).more fun b hb => by omega, ⟨c, (own_rd'' h4).more fun b hb => by omega, h4'.more fun b hb => ⟨by have := hb.1; omega, hb.2.1⟩⟩, (own_rd'' h.r5).more fun b hb => by omega, (own_rd'' h.r6).more fun b hb => by omega⟩
theorem Zs.after {w w' : World} {lo hi : Nat} {x : SheetM} {p : ShA} (h : Zs w lo hi x p) (hb : Below w.heap.size w w') : Zs w' lo hi x p := by
  obtain ⟨c, h4, h4'⟩ := h.r4
  have hh := h.hi_
  exact ⟨own_after h.r1 hb, own_after h.r2 hb, own_after h.r3 hb, ⟨c, own_after h4 hb, h4'.keep fun b hk => hb.block b (by omega)⟩, own_after h.r5 hb, own_after h.r6 hb, Nat.le_trans hh hb.size⟩
/-- a box of a sheet is written -/
theorem Zs.box {w w' : World} {lo hi g : Nat} {x : SheetM} {p : ShA} {l : List Value} (h : Zs w lo hi x p) (hg : Blk w g 44 l) (hc : Ch (· = g) w w') (hn : g ≤ lo ∨ hi ≤ g) : Zs w' lo hi x p := by
  obtain ⟨c, h4, h4'⟩ := h.r4
  have hh := h.hi_
  exact ⟨hc.own h.r1 (own_ne_blk h.r1 hg (by decide)), hc.own h.r2 (own_ne_blk h.r2 hg (by decide)), hc.own h.r3 (own_ne_blk h.r3 hg (by decide)), ⟨c, hc.own h4 (own_ne_blk h4 hg (by decide)), h4'.keep fun b hk => hc.block b (by omega) (by omega)⟩, hc.own h.r5 (own_ne_blk h.r5 hg (by decide)), hc.own h.r6 (own_ne_blk h.r6 hg (by decide)), Nat.le_trans hh hc.size⟩
theorem rd_take {w : World} {S : Nat → Prop} {A : Option Addr} {xs : List Value} (h : Rd w S A xs) (k : Nat) : Rd w S A (xs.take k) := fun hn => by
  obtain ⟨ad, e1, e2, e3⟩ := h (by rw [List.length_take] at hn; omega)
  exact ⟨ad, e1, e2, fun j u hu => e3 j u (by rw [List.getElem?_take] at hu; split at hu; exact hu; cases hu)⟩
theorem cs_drop9 {α : Type} (f : α → List Value) (k : Nat) (h : ∀ a, (f a).length = k) : ∀ (l : List α) (n : Nat), cs f (l.drop n) = (cs f l).drop (n * k)
  | l, 0 => by simp
  | [], n + 1 => by simp [cs]
  | a :: r, n + 1 => by
    rw [List.drop_succ_cons, cs_drop9 f k h r n, cs_cons, show (n + 1) * k = (f a).length + n * k by rw [h]; rw [Nat.add_mul]; omega, List.drop_append]
    simp
theorem cs_take9 {α : Type} (f : α → List Value) (k : Nat) (h : ∀ a, (f a).length = k) : ∀ (l : List α) (n : Nat), cs f (l.take n) = (cs f l).take (n * k)
  | l, 0 => by simp [cs]
  | [], n + 1 => by simp [cs]
  | a :: r, n + 1 => by
    rw [List.take_succ_cons, cs_cons, cs_take9 f k h r n, cs_cons, show (n + 1) * k = (f a).length + n * k by rw [h]; rw [Nat.add_mul]; omega, List.take_append]
    simp [List.take_of_length_le]
theorem cs_append9 {α : Type} (f : α → List Value) (a b : List α) : cs f (a ++ b) = cs f a ++ cs f b := by simp [cs]
theorem zs_sh {w : World} {lo hi : Nat} {x : SheetM} {p : ShA} (h : Zs w lo hi x p) : Sh w (· < w.heap.size) x p := by
  obtain ⟨c, h4, h4'⟩ := h.r4
  have hh := h.hi_
  exact ⟨(own_rd'' h.r1).more fun b hb => hb.2, (own_rd'' h.r2).more fun b hb => hb.2, (own_rd'' h.r3).more fun b hb => hb.2, ⟨c, (own_rd'' h4).more fun b hb => hb.2, h4'.more fun b hb => by omega⟩, (own_rd'' h.r5).more fun b hb => hb.2, (own_rd'' h.r6).more fun b hb => hb.2⟩
def LsRel (w W : World) (x : SheetM) (v9 v10 : Value) (wc : World) : Prop :=
  ∃ (g9 g10 : Nat) (py pz : ShA) (lo hi : Nat), v9 = .pointer (some ⟨g9, 0, none⟩) ∧ v10 = .pointer (some ⟨g10, 0, none⟩) ∧ Hid (Blk wc g9 44 [.int .i64 x.horizon, .slice py.a1 x.stops.length py.c1, .slice py.a2 x.paths.length py.c2, .slice py.a3 x.doors.length py.c3, .slice py.a4 x.routes.length py.c4, .slice py.a5 x.trips.length py.c5, .slice py.a6 x.hazards.length py.c6]) ∧ Hid (Blk wc g10 44 [.int .i64 x.horizon, .slice pz.a1 x.stops.length pz.c1, .slice pz.a2 x.paths.length pz.c2, .slice pz.a3 x.doors.length pz.c3, .slice pz.a4 x.routes.length pz.c4, .slice pz.a5 x.trips.length pz.c5, .slice pz.a6 x.hazards.length pz.c6]) ∧ Hid (g9 ≠ g10) ∧ Hid (w.heap.size < g9) ∧ Hid (w.heap.size < g10) ∧ Hid (Sh wc (fun b => b ≠ g9 ∧ b ≠ g10 ∧ b < lo) x py) ∧ Hid (Zs wc lo hi x pz) ∧ Hid (g9 ≤ lo ∨ hi ≤ g9) ∧ Hid (g10 ≤ lo ∨ hi ≤ g10) ∧ Hid (lo < hi + 1) ∧ Hid (w.heap.size < lo) ∧ Hid (Below W.heap.size W wc)
def stS (w : World) (g : Nat) (x : SheetM) (p : ShA) : World := sto7 w g (.int .i64 x.horizon) (.slice p.a1 x.stops.length p.c1) (.slice p.a2 x.paths.length p.c2) (.slice p.a3 x.doors.length p.c3) (.slice p.a4 x.routes.length p.c4) (.slice p.a5 x.trips.length p.c5) (.slice p.a6 x.hazards.length p.c6)
abbrev BZ : Obj := .cells #[.int .i64 0, .slice none 0 0, .slice none 0 0, .slice none 0 0, .slice none 0 0, .slice none 0 0, .slice none 0 0] 44
theorem bz_size {w : World} {g : Nat} (h : g = w.heap.size) : g = w.heap.size ∧ g + 1 = (w.alloc BZ).heap.size := ⟨h, by rw [h]; simp⟩
theorem bz_blk {w : World} {g : Nat} (h : g = w.heap.size) : Blk (w.alloc BZ) g 44 [.int .i64 0, .slice none 0 0, .slice none 0 0, .slice none 0 0, .slice none 0 0, .slice none 0 0, .slice none 0 0] := by rw [h]; exact Blk.new w _ _
section
variable {w : World} {s : Nat} {x : SheetM} {p : ShA}
theorem stS_below {B : Nat} {a : World} (h : Below B a w) (hs : B ≤ s) : Below B a (stS w s x p) := sto7_below h hs
theorem stS_ch : Ch (· = s) w (stS w s x p) := sto7_ch
theorem stS_blk {t : TypeId} {a0 a1 a2 a3 a4 a5 a6 : Value} (h : Blk w s t [a0, a1, a2, a3, a4, a5, a6]) : Blk (stS w s x p) s t (shL' x p) := sto7_blk h
end
def LsMid (w : World) (g9 g10 g11 : Nat) (wd : World) : Prop :=
  ∃ (y z : SheetM) (py pz : ShA) (k : WrM), Hid (Blk wd g9 44 [.int .i64 y.horizon, .slice py.a1 y.stops.length py.c1, .slice py.a2 y.paths.length py.c2, .slice py.a3 y.doors.length py.c3, .slice py.a4 y.routes.length py.c4, .slice py.a5 y.trips.length py.c5, .slice py.a6 y.hazards.length py.c6]) ∧ Hid (Blk wd g10 44 [.int .i64 z.horizon, .slice pz.a1 z.stops.length pz.c1, .slice pz.a2 z.paths.length pz.c2, .slice pz.a3 z.doors.length pz.c3, .slice pz.a4 z.routes.length pz.c4, .slice pz.a5 z.trips.length pz.c5, .slice pz.a6 z.hazards.length pz.c6]) ∧ Hid (Blk wd g11 35 [.int .i64 k.err, .int .i64 k.kind, .int .i64 k.at_]) ∧ Hid (Sh wd (· < wd.heap.size) y py) ∧ Hid (Sh wd (· < wd.heap.size) z pz) ∧ Hid (wrongX y = okW) ∧ Hid (wrongX z = k) ∧ Hid (XLt y) ∧ Hid (XLt z) ∧ Hid (Below w.heap.size w wd)
theorem lt_of {x : SheetM} (h : lightM x = true) : Lt x := by
  simp only [lightM, Bool.and_eq_true, decide_eq_true_eq, List.all_eq_true, lightR] at h
  obtain ⟨⟨⟨⟨⟨⟨h1, h2⟩, h3⟩, h4⟩, h5⟩, h6⟩, h7⟩ := h
  exact ⟨h1, h2, h3, h4, h5, h6, fun r hr => ⟨(h7 r hr).1, (h7 r hr).2.1, (h7 r hr).2.2⟩⟩
def TruePost (w : World) (e : Ending) (w' : World) : Prop := e = .returned (.bool true) ∧ Below w.heap.size w w'
set_option maxRecDepth 100000 in
set_option maxHeartbeats 4000000 in
theorem less_all (x : SheetM) (p : ShA) (w : World) (h : Sh w (· < w.heap.size) x p) (hc : ShCap x p) (kd at_ : Int) (hk0 : -9223372036854775808 ≤ kd) (hk1 : kd ≤ 9223372036854775807) (ha0 : -9223372036854775808 ≤ at_) (ha1 : at_ ≤ 9223372036854775807) :
    Calls Tryz.prog 6 #[shV x p, .int .i64 kd, .int .i64 at_] w (TruePost w) := by
  have HS := Lib.hid h
  have HCP := Lib.hid hc
  clear hc
  have HLI := Lib.hid (fun w1 (hb : Below w.heap.size w w1) => light_any x p w1 (h.later hb))
  have HLV := Lib.hid (fun w1 => lives_any w1)
  dsimp only [shV] at HLI ⊢
  clear h
  cases hlm : lightM x with
  | false =>
    rw [hlm] at HLI
    go_enter Tryz.func6, Tryz.ntmps6
    go_wp2_with (first
      | (go_at_call 9; refine (HLV.out _).mono ?_; rintro e w1 ⟨rfl, hb⟩; have B1 : Hid (Below w.heap.size w w1) := Lib.hid (keep_trans (one_box _ _) hb); have K1 := Lib.hid ((Blk.new w 44 [.int .i64 x.horizon, .slice p.a1 x.stops.length p.c1, .slice p.a2 x.paths.length p.c2, .slice p.a3 x.doors.length p.c3, .slice p.a4 x.routes.length p.c4, .slice p.a5 x.trips.length p.c5, .slice p.a6 x.hazards.length p.c6]).after hb); have s0 : w1.cell? ⟨w.heap.size, 0, none⟩ = some (.int .i64 x.horizon) := K1.out.cell 0; have s1 : w1.cell? ⟨w.heap.size, 1, none⟩ = some (.slice p.a1 x.stops.length p.c1) := K1.out.cell 1; have s2 : w1.cell? ⟨w.heap.size, 2, none⟩ = some (.slice p.a2 x.paths.length p.c2) := K1.out.cell 2; have s3 : w1.cell? ⟨w.heap.size, 3, none⟩ = some (.slice p.a3 x.doors.length p.c3) := K1.out.cell 3; have s4 : w1.cell? ⟨w.heap.size, 4, none⟩ = some (.slice p.a4 x.routes.length p.c4) := K1.out.cell 4; have s5 : w1.cell? ⟨w.heap.size, 5, none⟩ = some (.slice p.a5 x.trips.length p.c5) := K1.out.cell 5; have s6 : w1.cell? ⟨w.heap.size, 6, none⟩ = some (.slice p.a6 x.hazards.length p.c6) := K1.out.cell 6; clear hb)
      | (go_at_call 16; refine (HLI.out _ B1.out).mono ?_; rintro e w2 ⟨rfl, hb⟩; have B2 : Hid (Below w.heap.size w w2) := Lib.hid (keep_trans B1.out hb); clear hb))
    go_ret
    exact ⟨rfl, B2.out⟩
  | true =>
    rw [hlm] at HLI
    have HLT : Hid (Lt x) := Lib.hid (lt_of hlm)
    clear hlm
    have HMK := Lib.hid (fun w1 (hb : Below w.heap.size w w1) => make_w (x := x) rfl p w1 (HS.out.later hb) (lt_xlt HLT.out))
    dsimp only [shV] at HMK
    obtain ⟨⟨we, wk, wa⟩, hwx⟩ : ∃ k, k = wrongX x := ⟨_, rfl⟩
    rw [← hwx] at HMK
    dsimp only [wrV] at HMK
    by_cases hwe : we = 0
    · have HOK : Hid ((wrongX x).err = 0) := Lib.hid (by rw [← hwx]; exact hwe)
      subst hwe
      clear hwx
      go_enter Tryz.func6, Tryz.ntmps6
      go_upto_region 8 with (first
        | (go_at_call 9; refine (HLV.out _).mono ?_; rintro e w1 ⟨rfl, hb⟩; have B1 : Hid (Below w.heap.size w w1) := Lib.hid (keep_trans (one_box _ _) hb); have K1 := Lib.hid ((Blk.new w 44 [.int .i64 x.horizon, .slice p.a1 x.stops.length p.c1, .slice p.a2 x.paths.length p.c2, .slice p.a3 x.doors.length p.c3, .slice p.a4 x.routes.length p.c4, .slice p.a5 x.trips.length p.c5, .slice p.a6 x.hazards.length p.c6]).after hb); have s0 : w1.cell? ⟨w.heap.size, 0, none⟩ = some (.int .i64 x.horizon) := K1.out.cell 0; have s1 : w1.cell? ⟨w.heap.size, 1, none⟩ = some (.slice p.a1 x.stops.length p.c1) := K1.out.cell 1; have s2 : w1.cell? ⟨w.heap.size, 2, none⟩ = some (.slice p.a2 x.paths.length p.c2) := K1.out.cell 2; have s3 : w1.cell? ⟨w.heap.size, 3, none⟩ = some (.slice p.a3 x.doors.length p.c3) := K1.out.cell 3; have s4 : w1.cell? ⟨w.heap.size, 4, none⟩ = some (.slice p.a4 x.routes.length p.c4) := K1.out.cell 4; have s5 : w1.cell? ⟨w.heap.size, 5, none⟩ = some (.slice p.a5 x.trips.length p.c5) := K1.out.cell 5; have s6 : w1.cell? ⟨w.heap.size, 6, none⟩ = some (.slice p.a6 x.hazards.length p.c6) := K1.out.cell 6; clear hb)
        | (go_at_call 16; refine (HLI.out _ B1.out).mono ?_; rintro e w2 ⟨rfl, hb⟩; have B2 : Hid (Below w.heap.size w w2) := Lib.hid (keep_trans B1.out hb); have K2 := Lib.hid (K1.out.after hb); clear s0 s1 s2 s3 s4 s5 s6; have s0 : w2.cell? ⟨w.heap.size, 0, none⟩ = some (.int .i64 x.horizon) := K2.out.cell 0; have s1 : w2.cell? ⟨w.heap.size, 1, none⟩ = some (.slice p.a1 x.stops.length p.c1) := K2.out.cell 1; have s2 : w2.cell? ⟨w.heap.size, 2, none⟩ = some (.slice p.a2 x.paths.length p.c2) := K2.out.cell 2; have s3 : w2.cell? ⟨w.heap.size, 3, none⟩ = some (.slice p.a3 x.doors.length p.c3) := K2.out.cell 3; have s4 : w2.cell? ⟨w.heap.size, 4, none⟩ = some (.slice p.a4 x.routes.length p.c4) := K2.out.cell 4; have s5 : w2.cell? ⟨w.heap.size, 5, none⟩ = some (.slice p.a5 x.trips.length p.c5) := K2.out.cell 5; have s6 : w2.cell? ⟨w.heap.size, 6, none⟩ = some (.slice p.a6 x.hazards.length p.c6) := K2.out.cell 6; clear hb)
        | (go_at_call 10; refine (HMK.out _ B2.out).mono ?_; rintro e w3 ⟨m, q, rfl, hb⟩; obtain ⟨⟨a1, a2, a3, a4, a5, a6, c1, c2, c3, c4, c5, c6⟩, b2, b3, b4, b5, b6, d2, d3, d4, d5, d6⟩ := q; have B3 : Hid (Below w.heap.size w w3) := Lib.hid (keep_trans B2.out hb); have K3 := Lib.hid (K2.out.after hb); clear s0 s1 s2 s3 s4 s5 s6; clear hb))
      obtain ⟨W, hW⟩ : ∃ W, W = (w3.alloc (.cells #[.int .i64 m.horizon, .slice a1 m.names.stops.length c1, .slice a2 m.names.paths.length c2, .slice a3 m.names.doors.length c3, .slice a4 m.names.routes.length c4, .slice a5 m.names.trips.length c5, .slice a6 m.names.hazards.length c6, .slice b2 m.paths.length d2, .slice b3 m.doors.length d3, .slice b4 m.routes.length d4, .slice b5 m.trips.length d5, .slice b6 m.hazards.length d6] 32)).alloc (.cells #[.int .i64 0, .int .i64 wk, .int .i64 wa] 35) := ⟨_, rfl⟩
      have BW : Hid (Below w.heap.size w W) := Lib.hid (by rw [hW]; exact bel2 B3.out _ _)
      have KX : Hid (Blk W w.heap.size 44 [.int .i64 x.horizon, .slice p.a1 x.stops.length p.c1, .slice p.a2 x.paths.length p.c2, .slice p.a3 x.doors.length p.c3, .slice p.a4 x.routes.length p.c4, .slice p.a5 x.trips.length p.c5, .slice p.a6 x.hazards.length p.c6]) := Lib.hid (by rw [hW]; exact (K3.out.alloc _).alloc _)
      rw [← hW]
      clear hW B1 B2 B3 K1 K2 K3
      have HSZ : Hid (w.heap.size < W.heap.size) := Lib.hid KX.out.lt
      have KC : Hid (∀ w', Below W.heap.size W w' → w'.cell? ⟨w.heap.size, 0, none⟩ = some (.int .i64 x.horizon) ∧ w'.cell? ⟨w.heap.size, 1, none⟩ = some (.slice p.a1 x.stops.length p.c1) ∧ w'.cell? ⟨w.heap.size, 2, none⟩ = some (.slice p.a2 x.paths.length p.c2) ∧ w'.cell? ⟨w.heap.size, 3, none⟩ = some (.slice p.a3 x.doors.length p.c3) ∧ w'.cell? ⟨w.heap.size, 4, none⟩ = some (.slice p.a4 x.routes.length p.c4) ∧ w'.cell? ⟨w.heap.size, 5, none⟩ = some (.slice p.a5 x.trips.length p.c5) ∧ w'.cell? ⟨w.heap.size, 6, none⟩ = some (.slice p.a6 x.hazards.length p.c6)) := Lib.hid (fun w' hb => by
        have a := KX.out.after hb
        exact ⟨a.cell 0, a.cell 1, a.cell 2, a.cell 3, a.cell 4, a.cell 5, a.cell 6⟩)
      have HOW := Lib.hid (fun w1 (hb : Below W.heap.size W w1) => own_sheet x p w1 (HS.out.later (keep_trans BW.out hb)) (lt_xlt HLT.out).few)
      unfold OwnShPost at HOW
      dsimp only [shV] at HOW
      go_cut [9, 10] from 32 to 35 (fun v9 v10 wc => LsRel w W x v9 v10 wc)
      case first =>
        refine wp_region_held_drew (S := fun w' => Hid (Below W.heap.size W w')) (by kernel_rfl) ?_ (fun hHeld => ?_)
        · exact Lib.hid (below_drew (Below.refl _ _))
        refine wpAnyH_take (i := 0) (v := ?vul1) rfl (by kernel_rfl) (by kernel_rfl) (by kernel_rfl) (fun _ _ _ h => h) (Or.inl ⟨by rfl, ?hyul1⟩) (by assumption) ?restul1
        case hyul1 => (intro w' hSw; obtain ⟨kc0, kc1, kc2, kc3, kc4, kc5, kc6⟩ := KC.out w' hSw.out; clear hSw; go_simp; try with_reducible rfl)
        simp only [Act.put, List.getElem_toArray, List.getElem_cons_zero, List.getElem_cons_succ, List.setIfInBounds_toArray, List.set_cons_zero, List.set_cons_succ]
        refine wpAnyH_take (i := 2) (v := ?vul2) rfl (by kernel_rfl) (by kernel_rfl) (by kernel_rfl) (fun _ _ _ h => h) (Or.inl ⟨by rfl, ?hyul2⟩) (by assumption) ?restul2
        case hyul2 => (intro w' hSw; obtain ⟨kc0, kc1, kc2, kc3, kc4, kc5, kc6⟩ := KC.out w' hSw.out; clear hSw; go_simp; try with_reducible rfl)
        simp only [Act.put, List.getElem_toArray, List.getElem_cons_zero, List.getElem_cons_succ, List.setIfInBounds_toArray, List.set_cons_zero, List.set_cons_succ]
        have D0 := hHeld
        clear hHeld
        have z0 : Hid (W.heap.size ≤ (World.drew W).heap.size) := Lib.hid (Nat.le_refl _)
        generalize World.drew W = vn at *
        have DD := D0
        clear D0
        rename World => vv
        refine wpAnyH_ready (rs := [1, 4, 5]) (by kernel_rfl) (by simp) ?_
        refine AllReadyH.cons rfl (fun K hK => ?_) (AllReadyH.cons rfl (fun K hK => ?_) (AllReadyH.cons rfl (fun K hK => ?_) AllReadyH.nil))
        focus
         go_simp
         go_at_call 18
         refine (HOW.out _ DD.out).mono ?_
         rintro e' vn ⟨Y1, Y2, Y3, Y4, Y5, Y6, y1, y2, y3, y4, y5, y6, rfl, ⟨sy, hO⟩, hb⟩
         have DN := Lib.hid (keep_trans DD.out hb)
         have zC := Lib.hid hb.size
         have HY := Lib.hid (ows_sh hO)
         clear hb hO
         dsimp only
         refine hK.out _ _ DN (fun hHeld => ?_)
         clear hK K hHeld
         rename World => vv
         have DD := DN
         clear DN
         refine wpAnyH_ready (rs := [3, 4, 5]) (by kernel_rfl) (by simp) ?_
         refine AllReadyH.cons rfl (fun K hK => ?_) (AllReadyH.cons rfl (fun K hK => ?_) (AllReadyH.cons rfl (fun K hK => ?_) AllReadyH.nil))
         focus
          go_simp
          go_at_call 18
          refine (HOW.out _ DD.out).mono ?_
          rintro e' vn ⟨Z1, Z2, Z3, Z4, Z5, Z6, z1, z2, z3, z4, z5, z6, rfl, ⟨sz, hO⟩, hb⟩
          have DN := Lib.hid (keep_trans DD.out hb)
          have zE := Lib.hid hb.size
          have HLU := Lib.hid (Nat.lt_succ_of_le hb.size)
          have HY := Lib.hid (HY.out.keep fun b hk => hb.block b (by have := z0.out; have := zC.out; omega))
          have HZ := Lib.hid (ows_zs hO)
          clear hb hO
          dsimp only
          refine hK.out _ _ DN (fun hHeld => ?_)
          clear hK K hHeld
          rename World => vv
          have DD := DN
          clear DN
          refine wpAnyH_ready (rs := [4, 5]) (by kernel_rfl) (by simp) ?_
          refine AllReadyH.cons rfl (fun K hK => ?_) (AllReadyH.cons rfl (fun K hK => ?_) AllReadyH.nil)
          focus
           go_simp
           obtain ⟨g9, hg⟩ : ∃ g, g = vv.heap.size := ⟨_, rfl⟩
           have hb := one_box vv BZ
           have DN := Lib.hid (keep_trans DD.out hb)
           have zA := Lib.hid (bz_size hg)
           have KA := Lib.hid (bz_blk hg)
           have HY := Lib.hid (HY.out.keep fun b hk => hb.block b (by have := z0.out; have := zC.out; have := zE.out; omega))
           have HZ := Lib.hid (HZ.out.after hb)
           rw [← hg]
           clear hb hg
           change K _ (vv.alloc BZ)
           generalize vv.alloc BZ = vn at *
           refine hK.out _ _ DN (fun hHeld => ?_)
           clear hK K hHeld
           rename World => vv
           have DD := DN
           clear DN
           refine wpAnyH_ready (rs := [5]) (by kernel_rfl) (by simp) ?_
           refine AllReadyH.cons rfl (fun K hK => ?_) AllReadyH.nil
           focus
            go_simp
            obtain ⟨g10, hg⟩ : ∃ g, g = vv.heap.size := ⟨_, rfl⟩
            have hb := one_box vv BZ
            have DN := Lib.hid (keep_trans DD.out hb)
            have zB := Lib.hid (bz_size hg)
            have KA := Lib.hid (KA.out.after hb)
            have KB := Lib.hid (bz_blk hg)
            have HY := Lib.hid (HY.out.keep fun b hk => hb.block b (by have := z0.out; have := zC.out; have := zE.out; have := zA.out; omega))
            have HZ := Lib.hid (HZ.out.after hb)
            rw [← hg]
            clear hb hg
            change K _ (vv.alloc BZ)
            generalize vv.alloc BZ = vn at *
            refine hK.out _ _ DN (fun hHeld => ?_)
            clear hK K hHeld
            rename World => vv
            have DD := DN
            clear DN
           rotate_left 1
          rotate_left 1
          focus
           go_simp
           obtain ⟨g10, hg⟩ : ∃ g, g = vv.heap.size := ⟨_, rfl⟩
           have hb := one_box vv BZ
           have DN := Lib.hid (keep_trans DD.out hb)
           have zB := Lib.hid (bz_size hg)
           have KB := Lib.hid (bz_blk hg)
           have HY := Lib.hid (HY.out.keep fun b hk => hb.block b (by have := z0.out; have := zC.out; have := zE.out; omega))
           have HZ := Lib.hid (HZ.out.after hb)
           rw [← hg]
           clear hb hg
           change K _ (vv.alloc BZ)
           generalize vv.alloc BZ = vn at *
           refine hK.out _ _ DN (fun hHeld => ?_)
           clear hK K hHeld
           rename World => vv
           have DD := DN
           clear DN
           refine wpAnyH_ready (rs := [4]) (by kernel_rfl) (by simp) ?_
           refine AllReadyH.cons rfl (fun K hK => ?_) AllReadyH.nil
           focus
            go_simp
            obtain ⟨g9, hg⟩ : ∃ g, g = vv.heap.size := ⟨_, rfl⟩
            have hb := one_box vv BZ
            have DN := Lib.hid (keep_trans DD.out hb)
            have zA := Lib.hid (bz_size hg)
            have KB := Lib.hid (KB.out.after hb)
            have KA := Lib.hid (bz_blk hg)
            have HY := Lib.hid (HY.out.keep fun b hk => hb.block b (by have := z0.out; have := zC.out; have := zE.out; have := zB.out; omega))
            have HZ := Lib.hid (HZ.out.after hb)
            rw [← hg]
            clear hb hg
            change K _ (vv.alloc BZ)
            generalize vv.alloc BZ = vn at *
            refine hK.out _ _ DN (fun hHeld => ?_)
            clear hK K hHeld
            rename World => vv
            have DD := DN
            clear DN
           rotate_left 1
          rotate_left 1
         rotate_left 2
         focus
          go_simp
          obtain ⟨g9, hg⟩ : ∃ g, g = vv.heap.size := ⟨_, rfl⟩
          have hb := one_box vv BZ
          have DN := Lib.hid (keep_trans DD.out hb)
          have zA := Lib.hid (bz_size hg)
          have KA := Lib.hid (bz_blk hg)
          have HY := Lib.hid (HY.out.keep fun b hk => hb.block b (by have := z0.out; have := zC.out; omega))
          rw [← hg]
          clear hb hg
          change K _ (vv.alloc BZ)
          generalize vv.alloc BZ = vn at *
          refine hK.out _ _ DN (fun hHeld => ?_)
          clear hK K hHeld
          rename World => vv
          have DD := DN
          clear DN
          refine wpAnyH_ready (rs := [3, 5]) (by kernel_rfl) (by simp) ?_
          refine AllReadyH.cons rfl (fun K hK => ?_) (AllReadyH.cons rfl (fun K hK => ?_) AllReadyH.nil)
          focus
           go_simp
           go_at_call 18
           refine (HOW.out _ DD.out).mono ?_
           rintro e' vn ⟨Z1, Z2, Z3, Z4, Z5, Z6, z1, z2, z3, z4, z5, z6, rfl, ⟨sz, hO⟩, hb⟩
           have DN := Lib.hid (keep_trans DD.out hb)
           have zE := Lib.hid hb.size
           have KA := Lib.hid (KA.out.after hb)
           have HLU := Lib.hid (Nat.lt_succ_of_le hb.size)
           have HY := Lib.hid (HY.out.keep fun b hk => hb.block b (by have := z0.out; have := zC.out; have := zA.out; omega))
           have HZ := Lib.hid (ows_zs hO)
           clear hb hO
           dsimp only
           refine hK.out _ _ DN (fun hHeld => ?_)
           clear hK K hHeld
           rename World => vv
           have DD := DN
           clear DN
           refine wpAnyH_ready (rs := [5]) (by kernel_rfl) (by simp) ?_
           refine AllReadyH.cons rfl (fun K hK => ?_) AllReadyH.nil
           focus
            go_simp
            obtain ⟨g10, hg⟩ : ∃ g, g = vv.heap.size := ⟨_, rfl⟩
            have hb := one_box vv BZ
            have DN := Lib.hid (keep_trans DD.out hb)
            have zB := Lib.hid (bz_size hg)
            have KA := Lib.hid (KA.out.after hb)
            have KB := Lib.hid (bz_blk hg)
            have HY := Lib.hid (HY.out.keep fun b hk => hb.block b (by have := z0.out; have := zC.out; have := zA.out; have := zE.out; omega))
            have HZ := Lib.hid (HZ.out.after hb)
            rw [← hg]
            clear hb hg
            change K _ (vv.alloc BZ)
            generalize vv.alloc BZ = vn at *
            refine hK.out _ _ DN (fun hHeld => ?_)
            clear hK K hHeld
            rename World => vv
            have DD := DN
            clear DN
           rotate_left 1
          rotate_left 1
          focus
           go_simp
           obtain ⟨g10, hg⟩ : ∃ g, g = vv.heap.size := ⟨_, rfl⟩
           have hb := one_box vv BZ
           have DN := Lib.hid (keep_trans DD.out hb)
           have zB := Lib.hid (bz_size hg)
           have KA := Lib.hid (KA.out.after hb)
           have KB := Lib.hid (bz_blk hg)
           have HY := Lib.hid (HY.out.keep fun b hk => hb.block b (by have := z0.out; have := zC.out; have := zA.out; omega))
           rw [← hg]
           clear hb hg
           change K _ (vv.alloc BZ)
           generalize vv.alloc BZ = vn at *
           refine hK.out _ _ DN (fun hHeld => ?_)
           clear hK K hHeld
           rename World => vv
           have DD := DN
           clear DN
           refine wpAnyH_ready (rs := [3]) (by kernel_rfl) (by simp) ?_
           refine AllReadyH.cons rfl (fun K hK => ?_) AllReadyH.nil
           focus
            go_simp
            go_at_call 18
            refine (HOW.out _ DD.out).mono ?_
            rintro e' vn ⟨Z1, Z2, Z3, Z4, Z5, Z6, z1, z2, z3, z4, z5, z6, rfl, ⟨sz, hO⟩, hb⟩
            have DN := Lib.hid (keep_trans DD.out hb)
            have zE := Lib.hid hb.size
            have KA := Lib.hid (KA.out.after hb)
            have KB := Lib.hid (KB.out.after hb)
            have HLU := Lib.hid (Nat.lt_succ_of_le hb.size)
            have HY := Lib.hid (HY.out.keep fun b hk => hb.block b (by have := z0.out; have := zC.out; have := zA.out; have := zB.out; omega))
            have HZ := Lib.hid (ows_zs hO)
            clear hb hO
            dsimp only
            refine hK.out _ _ DN (fun hHeld => ?_)
            clear hK K hHeld
            rename World => vv
            have DD := DN
            clear DN
           rotate_left 1
          rotate_left 1
         rotate_left 2
         focus
          go_simp
          obtain ⟨g10, hg⟩ : ∃ g, g = vv.heap.size := ⟨_, rfl⟩
          have hb := one_box vv BZ
          have DN := Lib.hid (keep_trans DD.out hb)
          have zB := Lib.hid (bz_size hg)
          have KB := Lib.hid (bz_blk hg)
          have HY := Lib.hid (HY.out.keep fun b hk => hb.block b (by have := z0.out; have := zC.out; omega))
          rw [← hg]
          clear hb hg
          change K _ (vv.alloc BZ)
          generalize vv.alloc BZ = vn at *
          refine hK.out _ _ DN (fun hHeld => ?_)
          clear hK K hHeld
          rename World => vv
          have DD := DN
          clear DN
          refine wpAnyH_ready (rs := [3, 4]) (by kernel_rfl) (by simp) ?_
          refine AllReadyH.cons rfl (fun K hK => ?_) (AllReadyH.cons rfl (fun K hK => ?_) AllReadyH.nil)
          focus
           go_simp
           go_at_call 18
           refine (HOW.out _ DD.out).mono ?_
           rintro e' vn ⟨Z1, Z2, Z3, Z4, Z5, Z6, z1, z2, z3, z4, z5, z6, rfl, ⟨sz, hO⟩, hb⟩
           have DN := Lib.hid (keep_trans DD.out hb)
           have zE := Lib.hid hb.size
           have KB := Lib.hid (KB.out.after hb)
           have HLU := Lib.hid (Nat.lt_succ_of_le hb.size)
           have HY := Lib.hid (HY.out.keep fun b hk => hb.block b (by have := z0.out; have := zC.out; have := zB.out; omega))
           have HZ := Lib.hid (ows_zs hO)
           clear hb hO
           dsimp only
           refine hK.out _ _ DN (fun hHeld => ?_)
           clear hK K hHeld
           rename World => vv
           have DD := DN
           clear DN
           refine wpAnyH_ready (rs := [4]) (by kernel_rfl) (by simp) ?_
           refine AllReadyH.cons rfl (fun K hK => ?_) AllReadyH.nil
           focus
            go_simp
            obtain ⟨g9, hg⟩ : ∃ g, g = vv.heap.size := ⟨_, rfl⟩
            have hb := one_box vv BZ
            have DN := Lib.hid (keep_trans DD.out hb)
            have zA := Lib.hid (bz_size hg)
            have KB := Lib.hid (KB.out.after hb)
            have KA := Lib.hid (bz_blk hg)
            have HY := Lib.hid (HY.out.keep fun b hk => hb.block b (by have := z0.out; have := zC.out; have := zB.out; have := zE.out; omega))
            have HZ := Lib.hid (HZ.out.after hb)
            rw [← hg]
            clear hb hg
            change K _ (vv.alloc BZ)
            generalize vv.alloc BZ = vn at *
            refine hK.out _ _ DN (fun hHeld => ?_)
            clear hK K hHeld
            rename World => vv
            have DD := DN
            clear DN
           rotate_left 1
          rotate_left 1
          focus
           go_simp
           obtain ⟨g9, hg⟩ : ∃ g, g = vv.heap.size := ⟨_, rfl⟩
           have hb := one_box vv BZ
           have DN := Lib.hid (keep_trans DD.out hb)
           have zA := Lib.hid (bz_size hg)
           have KB := Lib.hid (KB.out.after hb)
           have KA := Lib.hid (bz_blk hg)
           have HY := Lib.hid (HY.out.keep fun b hk => hb.block b (by have := z0.out; have := zC.out; have := zB.out; omega))
           rw [← hg]
           clear hb hg
           change K _ (vv.alloc BZ)
           generalize vv.alloc BZ = vn at *
           refine hK.out _ _ DN (fun hHeld => ?_)
           clear hK K hHeld
           rename World => vv
           have DD := DN
           clear DN
           refine wpAnyH_ready (rs := [3]) (by kernel_rfl) (by simp) ?_
           refine AllReadyH.cons rfl (fun K hK => ?_) AllReadyH.nil
           focus
            go_simp
            go_at_call 18
            refine (HOW.out _ DD.out).mono ?_
            rintro e' vn ⟨Z1, Z2, Z3, Z4, Z5, Z6, z1, z2, z3, z4, z5, z6, rfl, ⟨sz, hO⟩, hb⟩
            have DN := Lib.hid (keep_trans DD.out hb)
            have zE := Lib.hid hb.size
            have KA := Lib.hid (KA.out.after hb)
            have KB := Lib.hid (KB.out.after hb)
            have HLU := Lib.hid (Nat.lt_succ_of_le hb.size)
            have HY := Lib.hid (HY.out.keep fun b hk => hb.block b (by have := z0.out; have := zC.out; have := zB.out; have := zA.out; omega))
            have HZ := Lib.hid (ows_zs hO)
            clear hb hO
            dsimp only
            refine hK.out _ _ DN (fun hHeld => ?_)
            clear hK K hHeld
            rename World => vv
            have DD := DN
            clear DN
           rotate_left 1
          rotate_left 1
         rotate_left 2
        rotate_left 6
        focus
         go_simp
         obtain ⟨g9, hg⟩ : ∃ g, g = vv.heap.size := ⟨_, rfl⟩
         have hb := one_box vv BZ
         have DN := Lib.hid (keep_trans DD.out hb)
         have zA := Lib.hid (bz_size hg)
         have KA := Lib.hid (bz_blk hg)
         rw [← hg]
         clear hb hg
         change K _ (vv.alloc BZ)
         generalize vv.alloc BZ = vn at *
         refine hK.out _ _ DN (fun hHeld => ?_)
         clear hK K hHeld
         rename World => vv
         have DD := DN
         clear DN
         refine wpAnyH_ready (rs := [1, 5]) (by kernel_rfl) (by simp) ?_
         refine AllReadyH.cons rfl (fun K hK => ?_) (AllReadyH.cons rfl (fun K hK => ?_) AllReadyH.nil)
         focus
          go_simp
          go_at_call 18
          refine (HOW.out _ DD.out).mono ?_
          rintro e' vn ⟨Y1, Y2, Y3, Y4, Y5, Y6, y1, y2, y3, y4, y5, y6, rfl, ⟨sy, hO⟩, hb⟩
          have DN := Lib.hid (keep_trans DD.out hb)
          have zC := Lib.hid hb.size
          have KA := Lib.hid (KA.out.after hb)
          have HY := Lib.hid (ows_sh hO)
          clear hb hO
          dsimp only
          refine hK.out _ _ DN (fun hHeld => ?_)
          clear hK K hHeld
          rename World => vv
          have DD := DN
          clear DN
          refine wpAnyH_ready (rs := [3, 5]) (by kernel_rfl) (by simp) ?_
          refine AllReadyH.cons rfl (fun K hK => ?_) (AllReadyH.cons rfl (fun K hK => ?_) AllReadyH.nil)
          focus
           go_simp
           go_at_call 18
           refine (HOW.out _ DD.out).mono ?_
           rintro e' vn ⟨Z1, Z2, Z3, Z4, Z5, Z6, z1, z2, z3, z4, z5, z6, rfl, ⟨sz, hO⟩, hb⟩
           have DN := Lib.hid (keep_trans DD.out hb)
           have zE := Lib.hid hb.size
           have KA := Lib.hid (KA.out.after hb)
           have HLU := Lib.hid (Nat.lt_succ_of_le hb.size)
           have HY := Lib.hid (HY.out.keep fun b hk => hb.block b (by have := z0.out; have := zA.out; have := zC.out; omega))
           have HZ := Lib.hid (ows_zs hO)
           clear hb hO
           dsimp only
           refine hK.out _ _ DN (fun hHeld => ?_)
           clear hK K hHeld
           rename World => vv
           have DD := DN
           clear DN
           refine wpAnyH_ready (rs := [5]) (by kernel_rfl) (by simp) ?_
           refine AllReadyH.cons rfl (fun K hK => ?_) AllReadyH.nil
           focus
            go_simp
            obtain ⟨g10, hg⟩ : ∃ g, g = vv.heap.size := ⟨_, rfl⟩
            have hb := one_box vv BZ
            have DN := Lib.hid (keep_trans DD.out hb)
            have zB := Lib.hid (bz_size hg)
            have KA := Lib.hid (KA.out.after hb)
            have KB := Lib.hid (bz_blk hg)
            have HY := Lib.hid (HY.out.keep fun b hk => hb.block b (by have := z0.out; have := zA.out; have := zC.out; have := zE.out; omega))
            have HZ := Lib.hid (HZ.out.after hb)
            rw [← hg]
            clear hb hg
            change K _ (vv.alloc BZ)
            generalize vv.alloc BZ = vn at *
            refine hK.out _ _ DN (fun hHeld => ?_)
            clear hK K hHeld
            rename World => vv
            have DD := DN
            clear DN
           rotate_left 1
          rotate_left 1
          focus
           go_simp
           obtain ⟨g10, hg⟩ : ∃ g, g = vv.heap.size := ⟨_, rfl⟩
           have hb := one_box vv BZ
           have DN := Lib.hid (keep_trans DD.out hb)
           have zB := Lib.hid (bz_size hg)
           have KA := Lib.hid (KA.out.after hb)
           have KB := Lib.hid (bz_blk hg)
           have HY := Lib.hid (HY.out.keep fun b hk => hb.block b (by have := z0.out; have := zA.out; have := zC.out; omega))
           rw [← hg]
           clear hb hg
           change K _ (vv.alloc BZ)
           generalize vv.alloc BZ = vn at *
           refine hK.out _ _ DN (fun hHeld => ?_)
           clear hK K hHeld
           rename World => vv
           have DD := DN
           clear DN
           refine wpAnyH_ready (rs := [3]) (by kernel_rfl) (by simp) ?_
           refine AllReadyH.cons rfl (fun K hK => ?_) AllReadyH.nil
           focus
            go_simp
            go_at_call 18
            refine (HOW.out _ DD.out).mono ?_
            rintro e' vn ⟨Z1, Z2, Z3, Z4, Z5, Z6, z1, z2, z3, z4, z5, z6, rfl, ⟨sz, hO⟩, hb⟩
            have DN := Lib.hid (keep_trans DD.out hb)
            have zE := Lib.hid hb.size
            have KA := Lib.hid (KA.out.after hb)
            have KB := Lib.hid (KB.out.after hb)
            have HLU := Lib.hid (Nat.lt_succ_of_le hb.size)
            have HY := Lib.hid (HY.out.keep fun b hk => hb.block b (by have := z0.out; have := zA.out; have := zC.out; have := zB.out; omega))
            have HZ := Lib.hid (ows_zs hO)
            clear hb hO
            dsimp only
            refine hK.out _ _ DN (fun hHeld => ?_)
            clear hK K hHeld
            rename World => vv
            have DD := DN
            clear DN
           rotate_left 1
          rotate_left 1
         rotate_left 2
         focus
          go_simp
          obtain ⟨g10, hg⟩ : ∃ g, g = vv.heap.size := ⟨_, rfl⟩
          have hb := one_box vv BZ
          have DN := Lib.hid (keep_trans DD.out hb)
          have zB := Lib.hid (bz_size hg)
          have KA := Lib.hid (KA.out.after hb)
          have KB := Lib.hid (bz_blk hg)
          rw [← hg]
          clear hb hg
          change K _ (vv.alloc BZ)
          generalize vv.alloc BZ = vn at *
          refine hK.out _ _ DN (fun hHeld => ?_)
          clear hK K hHeld
          rename World => vv
          have DD := DN
          clear DN
          refine wpAnyH_ready (rs := [1]) (by kernel_rfl) (by simp) ?_
          refine AllReadyH.cons rfl (fun K hK => ?_) AllReadyH.nil
          focus
           go_simp
           go_at_call 18
           refine (HOW.out _ DD.out).mono ?_
           rintro e' vn ⟨Y1, Y2, Y3, Y4, Y5, Y6, y1, y2, y3, y4, y5, y6, rfl, ⟨sy, hO⟩, hb⟩
           have DN := Lib.hid (keep_trans DD.out hb)
           have zC := Lib.hid hb.size
           have KA := Lib.hid (KA.out.after hb)
           have KB := Lib.hid (KB.out.after hb)
           have HY := Lib.hid (ows_sh hO)
           clear hb hO
           dsimp only
           refine hK.out _ _ DN (fun hHeld => ?_)
           clear hK K hHeld
           rename World => vv
           have DD := DN
           clear DN
           refine wpAnyH_ready (rs := [3]) (by kernel_rfl) (by simp) ?_
           refine AllReadyH.cons rfl (fun K hK => ?_) AllReadyH.nil
           focus
            go_simp
            go_at_call 18
            refine (HOW.out _ DD.out).mono ?_
            rintro e' vn ⟨Z1, Z2, Z3, Z4, Z5, Z6, z1, z2, z3, z4, z5, z6, rfl, ⟨sz, hO⟩, hb⟩
            have DN := Lib.hid (keep_trans DD.out hb)
            have zE := Lib.hid hb.size
            have KA := Lib.hid (KA.out.after hb)
            have KB := Lib.hid (KB.out.after hb)
            have HLU := Lib.hid (Nat.lt_succ_of_le hb.size)
            have HY := Lib.hid (HY.out.keep fun b hk => hb.block b (by have := z0.out; have := zA.out; have := zB.out; have := zC.out; omega))
            have HZ := Lib.hid (ows_zs hO)
            clear hb hO
            dsimp only
            refine hK.out _ _ DN (fun hHeld => ?_)
            clear hK K hHeld
            rename World => vv
            have DD := DN
            clear DN
           rotate_left 1
          rotate_left 1
         rotate_left 1
        rotate_left 3
        focus
         go_simp
         obtain ⟨g10, hg⟩ : ∃ g, g = vv.heap.size := ⟨_, rfl⟩
         have hb := one_box vv BZ
         have DN := Lib.hid (keep_trans DD.out hb)
         have zB := Lib.hid (bz_size hg)
         have KB := Lib.hid (bz_blk hg)
         rw [← hg]
         clear hb hg
         change K _ (vv.alloc BZ)
         generalize vv.alloc BZ = vn at *
         refine hK.out _ _ DN (fun hHeld => ?_)
         clear hK K hHeld
         rename World => vv
         have DD := DN
         clear DN
         refine wpAnyH_ready (rs := [1, 4]) (by kernel_rfl) (by simp) ?_
         refine AllReadyH.cons rfl (fun K hK => ?_) (AllReadyH.cons rfl (fun K hK => ?_) AllReadyH.nil)
         focus
          go_simp
          go_at_call 18
          refine (HOW.out _ DD.out).mono ?_
          rintro e' vn ⟨Y1, Y2, Y3, Y4, Y5, Y6, y1, y2, y3, y4, y5, y6, rfl, ⟨sy, hO⟩, hb⟩
          have DN := Lib.hid (keep_trans DD.out hb)
          have zC := Lib.hid hb.size
          have KB := Lib.hid (KB.out.after hb)
          have HY := Lib.hid (ows_sh hO)
          clear hb hO
          dsimp only
          refine hK.out _ _ DN (fun hHeld => ?_)
          clear hK K hHeld
          rename World => vv
          have DD := DN
          clear DN
          refine wpAnyH_ready (rs := [3, 4]) (by kernel_rfl) (by simp) ?_
          refine AllReadyH.cons rfl (fun K hK => ?_) (AllReadyH.cons rfl (fun K hK => ?_) AllReadyH.nil)
          focus
           go_simp
           go_at_call 18
           refine (HOW.out _ DD.out).mono ?_
           rintro e' vn ⟨Z1, Z2, Z3, Z4, Z5, Z6, z1, z2, z3, z4, z5, z6, rfl, ⟨sz, hO⟩, hb⟩
           have DN := Lib.hid (keep_trans DD.out hb)
           have zE := Lib.hid hb.size
           have KB := Lib.hid (KB.out.after hb)
           have HLU := Lib.hid (Nat.lt_succ_of_le hb.size)
           have HY := Lib.hid (HY.out.keep fun b hk => hb.block b (by have := z0.out; have := zB.out; have := zC.out; omega))
           have HZ := Lib.hid (ows_zs hO)
           clear hb hO
           dsimp only
           refine hK.out _ _ DN (fun hHeld => ?_)
           clear hK K hHeld
           rename World => vv
           have DD := DN
           clear DN
           refine wpAnyH_ready (rs := [4]) (by kernel_rfl) (by simp) ?_
           refine AllReadyH.cons rfl (fun K hK => ?_) AllReadyH.nil
           focus
            go_simp
            obtain ⟨g9, hg⟩ : ∃ g, g = vv.heap.size := ⟨_, rfl⟩
            have hb := one_box vv BZ
            have DN := Lib.hid (keep_trans DD.out hb)
            have zA := Lib.hid (bz_size hg)
            have KB := Lib.hid (KB.out.after hb)
            have KA := Lib.hid (bz_blk hg)
            have HY := Lib.hid (HY.out.keep fun b hk => hb.block b (by have := z0.out; have := zB.out; have := zC.out; have := zE.out; omega))
            have HZ := Lib.hid (HZ.out.after hb)
            rw [← hg]
            clear hb hg
            change K _ (vv.alloc BZ)
            generalize vv.alloc BZ = vn at *
            refine hK.out _ _ DN (fun hHeld => ?_)
            clear hK K hHeld
            rename World => vv
            have DD := DN
            clear DN
           rotate_left 1
          rotate_left 1
          focus
           go_simp
           obtain ⟨g9, hg⟩ : ∃ g, g = vv.heap.size := ⟨_, rfl⟩
           have hb := one_box vv BZ
           have DN := Lib.hid (keep_trans DD.out hb)
           have zA := Lib.hid (bz_size hg)
           have KB := Lib.hid (KB.out.after hb)
           have KA := Lib.hid (bz_blk hg)
           have HY := Lib.hid (HY.out.keep fun b hk => hb.block b (by have := z0.out; have := zB.out; have := zC.out; omega))
           rw [← hg]
           clear hb hg
           change K _ (vv.alloc BZ)
           generalize vv.alloc BZ = vn at *
           refine hK.out _ _ DN (fun hHeld => ?_)
           clear hK K hHeld
           rename World => vv
           have DD := DN
           clear DN
           refine wpAnyH_ready (rs := [3]) (by kernel_rfl) (by simp) ?_
           refine AllReadyH.cons rfl (fun K hK => ?_) AllReadyH.nil
           focus
            go_simp
            go_at_call 18
            refine (HOW.out _ DD.out).mono ?_
            rintro e' vn ⟨Z1, Z2, Z3, Z4, Z5, Z6, z1, z2, z3, z4, z5, z6, rfl, ⟨sz, hO⟩, hb⟩
            have DN := Lib.hid (keep_trans DD.out hb)
            have zE := Lib.hid hb.size
            have KA := Lib.hid (KA.out.after hb)
            have KB := Lib.hid (KB.out.after hb)
            have HLU := Lib.hid (Nat.lt_succ_of_le hb.size)
            have HY := Lib.hid (HY.out.keep fun b hk => hb.block b (by have := z0.out; have := zB.out; have := zC.out; have := zA.out; omega))
            have HZ := Lib.hid (ows_zs hO)
            clear hb hO
            dsimp only
            refine hK.out _ _ DN (fun hHeld => ?_)
            clear hK K hHeld
            rename World => vv
            have DD := DN
            clear DN
           rotate_left 1
          rotate_left 1
         rotate_left 2
         focus
          go_simp
          obtain ⟨g9, hg⟩ : ∃ g, g = vv.heap.size := ⟨_, rfl⟩
          have hb := one_box vv BZ
          have DN := Lib.hid (keep_trans DD.out hb)
          have zA := Lib.hid (bz_size hg)
          have KB := Lib.hid (KB.out.after hb)
          have KA := Lib.hid (bz_blk hg)
          rw [← hg]
          clear hb hg
          change K _ (vv.alloc BZ)
          generalize vv.alloc BZ = vn at *
          refine hK.out _ _ DN (fun hHeld => ?_)
          clear hK K hHeld
          rename World => vv
          have DD := DN
          clear DN
          refine wpAnyH_ready (rs := [1]) (by kernel_rfl) (by simp) ?_
          refine AllReadyH.cons rfl (fun K hK => ?_) AllReadyH.nil
          focus
           go_simp
           go_at_call 18
           refine (HOW.out _ DD.out).mono ?_
           rintro e' vn ⟨Y1, Y2, Y3, Y4, Y5, Y6, y1, y2, y3, y4, y5, y6, rfl, ⟨sy, hO⟩, hb⟩
           have DN := Lib.hid (keep_trans DD.out hb)
           have zC := Lib.hid hb.size
           have KA := Lib.hid (KA.out.after hb)
           have KB := Lib.hid (KB.out.after hb)
           have HY := Lib.hid (ows_sh hO)
           clear hb hO
           dsimp only
           refine hK.out _ _ DN (fun hHeld => ?_)
           clear hK K hHeld
           rename World => vv
           have DD := DN
           clear DN
           refine wpAnyH_ready (rs := [3]) (by kernel_rfl) (by simp) ?_
           refine AllReadyH.cons rfl (fun K hK => ?_) AllReadyH.nil
           focus
            go_simp
            go_at_call 18
            refine (HOW.out _ DD.out).mono ?_
            rintro e' vn ⟨Z1, Z2, Z3, Z4, Z5, Z6, z1, z2, z3, z4, z5, z6, rfl, ⟨sz, hO⟩, hb⟩
            have DN := Lib.hid (keep_trans DD.out hb)
            have zE := Lib.hid hb.size
            have KA := Lib.hid (KA.out.after hb)
            have KB := Lib.hid (KB.out.after hb)
            have HLU := Lib.hid (Nat.lt_succ_of_le hb.size)
            have HY := Lib.hid (HY.out.keep fun b hk => hb.block b (by have := z0.out; have := zB.out; have := zA.out; have := zC.out; omega))
            have HZ := Lib.hid (ows_zs hO)
            clear hb hO
            dsimp only
            refine hK.out _ _ DN (fun hHeld => ?_)
            clear hK K hHeld
            rename World => vv
            have DD := DN
            clear DN
           rotate_left 1
          rotate_left 1
         rotate_left 1
        rotate_left 3
        all_goals
         refine wpAnyH_ready (rs := [6]) (by kernel_rfl) (by simp) ?_
         refine AllReadyH.cons rfl (fun K hK => ?_) AllReadyH.nil
         have q0 : vv.cell? ⟨g9, 0, none⟩ = some (.int .i64 0) := KA.out.cell 0
         have q1 : vv.cell? ⟨g9, 1, none⟩ = some (.slice none 0 0) := KA.out.cell 1
         have q2 : vv.cell? ⟨g9, 2, none⟩ = some (.slice none 0 0) := KA.out.cell 2
         have q3 : vv.cell? ⟨g9, 3, none⟩ = some (.slice none 0 0) := KA.out.cell 3
         have q4 : vv.cell? ⟨g9, 4, none⟩ = some (.slice none 0 0) := KA.out.cell 4
         have q5 : vv.cell? ⟨g9, 5, none⟩ = some (.slice none 0 0) := KA.out.cell 5
         have q6 : vv.cell? ⟨g9, 6, none⟩ = some (.slice none 0 0) := KA.out.cell 6
         have qf : ∀ i, vv.frozen? ⟨g9, i, none⟩ = false := fun i => KA.out.frozen i
         go_simp
         clear qf q0 q1 q2 q3 q4 q5 q6
         change K _ (stS vv g9 x ⟨Y1, Y2, Y3, Y4, Y5, Y6, y1, y2, y3, y4, y5, y6⟩)
         have DA := Lib.hid (stS_below (x := x) (p := ⟨Y1, Y2, Y3, Y4, Y5, Y6, y1, y2, y3, y4, y5, y6⟩) DD.out (s := g9) (by have := z0.out; have := zA.out; have := zB.out; have := zC.out; have := zE.out; omega))
         have KS := Lib.hid (stS_blk (x := x) (p := ⟨Y1, Y2, Y3, Y4, Y5, Y6, y1, y2, y3, y4, y5, y6⟩) KA.out)
         have KT := Lib.hid (stS_ch.blk (w' := (stS vv g9 x ⟨Y1, Y2, Y3, Y4, Y5, Y6, y1, y2, y3, y4, y5, y6⟩)) KB.out (by have := z0.out; have := zA.out; have := zB.out; have := zC.out; have := zE.out; omega))
         have HY := Lib.hid (HY.out.keep (w' := (stS vv g9 x ⟨Y1, Y2, Y3, Y4, Y5, Y6, y1, y2, y3, y4, y5, y6⟩)) fun b hk => stS_ch.block b (by have := z0.out; have := zA.out; have := zB.out; have := zC.out; have := zE.out; omega) (by have := z0.out; have := zA.out; have := zB.out; have := zC.out; have := zE.out; omega))
         have HZ := Lib.hid (HZ.out.box (w' := (stS vv g9 x ⟨Y1, Y2, Y3, Y4, Y5, Y6, y1, y2, y3, y4, y5, y6⟩)) KA.out stS_ch (by have := z0.out; have := zA.out; have := zB.out; have := zC.out; have := zE.out; omega))
         have zF : Hid (vv.heap.size ≤ (stS vv g9 x ⟨Y1, Y2, Y3, Y4, Y5, Y6, y1, y2, y3, y4, y5, y6⟩).heap.size) := Lib.hid (Ch.size (X := (· = g9)) stS_ch)
         generalize (stS vv g9 x ⟨Y1, Y2, Y3, Y4, Y5, Y6, y1, y2, y3, y4, y5, y6⟩) = vA at *
         refine hK.out _ _ DA (fun hHeld => ?_)
         clear hK K hHeld
         refine wpAnyH_ready (rs := [7]) (by kernel_rfl) (by simp) ?_
         refine AllReadyH.cons rfl (fun K hK => ?_) AllReadyH.nil
         have q0 : vA.cell? ⟨g10, 0, none⟩ = some (.int .i64 0) := KT.out.cell 0
         have q1 : vA.cell? ⟨g10, 1, none⟩ = some (.slice none 0 0) := KT.out.cell 1
         have q2 : vA.cell? ⟨g10, 2, none⟩ = some (.slice none 0 0) := KT.out.cell 2
         have q3 : vA.cell? ⟨g10, 3, none⟩ = some (.slice none 0 0) := KT.out.cell 3
         have q4 : vA.cell? ⟨g10, 4, none⟩ = some (.slice none 0 0) := KT.out.cell 4
         have q5 : vA.cell? ⟨g10, 5, none⟩ = some (.slice none 0 0) := KT.out.cell 5
         have q6 : vA.cell? ⟨g10, 6, none⟩ = some (.slice none 0 0) := KT.out.cell 6
         have qf : ∀ i, vA.frozen? ⟨g10, i, none⟩ = false := fun i => KT.out.frozen i
         go_simp
         clear qf q0 q1 q2 q3 q4 q5 q6
         change K _ (stS vA g10 x ⟨Z1, Z2, Z3, Z4, Z5, Z6, z1, z2, z3, z4, z5, z6⟩)
         have DB := Lib.hid (stS_below (x := x) (p := ⟨Z1, Z2, Z3, Z4, Z5, Z6, z1, z2, z3, z4, z5, z6⟩) DA.out (s := g10) (by have := z0.out; have := zA.out; have := zB.out; have := zC.out; have := zE.out; omega))
         have KD := Lib.hid (stS_blk (x := x) (p := ⟨Z1, Z2, Z3, Z4, Z5, Z6, z1, z2, z3, z4, z5, z6⟩) KT.out)
         have KS := Lib.hid (stS_ch.blk (w' := (stS vA g10 x ⟨Z1, Z2, Z3, Z4, Z5, Z6, z1, z2, z3, z4, z5, z6⟩)) KS.out (by have := z0.out; have := zA.out; have := zB.out; have := zC.out; have := zE.out; omega))
         have HY := Lib.hid (HY.out.keep (w' := (stS vA g10 x ⟨Z1, Z2, Z3, Z4, Z5, Z6, z1, z2, z3, z4, z5, z6⟩)) fun b hk => stS_ch.block b (by have := zF.out; have := KT.out.lt; have := z0.out; have := zA.out; have := zB.out; have := zC.out; have := zE.out; omega) (by have := z0.out; have := zA.out; have := zB.out; have := zC.out; have := zE.out; omega))
         have HZ := Lib.hid (HZ.out.box (w' := (stS vA g10 x ⟨Z1, Z2, Z3, Z4, Z5, Z6, z1, z2, z3, z4, z5, z6⟩)) KT.out stS_ch (by have := z0.out; have := zA.out; have := zB.out; have := zC.out; have := zE.out; omega))
         generalize (stS vA g10 x ⟨Z1, Z2, Z3, Z4, Z5, Z6, z1, z2, z3, z4, z5, z6⟩) = vB at *
         refine hK.out _ _ DB (fun hHeld => ?_)
         clear hK K hHeld
         refine wpAnyH_done (by kernel_rfl) ?_ _
         go_wp2_with fail
         go_meet
         exact ⟨_, _, _, _, _, _, rfl, rfl, KS, KD, Lib.hid (by have := z0.out; have := zA.out; have := zB.out; have := zC.out; have := zE.out; omega), Lib.hid (by have := HSZ.out; have := z0.out; have := zA.out; have := zB.out; have := zC.out; have := zE.out; omega), Lib.hid (by have := HSZ.out; have := z0.out; have := zA.out; have := zB.out; have := zC.out; have := zE.out; omega), Lib.hid (HY.out.more fun b hk => ⟨by have := z0.out; have := zA.out; have := zB.out; have := zC.out; have := zE.out; omega, by have := z0.out; have := zA.out; have := zB.out; have := zC.out; have := zE.out; omega, by have := z0.out; have := zA.out; have := zB.out; have := zC.out; have := zE.out; omega⟩), HZ, Lib.hid (by have := z0.out; have := zA.out; have := zB.out; have := zC.out; have := zE.out; omega), Lib.hid (by have := z0.out; have := zA.out; have := zB.out; have := zC.out; have := zE.out; omega), Lib.hid (by have := HLU.out; omega), Lib.hid (by have := HSZ.out; have := z0.out; have := zA.out; have := zB.out; have := zC.out; have := zE.out; omega), DB⟩
      case rest =>
        obtain ⟨g9, g10, py, pz, lo, hi, rfl, rfl, KY, KZ, Hne, Hw9, Hw10, HY, HZ, Hg9, Hg10, HZL, HWLO, HBC⟩ := hcut
        have HG9L : Hid (g9 < wc.heap.size) := Lib.hid KY.out.lt
        have HG10L : Hid (g10 < wc.heap.size) := Lib.hid KZ.out.lt
        have KXc := Lib.hid (KX.out.after HBC.out)
        have BWc : Hid (Below w.heap.size w wc) := Lib.hid (keep_trans BW.out HBC.out)
        go_upto_region 10 with fail
        obtain ⟨W2, hW2⟩ : ∃ W, W = wc.alloc (.cells #[.int .i64 0, .int .i64 0, .int .i64 0] 35) := ⟨_, rfl⟩
        have hbw := one_box wc (.cells #[.int .i64 0, .int .i64 0, .int .i64 0] 35)
        have HG11 : Hid (lo ≤ wc.heap.size) := Lib.hid (by have := HZ.out.hi_; have := HZL.out; omega)
        have HG11H : Hid (hi ≤ wc.heap.size) := Lib.hid HZ.out.hi_
        have K11 : Hid (Blk W2 wc.heap.size 35 [.int .i64 0, .int .i64 0, .int .i64 0]) := Lib.hid (by rw [hW2]; exact Blk.new _ _ _)
        have KY := Lib.hid (KY.out.after hbw)
        have KZ := Lib.hid (KZ.out.after hbw)
        have KXc := Lib.hid (KXc.out.after hbw)
        have HY := Lib.hid (HY.out.keep fun b hk => hbw.block b (by have := HZ.out.hi_; have := HZL.out; omega))
        have HZ := Lib.hid (HZ.out.after hbw)
        have BWc := Lib.hid (BWc.out.alloc BWc.out.size (.cells #[.int .i64 0, .int .i64 0, .int .i64 0] 35))
        have H9l : Hid (g9 < wc.heap.size) := HG9L
        have H10l : Hid (g10 < wc.heap.size) := HG10L
        rw [← hW2] at KY KZ KXc HZ HY BWc
        rw [← hW2]
        have HW2S : Hid (W2.heap.size = wc.heap.size + 1) := Lib.hid (by rw [hW2]; simp)
        clear hW2 hbw
        generalize wc.heap.size = g11 at *
        go_cut [38] from 37 to 38 (fun v38 wd => ∃ r : Nat, v38 = .int .i64 (r : Int) ∧ Hid (r < 3) ∧ W2 = wd)
        case first =>
          go_wp2_with (go_at_call 26; refine (pick_any kd 3 _ hk0 hk1 (by omega) (by omega)).mono ?_; rintro e w5 ⟨r, rfl, hr, rfl⟩; have HRR := hr; clear hr)
          go_meet
          exact ⟨r, rfl, Lib.hid (by have := HRR.out; omega), rfl⟩
        case rest =>
          obtain ⟨r, rfl, HR3, rfl⟩ := hcut
          refine ‹∀ (a : Act) (w_1 : World), Code.wp Tryz.prog _ _ a w_1 → _› _ _ ?_
          go_cut [12, 13, 14] from 39 to 147 (fun v12 v13 v14 wd => LsMid w g9 g10 g11 wd)
          case first =>
            have HYX : Hid (Sh W2 (· < W2.heap.size) x py) := Lib.hid (HY.out.more fun b hb => by have := HZ.out.hi_; have := HZL.out; omega)
            have HZX : Hid (Sh W2 (· < W2.heap.size) x pz) := Lib.hid (zs_sh HZ.out)
            have HOKX : Hid (wrongX x = okW) := Lib.hid (wrong_parts HOK.out).2.2.2
            have HXL : Hid (XLt x) := Lib.hid (lt_xlt HLT.out)
            obtain rfl | rfl | rfl : r = 0 ∨ r = 1 ∨ r = 2 := by have := HR3.out; omega
            · have sx : W2.cell? ⟨w.heap.size, 5, none⟩ = some (.slice p.a5 x.trips.length p.c5) := KXc.out.cell 5
              by_cases hn : 0 < x.trips.length
              · obtain ⟨n, hnn⟩ : ∃ n, n = x.trips.length := ⟨_, rfl⟩
                have HNN := Lib.hid hnn
                have hn60 : n ≤ 60 := by rw [hnn]; exact HLT.out.l5
                rw [← hnn] at sx hn
                have hcap : n ≤ p.c5 := by rw [hnn]; exact HCP.out.2.2.2.2.1
                clear hnn
                have hni : (0 : Int) < (n : Int) := by omega
                go_upto_region 19 with (go_at_call 26; refine (pick_any at_ n _ ha0 ha1 (by omega) (by omega)).mono ?_; rintro e w5 ⟨j, rfl, hj, rfl⟩; have HJ : Hid (j < n) := Lib.hid (by have := hj.out; omega); clear hj)
                have h1 : (j : Int) ≤ (n : Int) := by have := HJ.out; omega
                have h2 : ((j : Int) + 1) ≤ (n : Int) := by have := HJ.out; omega
                have KCX : Hid (∀ w', Ch (· = g9) W2 w' → w'.cell? ⟨w.heap.size, 5, none⟩ = some (.slice p.a5 n p.c5)) := Lib.hid (fun w' hc => by rw [HNN.out]; exact (hc.blk KXc.out (by have := Hw9.out; omega)).cell 5)
                clear sx
                refine wp_region_held_drew (S := fun w' => Hid (Ch (· = g9) W2 w')) (by kernel_rfl) ?_ (fun hHeld => ?_)
                · exact Lib.hid ((Ch.refl _ W2).drew)
                obtain ⟨j1, hj1⟩ : ∃ m, m = j + 1 := ⟨_, rfl⟩
                have HJ1 := Lib.hid hj1
                have e1 : (j : Int) + 1 = (j1 : Int) := by omega
                have hjc : j ≤ p.c5 := by have := HJ.out; omega
                have hjn : j1 ≤ n := by have := HJ.out; omega
                have hjn2 : (j1 : Int) ≤ (n : Int) := by omega
                have e2 : IntKind.i64.wrap (j1 : Int) = (j1 : Int) := by rw [IntKind.wrap_i64]; omega
                have e3 : (0 : Int) ≤ (j1 : Int) := by omega
                clear hj1
                obtain ⟨AR, hAR⟩ : ∃ A, (if p.c5 = j1 then p.a5 else Option.map (fun x => x.add (j1 * 5)) p.a5) = A := ⟨_, rfl⟩
                have HAR := Lib.hid hAR
                refine wpAnyH_take (i := 0) (v := ?vus1) rfl (by kernel_rfl) (by kernel_rfl) (by kernel_rfl) (fun _ _ _ h => h) (Or.inl ⟨by rfl, ?hyus1⟩) (by assumption) ?restus1
                case hyus1 => (intro w' hSw; have kc := KCX.out w' hSw.out; clear hSw; go_simp; try with_reducible rfl)
                simp only [Act.put, List.getElem_toArray, List.getElem_cons_zero, List.getElem_cons_succ, List.setIfInBounds_toArray, List.set_cons_zero, List.set_cons_succ]
                refine wpAnyH_take (i := 1) (v := ?vus2) rfl (by kernel_rfl) (by kernel_rfl) (by kernel_rfl) (fun _ _ _ h => h) (Or.inl ⟨by rfl, ?hyus2⟩) (by assumption) ?restus2
                case hyus2 => (intro w' hSw; have kc := KCX.out w' hSw.out; clear hSw; go_simp; try with_reducible rfl)
                simp only [Act.put, List.getElem_toArray, List.getElem_cons_zero, List.getElem_cons_succ, List.setIfInBounds_toArray, List.set_cons_zero, List.set_cons_succ]
                refine wpAnyH_take (i := 2) (v := ?vus3) rfl (by kernel_rfl) (by kernel_rfl) (by kernel_rfl) (fun _ _ _ h => h) (Or.inl ⟨by rfl, ?hyus3⟩) (by assumption) ?restus3
                case hyus3 => (intro w' hSw; have kc := KCX.out w' hSw.out; clear hSw; go_simp; try with_reducible rfl)
                simp only [Act.put, List.getElem_toArray, List.getElem_cons_zero, List.getElem_cons_succ, List.setIfInBounds_toArray, List.set_cons_zero, List.set_cons_succ]
                refine wpAnyH_take (i := 3) (v := ?vus4) rfl (by kernel_rfl) (by kernel_rfl) (by kernel_rfl) (fun _ _ _ h => h) (Or.inl ⟨by rfl, ?hyus4⟩) (by assumption) ?restus4
                case hyus4 => (intro w' hSw; have kc := KCX.out w' hSw.out; clear hSw; go_simp; try with_reducible rfl)
                simp only [Act.put, List.getElem_toArray, List.getElem_cons_zero, List.getElem_cons_succ, List.setIfInBounds_toArray, List.set_cons_zero, List.set_cons_succ]
                refine wpAnyH_take (i := 5) (v := ?vus5) rfl (by kernel_rfl) (by kernel_rfl) (by kernel_rfl) (fun _ _ _ h => h) (Or.inl ⟨by rfl, ?hyus5⟩) (by assumption) ?restus5
                case hyus5 => (intro w' hSw; have kc := KCX.out w' hSw.out; clear hSw; go_simp; try with_reducible rfl)
                simp only [Act.put, List.getElem_toArray, List.getElem_cons_zero, List.getElem_cons_succ, List.setIfInBounds_toArray, List.set_cons_zero, List.set_cons_succ]
                refine wpAnyH_take (i := 6) (v := ?vus6) rfl (by kernel_rfl) (by kernel_rfl) (by kernel_rfl) (fun _ _ _ h => h) (Or.inl ⟨by rfl, ?hyus6⟩) (by assumption) ?restus6
                case hyus6 => (intro w' hSw; have kc := KCX.out w' hSw.out; clear hSw; go_simp; try with_reducible rfl)
                simp only [Act.put, List.getElem_toArray, List.getElem_cons_zero, List.getElem_cons_succ, List.setIfInBounds_toArray, List.set_cons_zero, List.set_cons_succ]
                refine wpAnyH_take (i := 7) (v := ?vus7) rfl (by kernel_rfl) (by kernel_rfl) (by kernel_rfl) (fun _ _ _ h => h) (Or.inl ⟨by rfl, ?hyus7⟩) (by assumption) ?restus7
                case hyus7 => (intro w' hSw; have kc := KCX.out w' hSw.out; clear hSw; go_simp; try with_reducible rfl)
                simp only [Act.put, List.getElem_toArray, List.getElem_cons_zero, List.getElem_cons_succ, List.setIfInBounds_toArray, List.set_cons_zero, List.set_cons_succ]
                refine wpAnyH_take (i := 8) (v := ?vus8) rfl (by kernel_rfl) (by kernel_rfl) (by kernel_rfl) (fun _ _ _ h => h) (Or.inl ⟨by rfl, ?hyus8⟩) (by assumption) ?restus8
                case hyus8 => (intro w' hSw; have kc := KCX.out w' hSw.out; clear hSw; go_simp; try with_reducible rfl)
                simp only [Act.put, List.getElem_toArray, List.getElem_cons_zero, List.getElem_cons_succ, List.setIfInBounds_toArray, List.set_cons_zero, List.set_cons_succ]
                refine wpAnyH_take (i := 9) (v := ?vus9) rfl (by kernel_rfl) (by kernel_rfl) (by kernel_rfl) (fun _ _ _ h => h) (Or.inl ⟨by rfl, ?hyus9⟩) (by assumption) ?restus9
                case hyus9 => (intro w' hSw; have kc := KCX.out w' hSw.out; clear hSw; go_simp; try with_reducible rfl)
                simp only [Act.put, List.getElem_toArray, List.getElem_cons_zero, List.getElem_cons_succ, List.setIfInBounds_toArray, List.set_cons_zero, List.set_cons_succ]
                clear hAR
                have D0 := hHeld
                clear hHeld
                have b0 : Hid (Below W2.heap.size W2 (World.drew W2)) := Lib.hid (below_drew (Below.refl _ _))
                generalize World.drew W2 = v0 at *
                refine wpAnyH_ready (rs := [4]) (by kernel_rfl) (by simp) ?_
                refine AllReadyH.cons rfl (fun K hK => ?_) AllReadyH.nil
                go_simp
                have HRX := Lib.hid (Sh.r5 (HS.out.later (keep_trans BWc.out b0.out)))
                have hlen : (cs trC x.trips).length = n * 5 := by rw [cs_length trC 5 (fun _ => rfl), HNN.out]
                have HTK : Hid (cs trC (x.trips.take j) = (cs trC x.trips).take (j * 5)) := Lib.hid (cs_take9 trC 5 (fun _ => rfl) _ _)
                go_at_call 27
                refine (own_trip v0 p.a5 j p.c5 (x.trips.take j) (Lib.hid (by rw [List.length_take, ← HNN.out]; have := HJ.out; omega)) (by have := HJ.out; omega) (by rw [HTK.out]; exact rd_take HRX.out _)).mono ?_
                rintro e' v3 ⟨A3, d3, rfl, hd3, hO, hb⟩
                have HO := hO
                have b3 : Hid (Below W2.heap.size W2 v3) := Lib.hid (keep_trans b0.out hb)
                have z0 : Hid (W2.heap.size ≤ v0.heap.size) := Lib.hid b0.out.size
                have z3 : Hid (v0.heap.size ≤ v3.heap.size) := Lib.hid hb.size
                have D3 : Hid (Ch (· = g9) W2 v3) := Lib.hid (Ch.of_below b3.out)
                clear hb hO
                dsimp only
                refine hK.out _ _ D3 (fun hHeld => ?_)
                clear hK K hHeld
                refine wpAnyH_ready (rs := [10]) (by kernel_rfl) (by simp) ?_
                refine AllReadyH.cons rfl (fun K hK => ?_) AllReadyH.nil
                have HRX3 := Lib.hid (Sh.r5 (HS.out.later (keep_trans BWc.out b3.out)))
                have hlen2 : Hid ((cs trC (x.trips.drop j1)).length = (n - j1) * 5) := Lib.hid (by rw [cs_length trC 5 (fun _ => rfl), List.length_drop, HNN.out])
                have HRD : Hid (Rd v3 (· < v3.heap.size) AR (cs trC (x.trips.drop j1))) := Lib.hid (by rw [← HAR.out, cs_drop9 trC 5 (fun _ => rfl)]; exact HRX3.out.drop (fun hh => by rw [hlen] at hh; omega))
                refine step_append_g (by rfl) (.tmp 89) (.tmp 94) 41 (by rfl) v0.heap.size 67 _ 5 56 Tryz.underlying41 info_Trip rfl (by omega) (by omega) (.slice A3 j d3) j (cs trC (x.trips.take j)) (by rfl) HO _ _ (n - j1) (p.c5 - j1) (cs trC (x.trips.drop j1)) (by rfl) hlen2 HRD (cs_each tr_one _) (by omega) z3.out ?_
                intro v' v4 hown hgrow hob
                obtain ⟨A4, d4, rfl, hd4, -⟩ := own_form hown.out
                have b4 : Hid (Below W2.heap.size W2 v4) := Lib.hid (b3.out.trans ((Ch.of_grown (X := fun b => some b = (Value.slice A3 j d3).ownBlock) hgrow.out fun k e => e).below (by have := z0.out; have := z3.out; omega) fun k e => by have := (HO.out.lt k e.symm).1; have := z0.out; omega))
                have D4 : Hid (Ch (· = g9) W2 v4) := Lib.hid (Ch.of_below b4.out)
                refine hK.out _ _ D4 (fun hHeld => ?_)
                clear hK K hHeld
                refine wpAnyH_take (i := 11) (v := ?vus10) rfl (by kernel_rfl) (by kernel_rfl) (by kernel_rfl) (fun _ _ _ h => h) (Or.inl ⟨by rfl, ?hyus10⟩) (by assumption) ?restus10
                case hyus10 => (intro w' hSw; clear hSw; go_simp; try with_reducible rfl)
                simp only [Act.put, List.getElem_toArray, List.getElem_cons_zero, List.getElem_cons_succ, List.setIfInBounds_toArray, List.set_cons_zero, List.set_cons_succ]
                refine wpAnyH_ready (rs := [12]) (by kernel_rfl) (by simp) ?_
                refine AllReadyH.cons rfl (fun K hK => ?_) AllReadyH.nil
                have KY4 := Lib.hid (KY.out.after b4.out)
                have qq : v4.cell? ⟨g9, 5, none⟩ = some (.slice py.a5 x.trips.length py.c5) := KY4.out.cell 5
                have qf : v4.frozen? ⟨g9, 5, none⟩ = false := KY4.out.frozen 5
                go_simp
                clear qq qf
                obtain ⟨W5, hW5⟩ : ∃ W, W = v4.setCell ⟨g9, 5, none⟩ (.slice A4 (j + (n - j1)) d4) := ⟨_, rfl⟩
                have C5 : Hid (Ch (· = g9) v4 W5) := Lib.hid (by rw [hW5]; exact ch_set v4 g9 5 _)
                have KY5 : Hid (Blk W5 g9 44 [.int .i64 x.horizon, .slice py.a1 x.stops.length py.c1, .slice py.a2 x.paths.length py.c2, .slice py.a3 x.doors.length py.c3, .slice py.a4 x.routes.length py.c4, .slice A4 (j + (n - j1)) d4, .slice py.a6 x.hazards.length py.c6]) := Lib.hid (by rw [hW5]; exact KY4.out.set_ 5 _)
                have D5 : Hid (Ch (· = g9) W2 W5) := Lib.hid (D4.out.trans C5.out)
                rw [← hW5]
                clear hW5
                have B5s : Hid (W2.heap.size ≤ W5.heap.size) := Lib.hid D5.out.size
                refine hK.out _ _ D5 (fun hHeld => ?_)
                clear hK K hHeld
                refine wpAnyH_done (by kernel_rfl) ?_ _
                have HNEW : Hid (Rd W5 (fun b => W2.heap.size ≤ b ∧ b < W5.heap.size) A4 (cs trC (x.trips.take j ++ x.trips.drop j1))) := Lib.hid (by rw [cs_append9]; exact (Rd.keep (own_rd'' hown.out) fun b hb => C5.out.block b hb.2 (by have := KY.out.lt; have := z0.out; omega)).more fun b hb => ⟨by have := z0.out; omega, Nat.lt_of_lt_of_le hb.2 C5.out.size⟩)
                have HYL : Hid (j + (n - j1) = (x.trips.take j ++ x.trips.drop j1).length) := Lib.hid (by rw [List.length_append, List.length_take, List.length_drop, ← HNN.out]; have := HJ.out; have := HJ1.out; omega)
                have KX5 := Lib.hid (D5.out.blk KXc.out (by have := Hw9.out; omega))
                have KZ5 := Lib.hid (D5.out.blk KZ.out (by have := Hne.out; omega))
                have K115 := Lib.hid (D5.out.blk K11.out (by have := H9l.out; omega))
                have HY5 := Lib.hid (HY.out.keep fun b hk => D5.out.block b (by have := HZ.out.hi_; have := HZL.out; omega) (by omega))
                have HZ5 := Lib.hid (HZ.out.box KY.out D5.out Hg9.out)
                have BW5 : Hid (Below w.heap.size w W5) := Lib.hid (BWc.out.trans (D5.out.below BWc.out.size fun k hk => by have := Hw9.out; omega))
                clear KCX hlen HTK HRX hcap e1 e2 e3 hjn2 h1 h2 HRX3 hlen2 HRD hgrow hob hown HO hd3 hd4 D0 D3 D4 b0 b3 b4 z0 z3 KY4 C5 hjc hjn
                obtain ⟨t, ht⟩ : ∃ t, x.trips[j]? = some t := ⟨_, List.getElem?_eq_getElem (by rw [← HNN.out]; exact HJ.out)⟩
                have HT := Lib.hid ht
                obtain ⟨ad, e2, hSa, ga0, gaj⟩ := rd_at 5 (fun _ => rfl) (by omega) (Sh.r5 HS.out) ht
                have hab : (ad.add (j * 5)).block < w.heap.size := by rw [block_of_add]; exact hSa
                obtain ⟨t0, t1, t2, t3, t4⟩ := t
                have ta0 : w.cell? (ad.add (j * 5)) = some (.string ⟨t0.toArray⟩) := ga0
                have ta1 : w.cell? ⟨(ad.add (j * 5)).block, (ad.add (j * 5)).off + 1, none⟩ = some (.string ⟨t1.toArray⟩) := (gaj 1 (by omega)).resolve_right (by omega)
                have ta2 : w.cell? ⟨(ad.add (j * 5)).block, (ad.add (j * 5)).off + 2, none⟩ = some (.int .i64 t2) := (gaj 2 (by omega)).resolve_right (by omega)
                have ta3 : w.cell? ⟨(ad.add (j * 5)).block, (ad.add (j * 5)).off + 3, none⟩ = some (.int .i64 t3) := (gaj 3 (by omega)).resolve_right (by omega)
                have ta4 : w.cell? ⟨(ad.add (j * 5)).block, (ad.add (j * 5)).off + 4, none⟩ = some (.int .i64 t4) := (gaj 4 (by omega)).resolve_right (by omega)
                have OZ := Lib.hid (HZ5.out.r5)
                have HOL : Hid (∀ k, some k = (Value.slice pz.a5 x.trips.length pz.c5).ownBlock → lo < k) := Lib.hid fun k hk => by have := (OZ.out.lt k hk.symm).1; omega
                have BWX : Hid (∀ k, k < w.heap.size → W5.heap[k]? = w.heap[k]?) := Lib.hid fun k hk => BW5.out.block k hk
                have KC2 : Hid (∀ w', Ch (fun k => k = g10 ∨ some k = (Value.slice pz.a5 x.trips.length pz.c5).ownBlock) W5 w' → w'.cell? ⟨w.heap.size, 5, none⟩ = some (.slice (some ad) n p.c5) ∧ w'.cell? (ad.add (j * 5)) = some (.string ⟨t0.toArray⟩) ∧ w'.cell? ⟨(ad.add (j * 5)).block, (ad.add (j * 5)).off + 1, none⟩ = some (.string ⟨t1.toArray⟩) ∧ w'.cell? ⟨(ad.add (j * 5)).block, (ad.add (j * 5)).off + 2, none⟩ = some (.int .i64 t2) ∧ w'.cell? ⟨(ad.add (j * 5)).block, (ad.add (j * 5)).off + 3, none⟩ = some (.int .i64 t3) ∧ w'.cell? ⟨(ad.add (j * 5)).block, (ad.add (j * 5)).off + 4, none⟩ = some (.int .i64 t4)) := Lib.hid (fun w' hc => by
                  have hx1 := (hc.blk KX5.out (fun h => h.elim (fun h => by have := Hw10.out; omega) (fun h => by have := HOL.out _ h; have := HWLO.out; omega))).cell 5
                  rw [← e2, HNN.out]
                  have hk : ∀ a : Addr, a.block < w.heap.size → w'.cell? a = w.cell? a := fun a ha => (World.cell?_of_block (hc.block _ (by have := BW5.out.size; omega) (fun h => h.elim (fun h => by have := Hw10.out; omega) (fun h => by have := HOL.out _ h; have := HWLO.out; omega)))).trans (World.cell?_of_block (BWX.out _ ha))
                  exact ⟨hx1, (hk (ad.add (j * 5)) hab).trans ta0, (hk ⟨(ad.add (j * 5)).block, (ad.add (j * 5)).off + 1, none⟩ hab).trans ta1, (hk ⟨(ad.add (j * 5)).block, (ad.add (j * 5)).off + 2, none⟩ hab).trans ta2, (hk ⟨(ad.add (j * 5)).block, (ad.add (j * 5)).off + 3, none⟩ hab).trans ta3, (hk ⟨(ad.add (j * 5)).block, (ad.add (j * 5)).off + 4, none⟩ hab).trans ta4⟩)
                clear e2 hSa ga0 gaj ta0 ta1 ta2 ta3 ta4
                have hjn3 : (j : Int) < (n : Int) := by have := HJ.out; omega
                have hj0 : ¬ ((j : Int) < 0) := by omega
                go_upto_region 20 with fail
                refine wp_region_held_drew (S := fun w' => Hid (Ch (fun k => k = g10 ∨ some k = (Value.slice pz.a5 x.trips.length pz.c5).ownBlock) W5 w')) (by kernel_rfl) ?_ (fun hHeld => ?_)
                · exact Lib.hid ((Ch.refl _ W5).drew)
                refine wpAnyH_take (i := 0) (v := ?vus11) rfl (by kernel_rfl) (by kernel_rfl) (by kernel_rfl) (fun _ _ _ h => h) (Or.inl ⟨by rfl, ?hyus11⟩) (by assumption) ?restus11
                case hyus11 => (intro w' hSw; obtain ⟨kk0, kk1, kk2, kk3, kk4, kk5⟩ := KC2.out w' hSw.out; clear hSw; go_simp; try with_reducible rfl)
                simp only [Act.put, List.getElem_toArray, List.getElem_cons_zero, List.getElem_cons_succ, List.setIfInBounds_toArray, List.set_cons_zero, List.set_cons_succ]
                refine wpAnyH_take (i := 2) (v := ?vus12) rfl (by kernel_rfl) (by kernel_rfl) (by kernel_rfl) (fun _ _ _ h => h) (Or.inl ⟨by rfl, ?hyus12⟩) (by assumption) ?restus12
                case hyus12 => (intro w' hSw; obtain ⟨kk0, kk1, kk2, kk3, kk4, kk5⟩ := KC2.out w' hSw.out; clear hSw; go_simp; try with_reducible rfl)
                simp only [Act.put, List.getElem_toArray, List.getElem_cons_zero, List.getElem_cons_succ, List.setIfInBounds_toArray, List.set_cons_zero, List.set_cons_succ]
                refine wpAnyH_take (i := 3) (v := ?vus13) rfl (by kernel_rfl) (by kernel_rfl) (by kernel_rfl) (fun _ _ _ h => h) (Or.inl ⟨by rfl, ?hyus13⟩) (by assumption) ?restus13
                case hyus13 => (intro w' hSw; obtain ⟨kk0, kk1, kk2, kk3, kk4, kk5⟩ := KC2.out w' hSw.out; clear hSw; go_simp; try with_reducible rfl)
                simp only [Act.put, List.getElem_toArray, List.getElem_cons_zero, List.getElem_cons_succ, List.setIfInBounds_toArray, List.set_cons_zero, List.set_cons_succ]
                refine wpAnyH_take (i := 4) (v := ?vus14) rfl (by kernel_rfl) (by kernel_rfl) (by kernel_rfl) (fun _ _ _ h => h) (Or.inl ⟨by rfl, ?hyus14⟩) (by assumption) ?restus14
                case hyus14 => (intro w' hSw; obtain ⟨kk0, kk1, kk2, kk3, kk4, kk5⟩ := KC2.out w' hSw.out; clear hSw; go_simp; try with_reducible rfl)
                simp only [Act.put, List.getElem_toArray, List.getElem_cons_zero, List.getElem_cons_succ, List.setIfInBounds_toArray, List.set_cons_zero, List.set_cons_succ]
                refine wpAnyH_take (i := 5) (v := ?vus15) rfl (by kernel_rfl) (by kernel_rfl) (by kernel_rfl) (fun _ _ _ h => h) (Or.inl ⟨by rfl, ?hyus15⟩) (by assumption) ?restus15
                case hyus15 => (intro w' hSw; obtain ⟨kk0, kk1, kk2, kk3, kk4, kk5⟩ := KC2.out w' hSw.out; clear hSw; go_simp; try with_reducible rfl)
                simp only [Act.put, List.getElem_toArray, List.getElem_cons_zero, List.getElem_cons_succ, List.setIfInBounds_toArray, List.set_cons_zero, List.set_cons_succ]
                refine wpAnyH_take (i := 6) (v := ?vus16) rfl (by kernel_rfl) (by kernel_rfl) (by kernel_rfl) (fun _ _ _ h => h) (Or.inl ⟨by rfl, ?hyus16⟩) (by assumption) ?restus16
                case hyus16 => (intro w' hSw; obtain ⟨kk0, kk1, kk2, kk3, kk4, kk5⟩ := KC2.out w' hSw.out; clear hSw; go_simp; try with_reducible rfl)
                simp only [Act.put, List.getElem_toArray, List.getElem_cons_zero, List.getElem_cons_succ, List.setIfInBounds_toArray, List.set_cons_zero, List.set_cons_succ]
                have D0 := hHeld
                clear hHeld
                have BB0 : Hid (Below W5.heap.size W5 (World.drew W5)) := Lib.hid (below_drew (Below.refl _ _))
                generalize World.drew W5 = vn at *
                have DD := D0
                have BB := BB0
                clear D0 BB0
                rename World => vv
                refine wpAnyH_ready (rs := [1, 7]) (by kernel_rfl) (by simp) ?_
                refine AllReadyH.cons rfl (fun K hK => ?_) (AllReadyH.cons rfl (fun K hK => ?_) AllReadyH.nil)
                focus
                 have q4 : vv.cell? ⟨g10, 5, none⟩ = some (.slice pz.a5 x.trips.length pz.c5) := (KZ5.out.after BB.out).cell 5
                 go_simp
                 clear q4
                 refine hK.out _ _ DD (fun hHeld => ?_)
                 clear hK K hHeld
                 refine wpAnyH_ready (rs := [7]) (by kernel_rfl) (by simp) ?_
                 refine AllReadyH.cons rfl (fun K hK => ?_) AllReadyH.nil
                 focus
                  go_simp
                  have DN := Lib.hid (DD.out.alloc (.cells #[.string ⟨t0.toArray⟩, .string ⟨t1.toArray⟩, .int .i64 t2, .int .i64 t3, .int .i64 t4] 67))
                  have BN := Lib.hid (BB.out.alloc BB.out.size (.cells #[.string ⟨t0.toArray⟩, .string ⟨t1.toArray⟩, .int .i64 t2, .int .i64 t3, .int .i64 t4] 67))
                  have HLI : Hid (Rd (vv.alloc (.cells #[.string ⟨t0.toArray⟩, .string ⟨t1.toArray⟩, .int .i64 t2, .int .i64 t3, .int .i64 t4] 67)) (· < (vv.alloc (.cells #[.string ⟨t0.toArray⟩, .string ⟨t1.toArray⟩, .int .i64 t2, .int .i64 t3, .int .i64 t4] 67)).heap.size) (some ⟨vv.heap.size, 0, none⟩) [.string ⟨t0.toArray⟩, .string ⟨t1.toArray⟩, .int .i64 t2, .int .i64 t3, .int .i64 t4]) := Lib.hid (Sh.lit_rd _ _ _ _ rfl)
                  generalize vv.alloc (.cells #[.string ⟨t0.toArray⟩, .string ⟨t1.toArray⟩, .int .i64 t2, .int .i64 t3, .int .i64 t4] 67) = vn at *
                  refine hK.out _ _ DN (fun hHeld => ?_)
                  clear hK K hHeld
                  rename World => vv
                  have DD := DN
                  have BB := BN
                  clear DN BN
                 rotate_left 1
                rotate_left 1
                focus
                 go_simp
                 have DN := Lib.hid (DD.out.alloc (.cells #[.string ⟨t0.toArray⟩, .string ⟨t1.toArray⟩, .int .i64 t2, .int .i64 t3, .int .i64 t4] 67))
                 have BN := Lib.hid (BB.out.alloc BB.out.size (.cells #[.string ⟨t0.toArray⟩, .string ⟨t1.toArray⟩, .int .i64 t2, .int .i64 t3, .int .i64 t4] 67))
                 have HLI : Hid (Rd (vv.alloc (.cells #[.string ⟨t0.toArray⟩, .string ⟨t1.toArray⟩, .int .i64 t2, .int .i64 t3, .int .i64 t4] 67)) (· < (vv.alloc (.cells #[.string ⟨t0.toArray⟩, .string ⟨t1.toArray⟩, .int .i64 t2, .int .i64 t3, .int .i64 t4] 67)).heap.size) (some ⟨vv.heap.size, 0, none⟩) [.string ⟨t0.toArray⟩, .string ⟨t1.toArray⟩, .int .i64 t2, .int .i64 t3, .int .i64 t4]) := Lib.hid (Sh.lit_rd _ _ _ _ rfl)
                 generalize vv.alloc (.cells #[.string ⟨t0.toArray⟩, .string ⟨t1.toArray⟩, .int .i64 t2, .int .i64 t3, .int .i64 t4] 67) = vn at *
                 refine hK.out _ _ DN (fun hHeld => ?_)
                 clear hK K hHeld
                 rename World => vv
                 have DD := DN
                 have BB := BN
                 clear DN BN
                 refine wpAnyH_ready (rs := [1]) (by kernel_rfl) (by simp) ?_
                 refine AllReadyH.cons rfl (fun K hK => ?_) AllReadyH.nil
                 focus
                  have q4 : vv.cell? ⟨g10, 5, none⟩ = some (.slice pz.a5 x.trips.length pz.c5) := (KZ5.out.after BB.out).cell 5
                  go_simp
                  clear q4
                  refine hK.out _ _ DD (fun hHeld => ?_)
                  clear hK K hHeld
                 rotate_left 1
                rotate_left 1
                all_goals
                 refine wpAnyH_ready (rs := [8]) (by kernel_rfl) (by simp) ?_
                 refine AllReadyH.cons rfl (fun K hK => ?_) AllReadyH.nil
                 refine step_append_g (by rfl) (.tmp 98) (.tmp 104) 41 (by rfl) lo 67 _ 5 56 Tryz.underlying41 info_Trip rfl (by omega) (by omega) (.slice pz.a5 x.trips.length pz.c5) x.trips.length (cs trC x.trips) (by rfl) (Lib.hid (own_base (own_after OZ.out BB.out) (Nat.le_succ _))) _ _ 1 1 _ (by rfl) (Lib.hid rfl) HLI (by simp [Value.oneCell']) (by have := HLT.out.l5; omega) (by have := BB.out.size; have := HZ5.out.hi_; have := HZL.out; omega) ?_
                 intro v' v6 hown hgrow hob
                 obtain ⟨A6, d6, rfl, hd6, -⟩ := own_form hown.out
                 have D6 : Hid (Ch (fun k => k = g10 ∨ some k = (Value.slice pz.a5 x.trips.length pz.c5).ownBlock) W5 v6) := Lib.hid (DD.out.trans' (Ch.of_grown (X := fun k => k = g10 ∨ some k = (Value.slice pz.a5 x.trips.length pz.c5).ownBlock) hgrow.out fun k e => .inr e) (fun _ _ h => h))
                 refine hK.out _ _ D6 (fun hHeld => ?_)
                 clear hK K hHeld
                 refine wpAnyH_take (i := 9) (v := .pointer (some ⟨g10, 5, none⟩)) rfl (by kernel_rfl) (by kernel_rfl) (by kernel_rfl) (fun _ _ _ h => h) (Or.inl ⟨by rfl, fun w' hSw => by (clear hSw; go_simp; try with_reducible rfl)⟩) (by assumption) ?_
                 simp only [Act.put, List.getElem_toArray, List.getElem_cons_zero, List.getElem_cons_succ, List.setIfInBounds_toArray, List.set_cons_zero, List.set_cons_succ]
                 refine wpAnyH_ready (rs := [10]) (by kernel_rfl) (by simp) ?_
                 refine AllReadyH.cons rfl (fun K hK => ?_) AllReadyH.nil
                 have KZ6 : Hid (Blk v6 g10 44 [.int .i64 x.horizon, .slice pz.a1 x.stops.length pz.c1, .slice pz.a2 x.paths.length pz.c2, .slice pz.a3 x.doors.length pz.c3, .slice pz.a4 x.routes.length pz.c4, .slice pz.a5 x.trips.length pz.c5, .slice pz.a6 x.hazards.length pz.c6]) := Lib.hid ((KZ5.out.after BB.out).grown hgrow.out (fun e => own_ne_blk OZ.out KZ5.out (by decide) g10 e.symm rfl))
                 have qq : v6.cell? ⟨g10, 5, none⟩ = some (.slice pz.a5 x.trips.length pz.c5) := KZ6.out.cell 5
                 have qf : v6.frozen? ⟨g10, 5, none⟩ = false := KZ6.out.frozen 5
                 go_simp
                 clear qq qf
                 obtain ⟨W7, hW7⟩ : ∃ W, W = v6.setCell ⟨g10, 5, none⟩ (.slice A6 (x.trips.length + 1) d6) := ⟨_, rfl⟩
                 have C7 : Hid (Ch (· = g10) v6 W7) := Lib.hid (by rw [hW7]; exact ch_set v6 g10 5 _)
                 have KZ7 : Hid (Blk W7 g10 44 [.int .i64 x.horizon, .slice pz.a1 x.stops.length pz.c1, .slice pz.a2 x.paths.length pz.c2, .slice pz.a3 x.doors.length pz.c3, .slice pz.a4 x.routes.length pz.c4, .slice A6 (x.trips.length + 1) d6, .slice pz.a6 x.hazards.length pz.c6]) := Lib.hid (by rw [hW7]; exact KZ6.out.set_ 5 _)
                 rw [← hW7]
                 clear hW7
                 have D7 : Hid (Ch (fun k => k = g10 ∨ some k = (Value.slice pz.a5 x.trips.length pz.c5).ownBlock) W5 W7) := Lib.hid (D6.out.trans' (C7.out.mono (Y := fun k => k = g10 ∨ some k = (Value.slice pz.a5 x.trips.length pz.c5).ownBlock) fun _ _ h => .inl h) (fun _ _ h => h))
                 have OW7 : Hid (W7.ownsRow lo 67 5 (.slice A6 (x.trips.length + 1) d6) (x.trips.length + 1) (cs trC x.trips ++ [.string ⟨t0.toArray⟩, .string ⟨t1.toArray⟩, .int .i64 t2, .int .i64 t3, .int .i64 t4])) := Lib.hid (C7.out.own hown.out (own_ne_blk hown.out KZ6.out (by decide)))
                 refine hK.out _ _ D7 (fun hHeld => ?_)
                 clear hK K hHeld
                 refine wpAnyH_done (by kernel_rfl) ?_ _
                 have HNX : Hid (∀ k, k < w.heap.size + 1 → ¬ (k = g10 ∨ some k = (Value.slice pz.a5 x.trips.length pz.c5).ownBlock)) := Lib.hid (fun k hk h => h.elim (fun h => by have := Hw10.out; omega) (fun h => by have := HOL.out _ h; have := HWLO.out; omega))
                 have KX7 := Lib.hid (D7.out.blk KX5.out (HNX.out _ (Nat.lt_succ_self _)))
                 have sx : W7.cell? ⟨w.heap.size, 5, none⟩ = some (.slice p.a5 n p.c5) := by rw [HNN.out]; exact KX7.out.cell 5
                 have K117 := Lib.hid (D7.out.blk K115.out (fun h => h.elim (fun h => by have := H10l.out; omega) (fun h => own_ne_blk OZ.out K115.out (by decide) _ h.symm rfl)))
                 have q0 : W7.cell? ⟨g11, 0, none⟩ = some (.int .i64 0) := K117.out.cell 0
                 have q1 : W7.cell? ⟨g11, 1, none⟩ = some (.int .i64 0) := K117.out.cell 1
                 have q2 : W7.cell? ⟨g11, 2, none⟩ = some (.int .i64 0) := K117.out.cell 2
                 have qf : ∀ q, W7.frozen? ⟨g11, q, none⟩ = false := fun q => K117.out.frozen q
                 have KY7 := Lib.hid (D7.out.blk KY5.out (fun h => h.elim (fun h => Hne.out h) (fun h => own_ne_blk OZ.out KY5.out (by decide) _ h.symm rfl)))
                 go_wp2_with fail
                 go_meet
                 show LsMid w g9 g10 g11 (sto3 W7 g11 (.int .i64 6) (.int .i64 5) (.int .i64 (n : Int)))
                 have C8 : Ch (· = g11) W7 (sto3 W7 g11 (.int .i64 6) (.int .i64 5) (.int .i64 (n : Int))) := sto3_ch _ _ _ _ _
                 have K118 : Blk (sto3 W7 g11 (.int .i64 6) (.int .i64 5) (.int .i64 (n : Int))) g11 35 [.int .i64 6, .int .i64 5, .int .i64 (n : Int)] := sto3_blk K117.out _ _ _
                 generalize (sto3 W7 g11 (.int .i64 6) (.int .i64 5) (.int .i64 (n : Int))) = W8 at *
                 have KY8 := C8.blk KY7.out (by have := H9l.out; omega)
                 rw [HYL.out] at KY8
                 have KZ8 := C8.blk KZ7.out (by have := H10l.out; omega)
                 rw [show x.trips.length + 1 = (x.trips ++ [(⟨t0, t1, t2, t3, t4⟩ : TripM)]).length by simp] at KZ8
                 have hz8 : W7.heap.size ≤ W8.heap.size := C8.size
                 have hz7 : W5.heap.size ≤ W7.heap.size := D7.out.size
                 have hz5 := B5s.out
                 have hz2 := HW2S.out
                 have hhi := HZ.out.hi_
                 have hzl := HZL.out
                 have hg11 := HG11.out
                 have hg11h := HG11H.out
                 have keepY : ∀ b, (b ≠ g9 ∧ b ≠ g10 ∧ b < lo) → W8.heap[b]? = W5.heap[b]? := fun b hb => (C8.block b (by omega) (by omega)).trans (D7.out.block b (by omega) (fun h => h.elim (fun h => hb.2.1 h) (fun h => by have := HOL.out _ h; omega)))
                 have keepN : ∀ b, (W2.heap.size ≤ b ∧ b < W5.heap.size) → W8.heap[b]? = W5.heap[b]? := fun b hb => (C8.block b (by omega) (by omega)).trans (D7.out.block b hb.2 (fun h => h.elim (fun h => by have := H10l.out; omega) (fun h => by have := ((Zs.r5 HZ.out).lt b h.symm).2; omega)))
                 have HYF : Sh W8 (· < W8.heap.size) { x with trips := x.trips.take j ++ x.trips.drop j1 } { py with a5 := A4, c5 := d4 } := by
                   obtain ⟨c4, h4, h4'⟩ := HY5.out.r4
                   exact ⟨(Rd.keep (Sh.r1 HY5.out) keepY).more fun b hb => by omega, (Rd.keep (Sh.r2 HY5.out) keepY).more fun b hb => by omega, (Rd.keep (Sh.r3 HY5.out) keepY).more fun b hb => by omega, ⟨c4, (Rd.keep h4 keepY).more fun b hb => by omega, (h4'.keep keepY).more fun b hb => by omega⟩, (Rd.keep HNEW.out keepN).more fun b hb => by omega, (Rd.keep (Sh.r6 HY5.out) keepY).more fun b hb => by omega⟩
                 have HZF : Sh W8 (· < W8.heap.size) { x with trips := x.trips ++ [⟨t0, t1, t2, t3, t4⟩] } { pz with a5 := A6, c5 := d6 } := by
                   obtain ⟨c4, h4, h4'⟩ := HZ5.out.r4
                   have k4 := h4'.keep fun b hb => (C8.block b (by omega) (by omega)).trans (D7.out.block b (by omega) (fun h => h.elim (fun h => by have := Hg10.out; omega) (fun h => hb.2.2 (.slice pz.a5 x.trips.length pz.c5) (by simp) h.symm)))
                   refine ⟨(own_rd'' (C8.own (D7.out.own (Zs.r1 HZ5.out) fun b hbk hx => hx.elim (fun h => own_ne_blk (Zs.r1 HZ5.out) KZ5.out (by decide) b hbk h) (fun h => own_ne (Zs.r1 HZ5.out) OZ.out (by decide) b hbk h.symm)) (own_ne_blk (D7.out.own (Zs.r1 HZ5.out) fun b hbk hx => hx.elim (fun h => own_ne_blk (Zs.r1 HZ5.out) KZ5.out (by decide) b hbk h) (fun h => own_ne (Zs.r1 HZ5.out) OZ.out (by decide) b hbk h.symm)) K117.out (by decide)))).more fun b hb => hb.2, (own_rd'' (C8.own (D7.out.own (Zs.r2 HZ5.out) fun b hbk hx => hx.elim (fun h => own_ne_blk (Zs.r2 HZ5.out) KZ5.out (by decide) b hbk h) (fun h => own_ne (Zs.r2 HZ5.out) OZ.out (by decide) b hbk h.symm)) (own_ne_blk (D7.out.own (Zs.r2 HZ5.out) fun b hbk hx => hx.elim (fun h => own_ne_blk (Zs.r2 HZ5.out) KZ5.out (by decide) b hbk h) (fun h => own_ne (Zs.r2 HZ5.out) OZ.out (by decide) b hbk h.symm)) K117.out (by decide)))).more fun b hb => hb.2, ?_, ⟨c4, (own_rd'' (C8.own (D7.out.own h4 fun b hbk hx => hx.elim (fun h => own_ne_blk h4 KZ5.out (by decide) b hbk h) (fun h => own_ne h4 OZ.out (by decide) b hbk h.symm)) (own_ne_blk (D7.out.own h4 fun b hbk hx => hx.elim (fun h => own_ne_blk h4 KZ5.out (by decide) b hbk h) (fun h => own_ne h4 OZ.out (by decide) b hbk h.symm)) K117.out (by decide)))).more fun b hb => hb.2, k4.more fun b hb => by omega⟩, ?_, ?_⟩
                   · exact (own_rd'' (C8.own (D7.out.own (Zs.r3 HZ5.out) fun b hbk hx => hx.elim (fun h => own_ne_blk (Zs.r3 HZ5.out) KZ5.out (by decide) b hbk h) (fun h => own_ne (Zs.r3 HZ5.out) OZ.out (by decide) b hbk h.symm)) (own_ne_blk (D7.out.own (Zs.r3 HZ5.out) fun b hbk hx => hx.elim (fun h => own_ne_blk (Zs.r3 HZ5.out) KZ5.out (by decide) b hbk h) (fun h => own_ne (Zs.r3 HZ5.out) OZ.out (by decide) b hbk h.symm)) K117.out (by decide)))).more fun b hb => hb.2
                   · have := (own_rd'' (C8.own OW7.out (own_ne_blk OW7.out K117.out (by decide)))).more fun b hb => hb.2
                     rw [show cs trC x.trips ++ [.string ⟨t0.toArray⟩, .string ⟨t1.toArray⟩, .int .i64 t2, .int .i64 t3, .int .i64 t4] = cs trC (x.trips ++ [⟨t0, t1, t2, t3, t4⟩]) by rw [cs_append9]; simp [cs, trC]] at this
                     exact this
                   · exact (own_rd'' (C8.own (D7.out.own (Zs.r6 HZ5.out) fun b hbk hx => hx.elim (fun h => own_ne_blk (Zs.r6 HZ5.out) KZ5.out (by decide) b hbk h) (fun h => own_ne (Zs.r6 HZ5.out) OZ.out (by decide) b hbk h.symm)) (own_ne_blk (D7.out.own (Zs.r6 HZ5.out) fun b hbk hx => hx.elim (fun h => own_ne_blk (Zs.r6 HZ5.out) KZ5.out (by decide) b hbk h) (fun h => own_ne (Zs.r6 HZ5.out) OZ.out (by decide) b hbk h.symm)) K117.out (by decide)))).more fun b hb => hb.2
                 have B8 : Below w.heap.size w W8 := (BW5.out.trans (D7.out.below BW5.out.size fun k hk => by by_cases hlt : k < w.heap.size + 1; exact absurd hk (HNX.out k hlt); omega)).trans (C8.below (by have := BW5.out.size; omega) fun k hk => by have := H9l.out; have := Hw9.out; omega)
                 have hsub : (x.trips.take j ++ x.trips.drop j1).Sublist x.trips := by rw [HJ1.out]; exact cut_sub _ _
                 have hwy : wrongX { x with trips := x.trips.take j ++ x.trips.drop j1 } = okW := less_ok HOK.out rfl rfl rfl (List.Sublist.refl _) rfl hsub (List.Sublist.refl _)
                 have hwz : wrongX { x with trips := x.trips ++ [⟨t0, t1, t2, t3, t4⟩] } = ⟨6, 5, (n : Int)⟩ := by rw [HNN.out]; exact less_trip HOK.out (by rw [← HNN.out]; exact hn60) HT.out
                 have hlx := HLT.out
                 exact ⟨{ x with trips := x.trips.take j ++ x.trips.drop j1 }, { x with trips := x.trips ++ [⟨t0, t1, t2, t3, t4⟩] }, { py with a5 := A4, c5 := d4 }, { pz with a5 := A6, c5 := d6 }, ⟨6, 5, (n : Int)⟩, Lib.hid KY8, Lib.hid KZ8, Lib.hid K118, Lib.hid HYF, Lib.hid HZF, Lib.hid hwy, Lib.hid hwz, Lib.hid ⟨(by have := hlx.l1; show x.stops.length ≤ 400; omega), (by have := hlx.l2; show x.paths.length ≤ 400; omega), (by have := hlx.l3; show x.doors.length ≤ 400; omega), (by have := hlx.l4; show x.routes.length ≤ 400; omega), Nat.le_trans hsub.length_le (by have := hlx.l5; omega), (by have := hlx.l6; show x.hazards.length ≤ 400; omega), fun r hr => by have := hlx.lr r hr; omega⟩, Lib.hid ⟨(by have := hlx.l1; show x.stops.length ≤ 400; omega), (by have := hlx.l2; show x.paths.length ≤ 400; omega), (by have := hlx.l3; show x.doors.length ≤ 400; omega), (by have := hlx.l4; show x.routes.length ≤ 400; omega), (by have := hlx.l5; show (x.trips ++ [_]).length ≤ 400; rw [List.length_append, List.length_singleton]; omega), (by have := hlx.l6; show x.hazards.length ≤ 400; omega), fun r hr => by have := hlx.lr r hr; omega⟩, Lib.hid B8⟩
              · have hni : ¬ ((0 : Int) < (x.trips.length : Int)) := by omega
                go_wp2_with fail
                go_meet
                exact ⟨x, x, py, pz, okW, KY, KZ, K11, HYX, HZX, HOKX, HOKX, HXL, HXL, BWc⟩
            · have sx : W2.cell? ⟨w.heap.size, 6, none⟩ = some (.slice p.a6 x.hazards.length p.c6) := KXc.out.cell 6
              by_cases hn : 0 < x.hazards.length
              · obtain ⟨n, hnn⟩ : ∃ n, n = x.hazards.length := ⟨_, rfl⟩
                have HNN := Lib.hid hnn
                have hn60 : n ≤ 60 := by rw [hnn]; exact HLT.out.l6
                rw [← hnn] at sx hn
                have hcap : n ≤ p.c6 := by rw [hnn]; exact HCP.out.2.2.2.2.2
                clear hnn
                have hni : (0 : Int) < (n : Int) := by omega
                go_upto_region 25 with (go_at_call 26; refine (pick_any at_ n _ ha0 ha1 (by omega) (by omega)).mono ?_; rintro e w5 ⟨j, rfl, hj, rfl⟩; have HJ : Hid (j < n) := Lib.hid (by have := hj.out; omega); clear hj)
                have h1 : (j : Int) ≤ (n : Int) := by have := HJ.out; omega
                have h2 : ((j : Int) + 1) ≤ (n : Int) := by have := HJ.out; omega
                have KCX : Hid (∀ w', Ch (· = g9) W2 w' → w'.cell? ⟨w.heap.size, 6, none⟩ = some (.slice p.a6 n p.c6)) := Lib.hid (fun w' hc => by rw [HNN.out]; exact (hc.blk KXc.out (by have := Hw9.out; omega)).cell 6)
                clear sx
                refine wp_region_held_drew (S := fun w' => Hid (Ch (· = g9) W2 w')) (by kernel_rfl) ?_ (fun hHeld => ?_)
                · exact Lib.hid ((Ch.refl _ W2).drew)
                obtain ⟨j1, hj1⟩ : ∃ m, m = j + 1 := ⟨_, rfl⟩
                have HJ1 := Lib.hid hj1
                have e1 : (j : Int) + 1 = (j1 : Int) := by omega
                have hjc : j ≤ p.c6 := by have := HJ.out; omega
                have hjn : j1 ≤ n := by have := HJ.out; omega
                have hjn2 : (j1 : Int) ≤ (n : Int) := by omega
                have e2 : IntKind.i64.wrap (j1 : Int) = (j1 : Int) := by rw [IntKind.wrap_i64]; omega
                have e3 : (0 : Int) ≤ (j1 : Int) := by omega
                clear hj1
                obtain ⟨AR, hAR⟩ : ∃ A, (if p.c6 = j1 then p.a6 else Option.map (fun x => x.add (j1 * 5)) p.a6) = A := ⟨_, rfl⟩
                have HAR := Lib.hid hAR
                refine wpAnyH_take (i := 0) (v := ?vus17) rfl (by kernel_rfl) (by kernel_rfl) (by kernel_rfl) (fun _ _ _ h => h) (Or.inl ⟨by rfl, ?hyus17⟩) (by assumption) ?restus17
                case hyus17 => (intro w' hSw; have kc := KCX.out w' hSw.out; clear hSw; go_simp; try with_reducible rfl)
                simp only [Act.put, List.getElem_toArray, List.getElem_cons_zero, List.getElem_cons_succ, List.setIfInBounds_toArray, List.set_cons_zero, List.set_cons_succ]
                refine wpAnyH_take (i := 1) (v := ?vus18) rfl (by kernel_rfl) (by kernel_rfl) (by kernel_rfl) (fun _ _ _ h => h) (Or.inl ⟨by rfl, ?hyus18⟩) (by assumption) ?restus18
                case hyus18 => (intro w' hSw; have kc := KCX.out w' hSw.out; clear hSw; go_simp; try with_reducible rfl)
                simp only [Act.put, List.getElem_toArray, List.getElem_cons_zero, List.getElem_cons_succ, List.setIfInBounds_toArray, List.set_cons_zero, List.set_cons_succ]
                refine wpAnyH_take (i := 2) (v := ?vus19) rfl (by kernel_rfl) (by kernel_rfl) (by kernel_rfl) (fun _ _ _ h => h) (Or.inl ⟨by rfl, ?hyus19⟩) (by assumption) ?restus19
                case hyus19 => (intro w' hSw; have kc := KCX.out w' hSw.out; clear hSw; go_simp; try with_reducible rfl)
                simp only [Act.put, List.getElem_toArray, List.getElem_cons_zero, List.getElem_cons_succ, List.setIfInBounds_toArray, List.set_cons_zero, List.set_cons_succ]
                refine wpAnyH_take (i := 3) (v := ?vus20) rfl (by kernel_rfl) (by kernel_rfl) (by kernel_rfl) (fun _ _ _ h => h) (Or.inl ⟨by rfl, ?hyus20⟩) (by assumption) ?restus20
                case hyus20 => (intro w' hSw; have kc := KCX.out w' hSw.out; clear hSw; go_simp; try with_reducible rfl)
                simp only [Act.put, List.getElem_toArray, List.getElem_cons_zero, List.getElem_cons_succ, List.setIfInBounds_toArray, List.set_cons_zero, List.set_cons_succ]
                refine wpAnyH_take (i := 5) (v := ?vus21) rfl (by kernel_rfl) (by kernel_rfl) (by kernel_rfl) (fun _ _ _ h => h) (Or.inl ⟨by rfl, ?hyus21⟩) (by assumption) ?restus21
                case hyus21 => (intro w' hSw; have kc := KCX.out w' hSw.out; clear hSw; go_simp; try with_reducible rfl)
                simp only [Act.put, List.getElem_toArray, List.getElem_cons_zero, List.getElem_cons_succ, List.setIfInBounds_toArray, List.set_cons_zero, List.set_cons_succ]
                refine wpAnyH_take (i := 6) (v := ?vus22) rfl (by kernel_rfl) (by kernel_rfl) (by kernel_rfl) (fun _ _ _ h => h) (Or.inl ⟨by rfl, ?hyus22⟩) (by assumption) ?restus22
                case hyus22 => (intro w' hSw; have kc := KCX.out w' hSw.out; clear hSw; go_simp; try with_reducible rfl)
                simp only [Act.put, List.getElem_toArray, List.getElem_cons_zero, List.getElem_cons_succ, List.setIfInBounds_toArray, List.set_cons_zero, List.set_cons_succ]
                refine wpAnyH_take (i := 7) (v := ?vus23) rfl (by kernel_rfl) (by kernel_rfl) (by kernel_rfl) (fun _ _ _ h => h) (Or.inl ⟨by rfl, ?hyus23⟩) (by assumption) ?restus23
                case hyus23 => (intro w' hSw; have kc := KCX.out w' hSw.out; clear hSw; go_simp; try with_reducible rfl)
                simp only [Act.put, List.getElem_toArray, List.getElem_cons_zero, List.getElem_cons_succ, List.setIfInBounds_toArray, List.set_cons_zero, List.set_cons_succ]
                refine wpAnyH_take (i := 8) (v := ?vus24) rfl (by kernel_rfl) (by kernel_rfl) (by kernel_rfl) (fun _ _ _ h => h) (Or.inl ⟨by rfl, ?hyus24⟩) (by assumption) ?restus24
                case hyus24 => (intro w' hSw; have kc := KCX.out w' hSw.out; clear hSw; go_simp; try with_reducible rfl)
                simp only [Act.put, List.getElem_toArray, List.getElem_cons_zero, List.getElem_cons_succ, List.setIfInBounds_toArray, List.set_cons_zero, List.set_cons_succ]
                refine wpAnyH_take (i := 9) (v := ?vus25) rfl (by kernel_rfl) (by kernel_rfl) (by kernel_rfl) (fun _ _ _ h => h) (Or.inl ⟨by rfl, ?hyus25⟩) (by assumption) ?restus25
                case hyus25 => (intro w' hSw; have kc := KCX.out w' hSw.out; clear hSw; go_simp; try with_reducible rfl)
                simp only [Act.put, List.getElem_toArray, List.getElem_cons_zero, List.getElem_cons_succ, List.setIfInBounds_toArray, List.set_cons_zero, List.set_cons_succ]
                clear hAR
                have D0 := hHeld
                clear hHeld
                have b0 : Hid (Below W2.heap.size W2 (World.drew W2)) := Lib.hid (below_drew (Below.refl _ _))
                generalize World.drew W2 = v0 at *
                refine wpAnyH_ready (rs := [4]) (by kernel_rfl) (by simp) ?_
                refine AllReadyH.cons rfl (fun K hK => ?_) AllReadyH.nil
                go_simp
                have HRX := Lib.hid (Sh.r6 (HS.out.later (keep_trans BWc.out b0.out)))
                have hlen : (cs haC x.hazards).length = n * 5 := by rw [cs_length haC 5 (fun _ => rfl), HNN.out]
                have HTK : Hid (cs haC (x.hazards.take j) = (cs haC x.hazards).take (j * 5)) := Lib.hid (cs_take9 haC 5 (fun _ => rfl) _ _)
                go_at_call 28
                refine (own_haz v0 p.a6 j p.c6 (x.hazards.take j) (Lib.hid (by rw [List.length_take, ← HNN.out]; have := HJ.out; omega)) (by have := HJ.out; omega) (by rw [HTK.out]; exact rd_take HRX.out _)).mono ?_
                rintro e' v3 ⟨A3, d3, rfl, hd3, hO, hb⟩
                have HO := hO
                have b3 : Hid (Below W2.heap.size W2 v3) := Lib.hid (keep_trans b0.out hb)
                have z0 : Hid (W2.heap.size ≤ v0.heap.size) := Lib.hid b0.out.size
                have z3 : Hid (v0.heap.size ≤ v3.heap.size) := Lib.hid hb.size
                have D3 : Hid (Ch (· = g9) W2 v3) := Lib.hid (Ch.of_below b3.out)
                clear hb hO
                dsimp only
                refine hK.out _ _ D3 (fun hHeld => ?_)
                clear hK K hHeld
                refine wpAnyH_ready (rs := [10]) (by kernel_rfl) (by simp) ?_
                refine AllReadyH.cons rfl (fun K hK => ?_) AllReadyH.nil
                have HRX3 := Lib.hid (Sh.r6 (HS.out.later (keep_trans BWc.out b3.out)))
                have hlen2 : Hid ((cs haC (x.hazards.drop j1)).length = (n - j1) * 5) := Lib.hid (by rw [cs_length haC 5 (fun _ => rfl), List.length_drop, HNN.out])
                have HRD : Hid (Rd v3 (· < v3.heap.size) AR (cs haC (x.hazards.drop j1))) := Lib.hid (by rw [← HAR.out, cs_drop9 haC 5 (fun _ => rfl)]; exact HRX3.out.drop (fun hh => by rw [hlen] at hh; omega))
                refine step_append_g (by rfl) (.tmp 126) (.tmp 131) 42 (by rfl) v0.heap.size 78 _ 5 56 Tryz.underlying42 info_Haz rfl (by omega) (by omega) (.slice A3 j d3) j (cs haC (x.hazards.take j)) (by rfl) HO _ _ (n - j1) (p.c6 - j1) (cs haC (x.hazards.drop j1)) (by rfl) hlen2 HRD (cs_each ha_one _) (by omega) z3.out ?_
                intro v' v4 hown hgrow hob
                obtain ⟨A4, d4, rfl, hd4, -⟩ := own_form hown.out
                have b4 : Hid (Below W2.heap.size W2 v4) := Lib.hid (b3.out.trans ((Ch.of_grown (X := fun b => some b = (Value.slice A3 j d3).ownBlock) hgrow.out fun k e => e).below (by have := z0.out; have := z3.out; omega) fun k e => by have := (HO.out.lt k e.symm).1; have := z0.out; omega))
                have D4 : Hid (Ch (· = g9) W2 v4) := Lib.hid (Ch.of_below b4.out)
                refine hK.out _ _ D4 (fun hHeld => ?_)
                clear hK K hHeld
                refine wpAnyH_take (i := 11) (v := ?vus26) rfl (by kernel_rfl) (by kernel_rfl) (by kernel_rfl) (fun _ _ _ h => h) (Or.inl ⟨by rfl, ?hyus26⟩) (by assumption) ?restus26
                case hyus26 => (intro w' hSw; clear hSw; go_simp; try with_reducible rfl)
                simp only [Act.put, List.getElem_toArray, List.getElem_cons_zero, List.getElem_cons_succ, List.setIfInBounds_toArray, List.set_cons_zero, List.set_cons_succ]
                refine wpAnyH_ready (rs := [12]) (by kernel_rfl) (by simp) ?_
                refine AllReadyH.cons rfl (fun K hK => ?_) AllReadyH.nil
                have KY4 := Lib.hid (KY.out.after b4.out)
                have qq : v4.cell? ⟨g9, 6, none⟩ = some (.slice py.a6 x.hazards.length py.c6) := KY4.out.cell 6
                have qf : v4.frozen? ⟨g9, 6, none⟩ = false := KY4.out.frozen 6
                go_simp
                clear qq qf
                obtain ⟨W5, hW5⟩ : ∃ W, W = v4.setCell ⟨g9, 6, none⟩ (.slice A4 (j + (n - j1)) d4) := ⟨_, rfl⟩
                have C5 : Hid (Ch (· = g9) v4 W5) := Lib.hid (by rw [hW5]; exact ch_set v4 g9 6 _)
                have KY5 : Hid (Blk W5 g9 44 [.int .i64 x.horizon, .slice py.a1 x.stops.length py.c1, .slice py.a2 x.paths.length py.c2, .slice py.a3 x.doors.length py.c3, .slice py.a4 x.routes.length py.c4, .slice py.a5 x.trips.length py.c5, .slice A4 (j + (n - j1)) d4]) := Lib.hid (by rw [hW5]; exact KY4.out.set_ 6 _)
                have D5 : Hid (Ch (· = g9) W2 W5) := Lib.hid (D4.out.trans C5.out)
                rw [← hW5]
                clear hW5
                have B5s : Hid (W2.heap.size ≤ W5.heap.size) := Lib.hid D5.out.size
                refine hK.out _ _ D5 (fun hHeld => ?_)
                clear hK K hHeld
                refine wpAnyH_done (by kernel_rfl) ?_ _
                have HNEW : Hid (Rd W5 (fun b => W2.heap.size ≤ b ∧ b < W5.heap.size) A4 (cs haC (x.hazards.take j ++ x.hazards.drop j1))) := Lib.hid (by rw [cs_append9]; exact (Rd.keep (own_rd'' hown.out) fun b hb => C5.out.block b hb.2 (by have := KY.out.lt; have := z0.out; omega)).more fun b hb => ⟨by have := z0.out; omega, Nat.lt_of_lt_of_le hb.2 C5.out.size⟩)
                have HYL : Hid (j + (n - j1) = (x.hazards.take j ++ x.hazards.drop j1).length) := Lib.hid (by rw [List.length_append, List.length_take, List.length_drop, ← HNN.out]; have := HJ.out; have := HJ1.out; omega)
                have KX5 := Lib.hid (D5.out.blk KXc.out (by have := Hw9.out; omega))
                have KZ5 := Lib.hid (D5.out.blk KZ.out (by have := Hne.out; omega))
                have K115 := Lib.hid (D5.out.blk K11.out (by have := H9l.out; omega))
                have HY5 := Lib.hid (HY.out.keep fun b hk => D5.out.block b (by have := HZ.out.hi_; have := HZL.out; omega) (by omega))
                have HZ5 := Lib.hid (HZ.out.box KY.out D5.out Hg9.out)
                have BW5 : Hid (Below w.heap.size w W5) := Lib.hid (BWc.out.trans (D5.out.below BWc.out.size fun k hk => by have := Hw9.out; omega))
                clear KCX hlen HTK HRX hcap e1 e2 e3 hjn2 h1 h2 HRX3 hlen2 HRD hgrow hob hown HO hd3 hd4 D0 D3 D4 b0 b3 b4 z0 z3 KY4 C5 hjc hjn
                obtain ⟨t, ht⟩ : ∃ t, x.hazards[j]? = some t := ⟨_, List.getElem?_eq_getElem (by rw [← HNN.out]; exact HJ.out)⟩
                have HT := Lib.hid ht
                obtain ⟨ad, e2, hSa, ga0, gaj⟩ := rd_at 5 (fun _ => rfl) (by omega) (Sh.r6 HS.out) ht
                have hab : (ad.add (j * 5)).block < w.heap.size := by rw [block_of_add]; exact hSa
                obtain ⟨t0, t1, ⟨t2, t3, t4⟩⟩ := t
                have ta0 : w.cell? (ad.add (j * 5)) = some (.string ⟨t0.toArray⟩) := ga0
                have ta1 : w.cell? ⟨(ad.add (j * 5)).block, (ad.add (j * 5)).off + 1, none⟩ = some (.string ⟨t1.toArray⟩) := (gaj 1 (by omega)).resolve_right (by omega)
                have ta2 : w.cell? ⟨(ad.add (j * 5)).block, (ad.add (j * 5)).off + 2, none⟩ = some (.int .i64 t2) := (gaj 2 (by omega)).resolve_right (by omega)
                have ta3 : w.cell? ⟨(ad.add (j * 5)).block, (ad.add (j * 5)).off + 3, none⟩ = some (.int .i64 t3) := (gaj 3 (by omega)).resolve_right (by omega)
                have ta4 : w.cell? ⟨(ad.add (j * 5)).block, (ad.add (j * 5)).off + 4, none⟩ = some (.int .i64 t4) := (gaj 4 (by omega)).resolve_right (by omega)
                have OZ := Lib.hid (HZ5.out.r6)
                have HOL : Hid (∀ k, some k = (Value.slice pz.a6 x.hazards.length pz.c6).ownBlock → lo < k) := Lib.hid fun k hk => by have := (OZ.out.lt k hk.symm).1; omega
                have BWX : Hid (∀ k, k < w.heap.size → W5.heap[k]? = w.heap[k]?) := Lib.hid fun k hk => BW5.out.block k hk
                have KC2 : Hid (∀ w', Ch (fun k => k = g10 ∨ some k = (Value.slice pz.a6 x.hazards.length pz.c6).ownBlock) W5 w' → w'.cell? ⟨w.heap.size, 6, none⟩ = some (.slice (some ad) n p.c6) ∧ w'.cell? (ad.add (j * 5)) = some (.string ⟨t0.toArray⟩) ∧ w'.cell? ⟨(ad.add (j * 5)).block, (ad.add (j * 5)).off + 1, none⟩ = some (.string ⟨t1.toArray⟩) ∧ w'.cell? ⟨(ad.add (j * 5)).block, (ad.add (j * 5)).off + 2, none⟩ = some (.int .i64 t2) ∧ w'.cell? ⟨(ad.add (j * 5)).block, (ad.add (j * 5)).off + 3, none⟩ = some (.int .i64 t3) ∧ w'.cell? ⟨(ad.add (j * 5)).block, (ad.add (j * 5)).off + 4, none⟩ = some (.int .i64 t4)) := Lib.hid (fun w' hc => by
                  have hx1 := (hc.blk KX5.out (fun h => h.elim (fun h => by have := Hw10.out; omega) (fun h => by have := HOL.out _ h; have := HWLO.out; omega))).cell 6
                  rw [← e2, HNN.out]
                  have hk : ∀ a : Addr, a.block < w.heap.size → w'.cell? a = w.cell? a := fun a ha => (World.cell?_of_block (hc.block _ (by have := BW5.out.size; omega) (fun h => h.elim (fun h => by have := Hw10.out; omega) (fun h => by have := HOL.out _ h; have := HWLO.out; omega)))).trans (World.cell?_of_block (BWX.out _ ha))
                  exact ⟨hx1, (hk (ad.add (j * 5)) hab).trans ta0, (hk ⟨(ad.add (j * 5)).block, (ad.add (j * 5)).off + 1, none⟩ hab).trans ta1, (hk ⟨(ad.add (j * 5)).block, (ad.add (j * 5)).off + 2, none⟩ hab).trans ta2, (hk ⟨(ad.add (j * 5)).block, (ad.add (j * 5)).off + 3, none⟩ hab).trans ta3, (hk ⟨(ad.add (j * 5)).block, (ad.add (j * 5)).off + 4, none⟩ hab).trans ta4⟩)
                clear e2 hSa ga0 gaj ta0 ta1 ta2 ta3 ta4
                have hjn3 : (j : Int) < (n : Int) := by have := HJ.out; omega
                have hj0 : ¬ ((j : Int) < 0) := by omega
                go_upto_region 26 with fail
                refine wp_region_held_drew (S := fun w' => Hid (Ch (fun k => k = g10 ∨ some k = (Value.slice pz.a6 x.hazards.length pz.c6).ownBlock) W5 w')) (by kernel_rfl) ?_ (fun hHeld => ?_)
                · exact Lib.hid ((Ch.refl _ W5).drew)
                refine wpAnyH_take (i := 0) (v := ?vus27) rfl (by kernel_rfl) (by kernel_rfl) (by kernel_rfl) (fun _ _ _ h => h) (Or.inl ⟨by rfl, ?hyus27⟩) (by assumption) ?restus27
                case hyus27 => (intro w' hSw; obtain ⟨kk0, kk1, kk2, kk3, kk4, kk5⟩ := KC2.out w' hSw.out; clear hSw; go_simp; try with_reducible rfl)
                simp only [Act.put, List.getElem_toArray, List.getElem_cons_zero, List.getElem_cons_succ, List.setIfInBounds_toArray, List.set_cons_zero, List.set_cons_succ]
                refine wpAnyH_take (i := 2) (v := ?vus28) rfl (by kernel_rfl) (by kernel_rfl) (by kernel_rfl) (fun _ _ _ h => h) (Or.inl ⟨by rfl, ?hyus28⟩) (by assumption) ?restus28
                case hyus28 => (intro w' hSw; obtain ⟨kk0, kk1, kk2, kk3, kk4, kk5⟩ := KC2.out w' hSw.out; clear hSw; go_simp; try with_reducible rfl)
                simp only [Act.put, List.getElem_toArray, List.getElem_cons_zero, List.getElem_cons_succ, List.setIfInBounds_toArray, List.set_cons_zero, List.set_cons_succ]
                refine wpAnyH_take (i := 3) (v := ?vus29) rfl (by kernel_rfl) (by kernel_rfl) (by kernel_rfl) (fun _ _ _ h => h) (Or.inl ⟨by rfl, ?hyus29⟩) (by assumption) ?restus29
                case hyus29 => (intro w' hSw; obtain ⟨kk0, kk1, kk2, kk3, kk4, kk5⟩ := KC2.out w' hSw.out; clear hSw; go_simp; try with_reducible rfl)
                simp only [Act.put, List.getElem_toArray, List.getElem_cons_zero, List.getElem_cons_succ, List.setIfInBounds_toArray, List.set_cons_zero, List.set_cons_succ]
                refine wpAnyH_take (i := 4) (v := ?vus30) rfl (by kernel_rfl) (by kernel_rfl) (by kernel_rfl) (fun _ _ _ h => h) (Or.inl ⟨by rfl, ?hyus30⟩) (by assumption) ?restus30
                case hyus30 => (intro w' hSw; obtain ⟨kk0, kk1, kk2, kk3, kk4, kk5⟩ := KC2.out w' hSw.out; clear hSw; go_simp; try with_reducible rfl)
                simp only [Act.put, List.getElem_toArray, List.getElem_cons_zero, List.getElem_cons_succ, List.setIfInBounds_toArray, List.set_cons_zero, List.set_cons_succ]
                refine wpAnyH_take (i := 5) (v := ?vus31) rfl (by kernel_rfl) (by kernel_rfl) (by kernel_rfl) (fun _ _ _ h => h) (Or.inl ⟨by rfl, ?hyus31⟩) (by assumption) ?restus31
                case hyus31 => (intro w' hSw; obtain ⟨kk0, kk1, kk2, kk3, kk4, kk5⟩ := KC2.out w' hSw.out; clear hSw; go_simp; try with_reducible rfl)
                simp only [Act.put, List.getElem_toArray, List.getElem_cons_zero, List.getElem_cons_succ, List.setIfInBounds_toArray, List.set_cons_zero, List.set_cons_succ]
                refine wpAnyH_take (i := 6) (v := ?vus32) rfl (by kernel_rfl) (by kernel_rfl) (by kernel_rfl) (fun _ _ _ h => h) (Or.inl ⟨by rfl, ?hyus32⟩) (by assumption) ?restus32
                case hyus32 => (intro w' hSw; obtain ⟨kk0, kk1, kk2, kk3, kk4, kk5⟩ := KC2.out w' hSw.out; clear hSw; go_simp; try with_reducible rfl)
                simp only [Act.put, List.getElem_toArray, List.getElem_cons_zero, List.getElem_cons_succ, List.setIfInBounds_toArray, List.set_cons_zero, List.set_cons_succ]
                have D0 := hHeld
                clear hHeld
                have BB0 : Hid (Below W5.heap.size W5 (World.drew W5)) := Lib.hid (below_drew (Below.refl _ _))
                generalize World.drew W5 = vn at *
                have DD := D0
                have BB := BB0
                clear D0 BB0
                rename World => vv
                refine wpAnyH_ready (rs := [1, 7]) (by kernel_rfl) (by simp) ?_
                refine AllReadyH.cons rfl (fun K hK => ?_) (AllReadyH.cons rfl (fun K hK => ?_) AllReadyH.nil)
                focus
                 have q4 : vv.cell? ⟨g10, 6, none⟩ = some (.slice pz.a6 x.hazards.length pz.c6) := (KZ5.out.after BB.out).cell 6
                 go_simp
                 clear q4
                 refine hK.out _ _ DD (fun hHeld => ?_)
                 clear hK K hHeld
                 refine wpAnyH_ready (rs := [7]) (by kernel_rfl) (by simp) ?_
                 refine AllReadyH.cons rfl (fun K hK => ?_) AllReadyH.nil
                 focus
                  go_simp
                  have DN := Lib.hid (DD.out.alloc (.cells #[.string ⟨t0.toArray⟩, .string ⟨t1.toArray⟩, .int .i64 t2, .int .i64 t3, .int .i64 t4] 78))
                  have BN := Lib.hid (BB.out.alloc BB.out.size (.cells #[.string ⟨t0.toArray⟩, .string ⟨t1.toArray⟩, .int .i64 t2, .int .i64 t3, .int .i64 t4] 78))
                  have HLI : Hid (Rd (vv.alloc (.cells #[.string ⟨t0.toArray⟩, .string ⟨t1.toArray⟩, .int .i64 t2, .int .i64 t3, .int .i64 t4] 78)) (· < (vv.alloc (.cells #[.string ⟨t0.toArray⟩, .string ⟨t1.toArray⟩, .int .i64 t2, .int .i64 t3, .int .i64 t4] 78)).heap.size) (some ⟨vv.heap.size, 0, none⟩) [.string ⟨t0.toArray⟩, .string ⟨t1.toArray⟩, .int .i64 t2, .int .i64 t3, .int .i64 t4]) := Lib.hid (Sh.lit_rd _ _ _ _ rfl)
                  generalize vv.alloc (.cells #[.string ⟨t0.toArray⟩, .string ⟨t1.toArray⟩, .int .i64 t2, .int .i64 t3, .int .i64 t4] 78) = vn at *
                  refine hK.out _ _ DN (fun hHeld => ?_)
                  clear hK K hHeld
                  rename World => vv
                  have DD := DN
                  have BB := BN
                  clear DN BN
                 rotate_left 1
                rotate_left 1
                focus
                 go_simp
                 have DN := Lib.hid (DD.out.alloc (.cells #[.string ⟨t0.toArray⟩, .string ⟨t1.toArray⟩, .int .i64 t2, .int .i64 t3, .int .i64 t4] 78))
                 have BN := Lib.hid (BB.out.alloc BB.out.size (.cells #[.string ⟨t0.toArray⟩, .string ⟨t1.toArray⟩, .int .i64 t2, .int .i64 t3, .int .i64 t4] 78))
                 have HLI : Hid (Rd (vv.alloc (.cells #[.string ⟨t0.toArray⟩, .string ⟨t1.toArray⟩, .int .i64 t2, .int .i64 t3, .int .i64 t4] 78)) (· < (vv.alloc (.cells #[.string ⟨t0.toArray⟩, .string ⟨t1.toArray⟩, .int .i64 t2, .int .i64 t3, .int .i64 t4] 78)).heap.size) (some ⟨vv.heap.size, 0, none⟩) [.string ⟨t0.toArray⟩, .string ⟨t1.toArray⟩, .int .i64 t2, .int .i64 t3, .int .i64 t4]) := Lib.hid (Sh.lit_rd _ _ _ _ rfl)
                 generalize vv.alloc (.cells #[.string ⟨t0.toArray⟩, .string ⟨t1.toArray⟩, .int .i64 t2, .int .i64 t3, .int .i64 t4] 78) = vn at *
                 refine hK.out _ _ DN (fun hHeld => ?_)
                 clear hK K hHeld
                 rename World => vv
                 have DD := DN
                 have BB := BN
                 clear DN BN
                 refine wpAnyH_ready (rs := [1]) (by kernel_rfl) (by simp) ?_
                 refine AllReadyH.cons rfl (fun K hK => ?_) AllReadyH.nil
                 focus
                  have q4 : vv.cell? ⟨g10, 6, none⟩ = some (.slice pz.a6 x.hazards.length pz.c6) := (KZ5.out.after BB.out).cell 6
                  go_simp
                  clear q4
                  refine hK.out _ _ DD (fun hHeld => ?_)
                  clear hK K hHeld
                 rotate_left 1
                rotate_left 1
                all_goals
                 refine wpAnyH_ready (rs := [8]) (by kernel_rfl) (by simp) ?_
                 refine AllReadyH.cons rfl (fun K hK => ?_) AllReadyH.nil
                 refine step_append_g (by rfl) (.tmp 135) (.tmp 141) 42 (by rfl) lo 78 _ 5 56 Tryz.underlying42 info_Haz rfl (by omega) (by omega) (.slice pz.a6 x.hazards.length pz.c6) x.hazards.length (cs haC x.hazards) (by rfl) (Lib.hid (own_base (own_after OZ.out BB.out) (Nat.le_succ _))) _ _ 1 1 _ (by rfl) (Lib.hid rfl) HLI (by simp [Value.oneCell']) (by have := HLT.out.l6; omega) (by have := BB.out.size; have := HZ5.out.hi_; have := HZL.out; omega) ?_
                 intro v' v6 hown hgrow hob
                 obtain ⟨A6, d6, rfl, hd6, -⟩ := own_form hown.out
                 have D6 : Hid (Ch (fun k => k = g10 ∨ some k = (Value.slice pz.a6 x.hazards.length pz.c6).ownBlock) W5 v6) := Lib.hid (DD.out.trans' (Ch.of_grown (X := fun k => k = g10 ∨ some k = (Value.slice pz.a6 x.hazards.length pz.c6).ownBlock) hgrow.out fun k e => .inr e) (fun _ _ h => h))
                 refine hK.out _ _ D6 (fun hHeld => ?_)
                 clear hK K hHeld
                 refine wpAnyH_take (i := 9) (v := .pointer (some ⟨g10, 6, none⟩)) rfl (by kernel_rfl) (by kernel_rfl) (by kernel_rfl) (fun _ _ _ h => h) (Or.inl ⟨by rfl, fun w' hSw => by (clear hSw; go_simp; try with_reducible rfl)⟩) (by assumption) ?_
                 simp only [Act.put, List.getElem_toArray, List.getElem_cons_zero, List.getElem_cons_succ, List.setIfInBounds_toArray, List.set_cons_zero, List.set_cons_succ]
                 refine wpAnyH_ready (rs := [10]) (by kernel_rfl) (by simp) ?_
                 refine AllReadyH.cons rfl (fun K hK => ?_) AllReadyH.nil
                 have KZ6 : Hid (Blk v6 g10 44 [.int .i64 x.horizon, .slice pz.a1 x.stops.length pz.c1, .slice pz.a2 x.paths.length pz.c2, .slice pz.a3 x.doors.length pz.c3, .slice pz.a4 x.routes.length pz.c4, .slice pz.a5 x.trips.length pz.c5, .slice pz.a6 x.hazards.length pz.c6]) := Lib.hid ((KZ5.out.after BB.out).grown hgrow.out (fun e => own_ne_blk OZ.out KZ5.out (by decide) g10 e.symm rfl))
                 have qq : v6.cell? ⟨g10, 6, none⟩ = some (.slice pz.a6 x.hazards.length pz.c6) := KZ6.out.cell 6
                 have qf : v6.frozen? ⟨g10, 6, none⟩ = false := KZ6.out.frozen 6
                 go_simp
                 clear qq qf
                 obtain ⟨W7, hW7⟩ : ∃ W, W = v6.setCell ⟨g10, 6, none⟩ (.slice A6 (x.hazards.length + 1) d6) := ⟨_, rfl⟩
                 have C7 : Hid (Ch (· = g10) v6 W7) := Lib.hid (by rw [hW7]; exact ch_set v6 g10 6 _)
                 have KZ7 : Hid (Blk W7 g10 44 [.int .i64 x.horizon, .slice pz.a1 x.stops.length pz.c1, .slice pz.a2 x.paths.length pz.c2, .slice pz.a3 x.doors.length pz.c3, .slice pz.a4 x.routes.length pz.c4, .slice pz.a5 x.trips.length pz.c5, .slice A6 (x.hazards.length + 1) d6]) := Lib.hid (by rw [hW7]; exact KZ6.out.set_ 6 _)
                 rw [← hW7]
                 clear hW7
                 have D7 : Hid (Ch (fun k => k = g10 ∨ some k = (Value.slice pz.a6 x.hazards.length pz.c6).ownBlock) W5 W7) := Lib.hid (D6.out.trans' (C7.out.mono (Y := fun k => k = g10 ∨ some k = (Value.slice pz.a6 x.hazards.length pz.c6).ownBlock) fun _ _ h => .inl h) (fun _ _ h => h))
                 have OW7 : Hid (W7.ownsRow lo 78 5 (.slice A6 (x.hazards.length + 1) d6) (x.hazards.length + 1) (cs haC x.hazards ++ [.string ⟨t0.toArray⟩, .string ⟨t1.toArray⟩, .int .i64 t2, .int .i64 t3, .int .i64 t4])) := Lib.hid (C7.out.own hown.out (own_ne_blk hown.out KZ6.out (by decide)))
                 refine hK.out _ _ D7 (fun hHeld => ?_)
                 clear hK K hHeld
                 refine wpAnyH_done (by kernel_rfl) ?_ _
                 have HNX : Hid (∀ k, k < w.heap.size + 1 → ¬ (k = g10 ∨ some k = (Value.slice pz.a6 x.hazards.length pz.c6).ownBlock)) := Lib.hid (fun k hk h => h.elim (fun h => by have := Hw10.out; omega) (fun h => by have := HOL.out _ h; have := HWLO.out; omega))
                 have KX7 := Lib.hid (D7.out.blk KX5.out (HNX.out _ (Nat.lt_succ_self _)))
                 have sx : W7.cell? ⟨w.heap.size, 6, none⟩ = some (.slice p.a6 n p.c6) := by rw [HNN.out]; exact KX7.out.cell 6
                 have K117 := Lib.hid (D7.out.blk K115.out (fun h => h.elim (fun h => by have := H10l.out; omega) (fun h => own_ne_blk OZ.out K115.out (by decide) _ h.symm rfl)))
                 have q0 : W7.cell? ⟨g11, 0, none⟩ = some (.int .i64 0) := K117.out.cell 0
                 have q1 : W7.cell? ⟨g11, 1, none⟩ = some (.int .i64 0) := K117.out.cell 1
                 have q2 : W7.cell? ⟨g11, 2, none⟩ = some (.int .i64 0) := K117.out.cell 2
                 have qf : ∀ q, W7.frozen? ⟨g11, q, none⟩ = false := fun q => K117.out.frozen q
                 have KY7 := Lib.hid (D7.out.blk KY5.out (fun h => h.elim (fun h => Hne.out h) (fun h => own_ne_blk OZ.out KY5.out (by decide) _ h.symm rfl)))
                 go_wp2_with fail
                 go_meet
                 show LsMid w g9 g10 g11 (sto3 W7 g11 (.int .i64 6) (.int .i64 6) (.int .i64 (n : Int)))
                 have C8 : Ch (· = g11) W7 (sto3 W7 g11 (.int .i64 6) (.int .i64 6) (.int .i64 (n : Int))) := sto3_ch _ _ _ _ _
                 have K118 : Blk (sto3 W7 g11 (.int .i64 6) (.int .i64 6) (.int .i64 (n : Int))) g11 35 [.int .i64 6, .int .i64 6, .int .i64 (n : Int)] := sto3_blk K117.out _ _ _
                 generalize (sto3 W7 g11 (.int .i64 6) (.int .i64 6) (.int .i64 (n : Int))) = W8 at *
                 have KY8 := C8.blk KY7.out (by have := H9l.out; omega)
                 rw [HYL.out] at KY8
                 have KZ8 := C8.blk KZ7.out (by have := H10l.out; omega)
                 rw [show x.hazards.length + 1 = (x.hazards ++ [(⟨t0, t1, ⟨t2, t3, t4⟩⟩ : HazM)]).length by simp] at KZ8
                 have hz8 : W7.heap.size ≤ W8.heap.size := C8.size
                 have hz7 : W5.heap.size ≤ W7.heap.size := D7.out.size
                 have hz5 := B5s.out
                 have hz2 := HW2S.out
                 have hhi := HZ.out.hi_
                 have hzl := HZL.out
                 have hg11 := HG11.out
                 have hg11h := HG11H.out
                 have keepY : ∀ b, (b ≠ g9 ∧ b ≠ g10 ∧ b < lo) → W8.heap[b]? = W5.heap[b]? := fun b hb => (C8.block b (by omega) (by omega)).trans (D7.out.block b (by omega) (fun h => h.elim (fun h => hb.2.1 h) (fun h => by have := HOL.out _ h; omega)))
                 have keepN : ∀ b, (W2.heap.size ≤ b ∧ b < W5.heap.size) → W8.heap[b]? = W5.heap[b]? := fun b hb => (C8.block b (by omega) (by omega)).trans (D7.out.block b hb.2 (fun h => h.elim (fun h => by have := H10l.out; omega) (fun h => by have := ((Zs.r6 HZ.out).lt b h.symm).2; omega)))
                 have HYF : Sh W8 (· < W8.heap.size) { x with hazards := x.hazards.take j ++ x.hazards.drop j1 } { py with a6 := A4, c6 := d4 } := by
                   obtain ⟨c4, h4, h4'⟩ := HY5.out.r4
                   exact ⟨(Rd.keep (Sh.r1 HY5.out) keepY).more fun b hb => by omega, (Rd.keep (Sh.r2 HY5.out) keepY).more fun b hb => by omega, (Rd.keep (Sh.r3 HY5.out) keepY).more fun b hb => by omega, ⟨c4, (Rd.keep h4 keepY).more fun b hb => by omega, (h4'.keep keepY).more fun b hb => by omega⟩, (Rd.keep (Sh.r5 HY5.out) keepY).more fun b hb => by omega, (Rd.keep HNEW.out keepN).more fun b hb => by omega⟩
                 have HZF : Sh W8 (· < W8.heap.size) { x with hazards := x.hazards ++ [⟨t0, t1, ⟨t2, t3, t4⟩⟩] } { pz with a6 := A6, c6 := d6 } := by
                   obtain ⟨c4, h4, h4'⟩ := HZ5.out.r4
                   have k4 := h4'.keep fun b hb => (C8.block b (by omega) (by omega)).trans (D7.out.block b (by omega) (fun h => h.elim (fun h => by have := Hg10.out; omega) (fun h => hb.2.2 (.slice pz.a6 x.hazards.length pz.c6) (by simp) h.symm)))
                   refine ⟨(own_rd'' (C8.own (D7.out.own (Zs.r1 HZ5.out) fun b hbk hx => hx.elim (fun h => own_ne_blk (Zs.r1 HZ5.out) KZ5.out (by decide) b hbk h) (fun h => own_ne (Zs.r1 HZ5.out) OZ.out (by decide) b hbk h.symm)) (own_ne_blk (D7.out.own (Zs.r1 HZ5.out) fun b hbk hx => hx.elim (fun h => own_ne_blk (Zs.r1 HZ5.out) KZ5.out (by decide) b hbk h) (fun h => own_ne (Zs.r1 HZ5.out) OZ.out (by decide) b hbk h.symm)) K117.out (by decide)))).more fun b hb => hb.2, (own_rd'' (C8.own (D7.out.own (Zs.r2 HZ5.out) fun b hbk hx => hx.elim (fun h => own_ne_blk (Zs.r2 HZ5.out) KZ5.out (by decide) b hbk h) (fun h => own_ne (Zs.r2 HZ5.out) OZ.out (by decide) b hbk h.symm)) (own_ne_blk (D7.out.own (Zs.r2 HZ5.out) fun b hbk hx => hx.elim (fun h => own_ne_blk (Zs.r2 HZ5.out) KZ5.out (by decide) b hbk h) (fun h => own_ne (Zs.r2 HZ5.out) OZ.out (by decide) b hbk h.symm)) K117.out (by decide)))).more fun b hb => hb.2, ?_, ⟨c4, (own_rd'' (C8.own (D7.out.own h4 fun b hbk hx => hx.elim (fun h => own_ne_blk h4 KZ5.out (by decide) b hbk h) (fun h => own_ne h4 OZ.out (by decide) b hbk h.symm)) (own_ne_blk (D7.out.own h4 fun b hbk hx => hx.elim (fun h => own_ne_blk h4 KZ5.out (by decide) b hbk h) (fun h => own_ne h4 OZ.out (by decide) b hbk h.symm)) K117.out (by decide)))).more fun b hb => hb.2, k4.more fun b hb => by omega⟩, ?_, ?_⟩
                   · exact (own_rd'' (C8.own (D7.out.own (Zs.r3 HZ5.out) fun b hbk hx => hx.elim (fun h => own_ne_blk (Zs.r3 HZ5.out) KZ5.out (by decide) b hbk h) (fun h => own_ne (Zs.r3 HZ5.out) OZ.out (by decide) b hbk h.symm)) (own_ne_blk (D7.out.own (Zs.r3 HZ5.out) fun b hbk hx => hx.elim (fun h => own_ne_blk (Zs.r3 HZ5.out) KZ5.out (by decide) b hbk h) (fun h => own_ne (Zs.r3 HZ5.out) OZ.out (by decide) b hbk h.symm)) K117.out (by decide)))).more fun b hb => hb.2
                   · exact (own_rd'' (C8.own (D7.out.own (Zs.r5 HZ5.out) fun b hbk hx => hx.elim (fun h => own_ne_blk (Zs.r5 HZ5.out) KZ5.out (by decide) b hbk h) (fun h => own_ne (Zs.r5 HZ5.out) OZ.out (by decide) b hbk h.symm)) (own_ne_blk (D7.out.own (Zs.r5 HZ5.out) fun b hbk hx => hx.elim (fun h => own_ne_blk (Zs.r5 HZ5.out) KZ5.out (by decide) b hbk h) (fun h => own_ne (Zs.r5 HZ5.out) OZ.out (by decide) b hbk h.symm)) K117.out (by decide)))).more fun b hb => hb.2
                   · have := (own_rd'' (C8.own OW7.out (own_ne_blk OW7.out K117.out (by decide)))).more fun b hb => hb.2
                     rw [show cs haC x.hazards ++ [.string ⟨t0.toArray⟩, .string ⟨t1.toArray⟩, .int .i64 t2, .int .i64 t3, .int .i64 t4] = cs haC (x.hazards ++ [⟨t0, t1, ⟨t2, t3, t4⟩⟩]) by rw [cs_append9]; simp [cs, haC]] at this
                     exact this
                 have B8 : Below w.heap.size w W8 := (BW5.out.trans (D7.out.below BW5.out.size fun k hk => by by_cases hlt : k < w.heap.size + 1; exact absurd hk (HNX.out k hlt); omega)).trans (C8.below (by have := BW5.out.size; omega) fun k hk => by have := H9l.out; have := Hw9.out; omega)
                 have hsub : (x.hazards.take j ++ x.hazards.drop j1).Sublist x.hazards := by rw [HJ1.out]; exact cut_sub _ _
                 have hwy : wrongX { x with hazards := x.hazards.take j ++ x.hazards.drop j1 } = okW := less_ok HOK.out rfl rfl rfl (List.Sublist.refl _) rfl (List.Sublist.refl _) hsub
                 have hwz : wrongX { x with hazards := x.hazards ++ [⟨t0, t1, ⟨t2, t3, t4⟩⟩] } = ⟨6, 6, (n : Int)⟩ := by rw [HNN.out]; exact less_haz HOK.out (by rw [← HNN.out]; exact hn60) HT.out
                 have hlx := HLT.out
                 exact ⟨{ x with hazards := x.hazards.take j ++ x.hazards.drop j1 }, { x with hazards := x.hazards ++ [⟨t0, t1, ⟨t2, t3, t4⟩⟩] }, { py with a6 := A4, c6 := d4 }, { pz with a6 := A6, c6 := d6 }, ⟨6, 6, (n : Int)⟩, Lib.hid KY8, Lib.hid KZ8, Lib.hid K118, Lib.hid HYF, Lib.hid HZF, Lib.hid hwy, Lib.hid hwz, Lib.hid ⟨(by have := hlx.l1; show x.stops.length ≤ 400; omega), (by have := hlx.l2; show x.paths.length ≤ 400; omega), (by have := hlx.l3; show x.doors.length ≤ 400; omega), (by have := hlx.l4; show x.routes.length ≤ 400; omega), (by have := hlx.l5; show x.trips.length ≤ 400; omega), Nat.le_trans hsub.length_le (by have := hlx.l6; omega), fun r hr => by have := hlx.lr r hr; omega⟩, Lib.hid ⟨(by have := hlx.l1; show x.stops.length ≤ 400; omega), (by have := hlx.l2; show x.paths.length ≤ 400; omega), (by have := hlx.l3; show x.doors.length ≤ 400; omega), (by have := hlx.l4; show x.routes.length ≤ 400; omega), (by have := hlx.l5; show x.trips.length ≤ 400; omega), (by have := hlx.l6; show (x.hazards ++ [_]).length ≤ 400; rw [List.length_append, List.length_singleton]; omega), fun r hr => by have := hlx.lr r hr; omega⟩, Lib.hid B8⟩
              · have hni : ¬ ((0 : Int) < (x.hazards.length : Int)) := by omega
                go_wp2_with fail
                go_meet
                exact ⟨x, x, py, pz, okW, KY, KZ, K11, HYX, HZX, HOKX, HOKX, HXL, HXL, BWc⟩
            · have sx : W2.cell? ⟨w.heap.size, 3, none⟩ = some (.slice p.a3 x.doors.length p.c3) := KXc.out.cell 3
              by_cases hn : 0 < x.doors.length
              · obtain ⟨n, hnn⟩ : ∃ n, n = x.doors.length := ⟨_, rfl⟩
                have HNN := Lib.hid hnn
                have hn60 : n ≤ 60 := by rw [hnn]; exact HLT.out.l3
                rw [← hnn] at sx hn
                have hcap : n ≤ p.c3 := by rw [hnn]; exact HCP.out.2.2.1
                clear hnn
                have hni : (0 : Int) < (n : Int) := by omega
                go_upto_region 13 with (go_at_call 26; refine (pick_any at_ n _ ha0 ha1 (by omega) (by omega)).mono ?_; rintro e w5 ⟨j, rfl, hj, rfl⟩; have HJ : Hid (j < n) := Lib.hid (by have := hj.out; omega); clear hj)
                have h1 : (j : Int) ≤ (n : Int) := by have := HJ.out; omega
                have h2 : ((j : Int) + 1) ≤ (n : Int) := by have := HJ.out; omega
                have KCX : Hid (∀ w', Ch (· = g9) W2 w' → w'.cell? ⟨w.heap.size, 3, none⟩ = some (.slice p.a3 n p.c3)) := Lib.hid (fun w' hc => by rw [HNN.out]; exact (hc.blk KXc.out (by have := Hw9.out; omega)).cell 3)
                clear sx
                refine wp_region_held_drew (S := fun w' => Hid (Ch (· = g9) W2 w')) (by kernel_rfl) ?_ (fun hHeld => ?_)
                · exact Lib.hid ((Ch.refl _ W2).drew)
                obtain ⟨j1, hj1⟩ : ∃ m, m = j + 1 := ⟨_, rfl⟩
                have HJ1 := Lib.hid hj1
                have e1 : (j : Int) + 1 = (j1 : Int) := by omega
                have hjc : j ≤ p.c3 := by have := HJ.out; omega
                have hjn : j1 ≤ n := by have := HJ.out; omega
                have hjn2 : (j1 : Int) ≤ (n : Int) := by omega
                have e2 : IntKind.i64.wrap (j1 : Int) = (j1 : Int) := by rw [IntKind.wrap_i64]; omega
                have e3 : (0 : Int) ≤ (j1 : Int) := by omega
                clear hj1
                obtain ⟨AR, hAR⟩ : ∃ A, (if p.c3 = j1 then p.a3 else Option.map (fun x => x.add (j1 * 7)) p.a3) = A := ⟨_, rfl⟩
                have HAR := Lib.hid hAR
                refine wpAnyH_take (i := 0) (v := ?vus33) rfl (by kernel_rfl) (by kernel_rfl) (by kernel_rfl) (fun _ _ _ h => h) (Or.inl ⟨by rfl, ?hyus33⟩) (by assumption) ?restus33
                case hyus33 => (intro w' hSw; have kc := KCX.out w' hSw.out; clear hSw; go_simp; try with_reducible rfl)
                simp only [Act.put, List.getElem_toArray, List.getElem_cons_zero, List.getElem_cons_succ, List.setIfInBounds_toArray, List.set_cons_zero, List.set_cons_succ]
                refine wpAnyH_take (i := 1) (v := ?vus34) rfl (by kernel_rfl) (by kernel_rfl) (by kernel_rfl) (fun _ _ _ h => h) (Or.inl ⟨by rfl, ?hyus34⟩) (by assumption) ?restus34
                case hyus34 => (intro w' hSw; have kc := KCX.out w' hSw.out; clear hSw; go_simp; try with_reducible rfl)
                simp only [Act.put, List.getElem_toArray, List.getElem_cons_zero, List.getElem_cons_succ, List.setIfInBounds_toArray, List.set_cons_zero, List.set_cons_succ]
                refine wpAnyH_take (i := 2) (v := ?vus35) rfl (by kernel_rfl) (by kernel_rfl) (by kernel_rfl) (fun _ _ _ h => h) (Or.inl ⟨by rfl, ?hyus35⟩) (by assumption) ?restus35
                case hyus35 => (intro w' hSw; have kc := KCX.out w' hSw.out; clear hSw; go_simp; try with_reducible rfl)
                simp only [Act.put, List.getElem_toArray, List.getElem_cons_zero, List.getElem_cons_succ, List.setIfInBounds_toArray, List.set_cons_zero, List.set_cons_succ]
                refine wpAnyH_take (i := 3) (v := ?vus36) rfl (by kernel_rfl) (by kernel_rfl) (by kernel_rfl) (fun _ _ _ h => h) (Or.inl ⟨by rfl, ?hyus36⟩) (by assumption) ?restus36
                case hyus36 => (intro w' hSw; have kc := KCX.out w' hSw.out; clear hSw; go_simp; try with_reducible rfl)
                simp only [Act.put, List.getElem_toArray, List.getElem_cons_zero, List.getElem_cons_succ, List.setIfInBounds_toArray, List.set_cons_zero, List.set_cons_succ]
                refine wpAnyH_take (i := 5) (v := ?vus37) rfl (by kernel_rfl) (by kernel_rfl) (by kernel_rfl) (fun _ _ _ h => h) (Or.inl ⟨by rfl, ?hyus37⟩) (by assumption) ?restus37
                case hyus37 => (intro w' hSw; have kc := KCX.out w' hSw.out; clear hSw; go_simp; try with_reducible rfl)
                simp only [Act.put, List.getElem_toArray, List.getElem_cons_zero, List.getElem_cons_succ, List.setIfInBounds_toArray, List.set_cons_zero, List.set_cons_succ]
                refine wpAnyH_take (i := 6) (v := ?vus38) rfl (by kernel_rfl) (by kernel_rfl) (by kernel_rfl) (fun _ _ _ h => h) (Or.inl ⟨by rfl, ?hyus38⟩) (by assumption) ?restus38
                case hyus38 => (intro w' hSw; have kc := KCX.out w' hSw.out; clear hSw; go_simp; try with_reducible rfl)
                simp only [Act.put, List.getElem_toArray, List.getElem_cons_zero, List.getElem_cons_succ, List.setIfInBounds_toArray, List.set_cons_zero, List.set_cons_succ]
                refine wpAnyH_take (i := 7) (v := ?vus39) rfl (by kernel_rfl) (by kernel_rfl) (by kernel_rfl) (fun _ _ _ h => h) (Or.inl ⟨by rfl, ?hyus39⟩) (by assumption) ?restus39
                case hyus39 => (intro w' hSw; have kc := KCX.out w' hSw.out; clear hSw; go_simp; try with_reducible rfl)
                simp only [Act.put, List.getElem_toArray, List.getElem_cons_zero, List.getElem_cons_succ, List.setIfInBounds_toArray, List.set_cons_zero, List.set_cons_succ]
                refine wpAnyH_take (i := 8) (v := ?vus40) rfl (by kernel_rfl) (by kernel_rfl) (by kernel_rfl) (fun _ _ _ h => h) (Or.inl ⟨by rfl, ?hyus40⟩) (by assumption) ?restus40
                case hyus40 => (intro w' hSw; have kc := KCX.out w' hSw.out; clear hSw; go_simp; try with_reducible rfl)
                simp only [Act.put, List.getElem_toArray, List.getElem_cons_zero, List.getElem_cons_succ, List.setIfInBounds_toArray, List.set_cons_zero, List.set_cons_succ]
                refine wpAnyH_take (i := 9) (v := ?vus41) rfl (by kernel_rfl) (by kernel_rfl) (by kernel_rfl) (fun _ _ _ h => h) (Or.inl ⟨by rfl, ?hyus41⟩) (by assumption) ?restus41
                case hyus41 => (intro w' hSw; have kc := KCX.out w' hSw.out; clear hSw; go_simp; try with_reducible rfl)
                simp only [Act.put, List.getElem_toArray, List.getElem_cons_zero, List.getElem_cons_succ, List.setIfInBounds_toArray, List.set_cons_zero, List.set_cons_succ]
                clear hAR
                have D0 := hHeld
                clear hHeld
                have b0 : Hid (Below W2.heap.size W2 (World.drew W2)) := Lib.hid (below_drew (Below.refl _ _))
                generalize World.drew W2 = v0 at *
                refine wpAnyH_ready (rs := [4]) (by kernel_rfl) (by simp) ?_
                refine AllReadyH.cons rfl (fun K hK => ?_) AllReadyH.nil
                go_simp
                have HRX := Lib.hid (Sh.r3 (HS.out.later (keep_trans BWc.out b0.out)))
                have hlen : (cs doC x.doors).length = n * 7 := by rw [cs_length doC 7 (fun _ => rfl), HNN.out]
                have HTK : Hid (cs doC (x.doors.take j) = (cs doC x.doors).take (j * 7)) := Lib.hid (cs_take9 doC 7 (fun _ => rfl) _ _)
                go_at_call 29
                refine (own_door v0 p.a3 j p.c3 (x.doors.take j) (Lib.hid (by rw [List.length_take, ← HNN.out]; have := HJ.out; omega)) (by have := HJ.out; omega) (by rw [HTK.out]; exact rd_take HRX.out _)).mono ?_
                rintro e' v3 ⟨A3, d3, rfl, hd3, hO, hb⟩
                have HO := hO
                have b3 : Hid (Below W2.heap.size W2 v3) := Lib.hid (keep_trans b0.out hb)
                have z0 : Hid (W2.heap.size ≤ v0.heap.size) := Lib.hid b0.out.size
                have z3 : Hid (v0.heap.size ≤ v3.heap.size) := Lib.hid hb.size
                have D3 : Hid (Ch (· = g9) W2 v3) := Lib.hid (Ch.of_below b3.out)
                clear hb hO
                dsimp only
                refine hK.out _ _ D3 (fun hHeld => ?_)
                clear hK K hHeld
                refine wpAnyH_ready (rs := [10]) (by kernel_rfl) (by simp) ?_
                refine AllReadyH.cons rfl (fun K hK => ?_) AllReadyH.nil
                have HRX3 := Lib.hid (Sh.r3 (HS.out.later (keep_trans BWc.out b3.out)))
                have hlen2 : Hid ((cs doC (x.doors.drop j1)).length = (n - j1) * 7) := Lib.hid (by rw [cs_length doC 7 (fun _ => rfl), List.length_drop, HNN.out])
                have HRD : Hid (Rd v3 (· < v3.heap.size) AR (cs doC (x.doors.drop j1))) := Lib.hid (by rw [← HAR.out, cs_drop9 doC 7 (fun _ => rfl)]; exact HRX3.out.drop (fun hh => by rw [hlen] at hh; omega))
                refine step_append_g (by rfl) (.tmp 52) (.tmp 57) 39 (by rfl) v0.heap.size 55 _ 7 80 Tryz.underlying39 info_Door rfl (by omega) (by omega) (.slice A3 j d3) j (cs doC (x.doors.take j)) (by rfl) HO _ _ (n - j1) (p.c3 - j1) (cs doC (x.doors.drop j1)) (by rfl) hlen2 HRD (cs_each do_one _) (by omega) z3.out ?_
                intro v' v4 hown hgrow hob
                obtain ⟨A4, d4, rfl, hd4, -⟩ := own_form hown.out
                have b4 : Hid (Below W2.heap.size W2 v4) := Lib.hid (b3.out.trans ((Ch.of_grown (X := fun b => some b = (Value.slice A3 j d3).ownBlock) hgrow.out fun k e => e).below (by have := z0.out; have := z3.out; omega) fun k e => by have := (HO.out.lt k e.symm).1; have := z0.out; omega))
                have D4 : Hid (Ch (· = g9) W2 v4) := Lib.hid (Ch.of_below b4.out)
                refine hK.out _ _ D4 (fun hHeld => ?_)
                clear hK K hHeld
                refine wpAnyH_take (i := 11) (v := ?vus42) rfl (by kernel_rfl) (by kernel_rfl) (by kernel_rfl) (fun _ _ _ h => h) (Or.inl ⟨by rfl, ?hyus42⟩) (by assumption) ?restus42
                case hyus42 => (intro w' hSw; clear hSw; go_simp; try with_reducible rfl)
                simp only [Act.put, List.getElem_toArray, List.getElem_cons_zero, List.getElem_cons_succ, List.setIfInBounds_toArray, List.set_cons_zero, List.set_cons_succ]
                refine wpAnyH_ready (rs := [12]) (by kernel_rfl) (by simp) ?_
                refine AllReadyH.cons rfl (fun K hK => ?_) AllReadyH.nil
                have KY4 := Lib.hid (KY.out.after b4.out)
                have qq : v4.cell? ⟨g9, 3, none⟩ = some (.slice py.a3 x.doors.length py.c3) := KY4.out.cell 3
                have qf : v4.frozen? ⟨g9, 3, none⟩ = false := KY4.out.frozen 3
                go_simp
                clear qq qf
                obtain ⟨W5, hW5⟩ : ∃ W, W = v4.setCell ⟨g9, 3, none⟩ (.slice A4 (j + (n - j1)) d4) := ⟨_, rfl⟩
                have C5 : Hid (Ch (· = g9) v4 W5) := Lib.hid (by rw [hW5]; exact ch_set v4 g9 3 _)
                have KY5 : Hid (Blk W5 g9 44 [.int .i64 x.horizon, .slice py.a1 x.stops.length py.c1, .slice py.a2 x.paths.length py.c2, .slice A4 (j + (n - j1)) d4, .slice py.a4 x.routes.length py.c4, .slice py.a5 x.trips.length py.c5, .slice py.a6 x.hazards.length py.c6]) := Lib.hid (by rw [hW5]; exact KY4.out.set_ 3 _)
                have D5 : Hid (Ch (· = g9) W2 W5) := Lib.hid (D4.out.trans C5.out)
                rw [← hW5]
                clear hW5
                have B5s : Hid (W2.heap.size ≤ W5.heap.size) := Lib.hid D5.out.size
                refine hK.out _ _ D5 (fun hHeld => ?_)
                clear hK K hHeld
                refine wpAnyH_done (by kernel_rfl) ?_ _
                have HNEW : Hid (Rd W5 (fun b => W2.heap.size ≤ b ∧ b < W5.heap.size) A4 (cs doC (x.doors.take j ++ x.doors.drop j1))) := Lib.hid (by rw [cs_append9]; exact (Rd.keep (own_rd'' hown.out) fun b hb => C5.out.block b hb.2 (by have := KY.out.lt; have := z0.out; omega)).more fun b hb => ⟨by have := z0.out; omega, Nat.lt_of_lt_of_le hb.2 C5.out.size⟩)
                have HYL : Hid (j + (n - j1) = (x.doors.take j ++ x.doors.drop j1).length) := Lib.hid (by rw [List.length_append, List.length_take, List.length_drop, ← HNN.out]; have := HJ.out; have := HJ1.out; omega)
                have KX5 := Lib.hid (D5.out.blk KXc.out (by have := Hw9.out; omega))
                have KZ5 := Lib.hid (D5.out.blk KZ.out (by have := Hne.out; omega))
                have K115 := Lib.hid (D5.out.blk K11.out (by have := H9l.out; omega))
                have HY5 := Lib.hid (HY.out.keep fun b hk => D5.out.block b (by have := HZ.out.hi_; have := HZL.out; omega) (by omega))
                have HZ5 := Lib.hid (HZ.out.box KY.out D5.out Hg9.out)
                have BW5 : Hid (Below w.heap.size w W5) := Lib.hid (BWc.out.trans (D5.out.below BWc.out.size fun k hk => by have := Hw9.out; omega))
                clear KCX hlen HTK HRX hcap e1 e2 e3 hjn2 h1 h2 HRX3 hlen2 HRD hgrow hob hown HO hd3 hd4 D0 D3 D4 b0 b3 b4 z0 z3 KY4 C5 hjc hjn
                obtain ⟨t, ht⟩ : ∃ t, x.doors[j]? = some t := ⟨_, List.getElem?_eq_getElem (by rw [← HNN.out]; exact HJ.out)⟩
                have HT := Lib.hid ht
                obtain ⟨ad, e2, hSa, ga0, gaj⟩ := rd_at 7 (fun _ => rfl) (by omega) (Sh.r3 HS.out) ht
                have hab : (ad.add (j * 7)).block < w.heap.size := by rw [block_of_add]; exact hSa
                obtain ⟨t0, t1, t2, t3, ⟨t4, t5, t6⟩⟩ := t
                have ta0 : w.cell? (ad.add (j * 7)) = some (.string ⟨t0.toArray⟩) := ga0
                have ta1 : w.cell? ⟨(ad.add (j * 7)).block, (ad.add (j * 7)).off + 1, none⟩ = some (.string ⟨t1.toArray⟩) := (gaj 1 (by omega)).resolve_right (by omega)
                have ta2 : w.cell? ⟨(ad.add (j * 7)).block, (ad.add (j * 7)).off + 2, none⟩ = some (.string ⟨t2.toArray⟩) := (gaj 2 (by omega)).resolve_right (by omega)
                have ta3 : w.cell? ⟨(ad.add (j * 7)).block, (ad.add (j * 7)).off + 3, none⟩ = some (.int .i64 t3) := (gaj 3 (by omega)).resolve_right (by omega)
                have ta4 : w.cell? ⟨(ad.add (j * 7)).block, (ad.add (j * 7)).off + 4, none⟩ = some (.int .i64 t4) := (gaj 4 (by omega)).resolve_right (by omega)
                have ta5 : w.cell? ⟨(ad.add (j * 7)).block, (ad.add (j * 7)).off + 5, none⟩ = some (.int .i64 t5) := (gaj 5 (by omega)).resolve_right (by omega)
                have ta6 : w.cell? ⟨(ad.add (j * 7)).block, (ad.add (j * 7)).off + 6, none⟩ = some (.int .i64 t6) := (gaj 6 (by omega)).resolve_right (by omega)
                have OZ := Lib.hid (HZ5.out.r3)
                have HOL : Hid (∀ k, some k = (Value.slice pz.a3 x.doors.length pz.c3).ownBlock → lo < k) := Lib.hid fun k hk => by have := (OZ.out.lt k hk.symm).1; omega
                have BWX : Hid (∀ k, k < w.heap.size → W5.heap[k]? = w.heap[k]?) := Lib.hid fun k hk => BW5.out.block k hk
                have KC2 : Hid (∀ w', Ch (fun k => k = g10 ∨ some k = (Value.slice pz.a3 x.doors.length pz.c3).ownBlock) W5 w' → w'.cell? ⟨w.heap.size, 3, none⟩ = some (.slice (some ad) n p.c3) ∧ w'.cell? (ad.add (j * 7)) = some (.string ⟨t0.toArray⟩) ∧ w'.cell? ⟨(ad.add (j * 7)).block, (ad.add (j * 7)).off + 1, none⟩ = some (.string ⟨t1.toArray⟩) ∧ w'.cell? ⟨(ad.add (j * 7)).block, (ad.add (j * 7)).off + 2, none⟩ = some (.string ⟨t2.toArray⟩) ∧ w'.cell? ⟨(ad.add (j * 7)).block, (ad.add (j * 7)).off + 3, none⟩ = some (.int .i64 t3) ∧ w'.cell? ⟨(ad.add (j * 7)).block, (ad.add (j * 7)).off + 4, none⟩ = some (.int .i64 t4) ∧ w'.cell? ⟨(ad.add (j * 7)).block, (ad.add (j * 7)).off + 5, none⟩ = some (.int .i64 t5) ∧ w'.cell? ⟨(ad.add (j * 7)).block, (ad.add (j * 7)).off + 6, none⟩ = some (.int .i64 t6)) := Lib.hid (fun w' hc => by
                  have hx1 := (hc.blk KX5.out (fun h => h.elim (fun h => by have := Hw10.out; omega) (fun h => by have := HOL.out _ h; have := HWLO.out; omega))).cell 3
                  rw [← e2, HNN.out]
                  have hk : ∀ a : Addr, a.block < w.heap.size → w'.cell? a = w.cell? a := fun a ha => (World.cell?_of_block (hc.block _ (by have := BW5.out.size; omega) (fun h => h.elim (fun h => by have := Hw10.out; omega) (fun h => by have := HOL.out _ h; have := HWLO.out; omega)))).trans (World.cell?_of_block (BWX.out _ ha))
                  exact ⟨hx1, (hk (ad.add (j * 7)) hab).trans ta0, (hk ⟨(ad.add (j * 7)).block, (ad.add (j * 7)).off + 1, none⟩ hab).trans ta1, (hk ⟨(ad.add (j * 7)).block, (ad.add (j * 7)).off + 2, none⟩ hab).trans ta2, (hk ⟨(ad.add (j * 7)).block, (ad.add (j * 7)).off + 3, none⟩ hab).trans ta3, (hk ⟨(ad.add (j * 7)).block, (ad.add (j * 7)).off + 4, none⟩ hab).trans ta4, (hk ⟨(ad.add (j * 7)).block, (ad.add (j * 7)).off + 5, none⟩ hab).trans ta5, (hk ⟨(ad.add (j * 7)).block, (ad.add (j * 7)).off + 6, none⟩ hab).trans ta6⟩)
                clear e2 hSa ga0 gaj ta0 ta1 ta2 ta3 ta4 ta5 ta6
                have hjn3 : (j : Int) < (n : Int) := by have := HJ.out; omega
                have hj0 : ¬ ((j : Int) < 0) := by omega
                go_upto_region 14 with fail
                refine wp_region_held_drew (S := fun w' => Hid (Ch (fun k => k = g10 ∨ some k = (Value.slice pz.a3 x.doors.length pz.c3).ownBlock) W5 w')) (by kernel_rfl) ?_ (fun hHeld => ?_)
                · exact Lib.hid ((Ch.refl _ W5).drew)
                refine wpAnyH_take (i := 0) (v := ?vus43) rfl (by kernel_rfl) (by kernel_rfl) (by kernel_rfl) (fun _ _ _ h => h) (Or.inl ⟨by rfl, ?hyus43⟩) (by assumption) ?restus43
                case hyus43 => (intro w' hSw; obtain ⟨kk0, kk1, kk2, kk3, kk4, kk5, kk6, kk7⟩ := KC2.out w' hSw.out; clear hSw; go_simp; try with_reducible rfl)
                simp only [Act.put, List.getElem_toArray, List.getElem_cons_zero, List.getElem_cons_succ, List.setIfInBounds_toArray, List.set_cons_zero, List.set_cons_succ]
                refine wpAnyH_take (i := 2) (v := ?vus44) rfl (by kernel_rfl) (by kernel_rfl) (by kernel_rfl) (fun _ _ _ h => h) (Or.inl ⟨by rfl, ?hyus44⟩) (by assumption) ?restus44
                case hyus44 => (intro w' hSw; obtain ⟨kk0, kk1, kk2, kk3, kk4, kk5, kk6, kk7⟩ := KC2.out w' hSw.out; clear hSw; go_simp; try with_reducible rfl)
                simp only [Act.put, List.getElem_toArray, List.getElem_cons_zero, List.getElem_cons_succ, List.setIfInBounds_toArray, List.set_cons_zero, List.set_cons_succ]
                refine wpAnyH_take (i := 3) (v := ?vus45) rfl (by kernel_rfl) (by kernel_rfl) (by kernel_rfl) (fun _ _ _ h => h) (Or.inl ⟨by rfl, ?hyus45⟩) (by assumption) ?restus45
                case hyus45 => (intro w' hSw; obtain ⟨kk0, kk1, kk2, kk3, kk4, kk5, kk6, kk7⟩ := KC2.out w' hSw.out; clear hSw; go_simp; try with_reducible rfl)
                simp only [Act.put, List.getElem_toArray, List.getElem_cons_zero, List.getElem_cons_succ, List.setIfInBounds_toArray, List.set_cons_zero, List.set_cons_succ]
                refine wpAnyH_take (i := 4) (v := ?vus46) rfl (by kernel_rfl) (by kernel_rfl) (by kernel_rfl) (fun _ _ _ h => h) (Or.inl ⟨by rfl, ?hyus46⟩) (by assumption) ?restus46
                case hyus46 => (intro w' hSw; obtain ⟨kk0, kk1, kk2, kk3, kk4, kk5, kk6, kk7⟩ := KC2.out w' hSw.out; clear hSw; go_simp; try with_reducible rfl)
                simp only [Act.put, List.getElem_toArray, List.getElem_cons_zero, List.getElem_cons_succ, List.setIfInBounds_toArray, List.set_cons_zero, List.set_cons_succ]
                refine wpAnyH_take (i := 5) (v := ?vus47) rfl (by kernel_rfl) (by kernel_rfl) (by kernel_rfl) (fun _ _ _ h => h) (Or.inl ⟨by rfl, ?hyus47⟩) (by assumption) ?restus47
                case hyus47 => (intro w' hSw; obtain ⟨kk0, kk1, kk2, kk3, kk4, kk5, kk6, kk7⟩ := KC2.out w' hSw.out; clear hSw; go_simp; try with_reducible rfl)
                simp only [Act.put, List.getElem_toArray, List.getElem_cons_zero, List.getElem_cons_succ, List.setIfInBounds_toArray, List.set_cons_zero, List.set_cons_succ]
                refine wpAnyH_take (i := 6) (v := ?vus48) rfl (by kernel_rfl) (by kernel_rfl) (by kernel_rfl) (fun _ _ _ h => h) (Or.inl ⟨by rfl, ?hyus48⟩) (by assumption) ?restus48
                case hyus48 => (intro w' hSw; obtain ⟨kk0, kk1, kk2, kk3, kk4, kk5, kk6, kk7⟩ := KC2.out w' hSw.out; clear hSw; go_simp; try with_reducible rfl)
                simp only [Act.put, List.getElem_toArray, List.getElem_cons_zero, List.getElem_cons_succ, List.setIfInBounds_toArray, List.set_cons_zero, List.set_cons_succ]
                have D0 := hHeld
                clear hHeld
                have BB0 : Hid (Below W5.heap.size W5 (World.drew W5)) := Lib.hid (below_drew (Below.refl _ _))
                generalize World.drew W5 = vn at *
                have DD := D0
                have BB := BB0
                clear D0 BB0
                rename World => vv
                refine wpAnyH_ready (rs := [1, 7]) (by kernel_rfl) (by simp) ?_
                refine AllReadyH.cons rfl (fun K hK => ?_) (AllReadyH.cons rfl (fun K hK => ?_) AllReadyH.nil)
                focus
                 have q4 : vv.cell? ⟨g10, 3, none⟩ = some (.slice pz.a3 x.doors.length pz.c3) := (KZ5.out.after BB.out).cell 3
                 go_simp
                 clear q4
                 refine hK.out _ _ DD (fun hHeld => ?_)
                 clear hK K hHeld
                 refine wpAnyH_ready (rs := [7]) (by kernel_rfl) (by simp) ?_
                 refine AllReadyH.cons rfl (fun K hK => ?_) AllReadyH.nil
                 focus
                  go_simp
                  have DN := Lib.hid (DD.out.alloc (.cells #[.string ⟨t0.toArray⟩, .string ⟨t1.toArray⟩, .string ⟨t2.toArray⟩, .int .i64 t3, .int .i64 t4, .int .i64 t5, .int .i64 t6] 55))
                  have BN := Lib.hid (BB.out.alloc BB.out.size (.cells #[.string ⟨t0.toArray⟩, .string ⟨t1.toArray⟩, .string ⟨t2.toArray⟩, .int .i64 t3, .int .i64 t4, .int .i64 t5, .int .i64 t6] 55))
                  have HLI : Hid (Rd (vv.alloc (.cells #[.string ⟨t0.toArray⟩, .string ⟨t1.toArray⟩, .string ⟨t2.toArray⟩, .int .i64 t3, .int .i64 t4, .int .i64 t5, .int .i64 t6] 55)) (· < (vv.alloc (.cells #[.string ⟨t0.toArray⟩, .string ⟨t1.toArray⟩, .string ⟨t2.toArray⟩, .int .i64 t3, .int .i64 t4, .int .i64 t5, .int .i64 t6] 55)).heap.size) (some ⟨vv.heap.size, 0, none⟩) [.string ⟨t0.toArray⟩, .string ⟨t1.toArray⟩, .string ⟨t2.toArray⟩, .int .i64 t3, .int .i64 t4, .int .i64 t5, .int .i64 t6]) := Lib.hid (Sh.lit_rd _ _ _ _ rfl)
                  generalize vv.alloc (.cells #[.string ⟨t0.toArray⟩, .string ⟨t1.toArray⟩, .string ⟨t2.toArray⟩, .int .i64 t3, .int .i64 t4, .int .i64 t5, .int .i64 t6] 55) = vn at *
                  refine hK.out _ _ DN (fun hHeld => ?_)
                  clear hK K hHeld
                  rename World => vv
                  have DD := DN
                  have BB := BN
                  clear DN BN
                 rotate_left 1
                rotate_left 1
                focus
                 go_simp
                 have DN := Lib.hid (DD.out.alloc (.cells #[.string ⟨t0.toArray⟩, .string ⟨t1.toArray⟩, .string ⟨t2.toArray⟩, .int .i64 t3, .int .i64 t4, .int .i64 t5, .int .i64 t6] 55))
                 have BN := Lib.hid (BB.out.alloc BB.out.size (.cells #[.string ⟨t0.toArray⟩, .string ⟨t1.toArray⟩, .string ⟨t2.toArray⟩, .int .i64 t3, .int .i64 t4, .int .i64 t5, .int .i64 t6] 55))
                 have HLI : Hid (Rd (vv.alloc (.cells #[.string ⟨t0.toArray⟩, .string ⟨t1.toArray⟩, .string ⟨t2.toArray⟩, .int .i64 t3, .int .i64 t4, .int .i64 t5, .int .i64 t6] 55)) (· < (vv.alloc (.cells #[.string ⟨t0.toArray⟩, .string ⟨t1.toArray⟩, .string ⟨t2.toArray⟩, .int .i64 t3, .int .i64 t4, .int .i64 t5, .int .i64 t6] 55)).heap.size) (some ⟨vv.heap.size, 0, none⟩) [.string ⟨t0.toArray⟩, .string ⟨t1.toArray⟩, .string ⟨t2.toArray⟩, .int .i64 t3, .int .i64 t4, .int .i64 t5, .int .i64 t6]) := Lib.hid (Sh.lit_rd _ _ _ _ rfl)
                 generalize vv.alloc (.cells #[.string ⟨t0.toArray⟩, .string ⟨t1.toArray⟩, .string ⟨t2.toArray⟩, .int .i64 t3, .int .i64 t4, .int .i64 t5, .int .i64 t6] 55) = vn at *
                 refine hK.out _ _ DN (fun hHeld => ?_)
                 clear hK K hHeld
                 rename World => vv
                 have DD := DN
                 have BB := BN
                 clear DN BN
                 refine wpAnyH_ready (rs := [1]) (by kernel_rfl) (by simp) ?_
                 refine AllReadyH.cons rfl (fun K hK => ?_) AllReadyH.nil
                 focus
                  have q4 : vv.cell? ⟨g10, 3, none⟩ = some (.slice pz.a3 x.doors.length pz.c3) := (KZ5.out.after BB.out).cell 3
                  go_simp
                  clear q4
                  refine hK.out _ _ DD (fun hHeld => ?_)
                  clear hK K hHeld
                 rotate_left 1
                rotate_left 1
                all_goals
                 refine wpAnyH_ready (rs := [8]) (by kernel_rfl) (by simp) ?_
                 refine AllReadyH.cons rfl (fun K hK => ?_) AllReadyH.nil
                 refine step_append_g (by rfl) (.tmp 61) (.tmp 67) 39 (by rfl) lo 55 _ 7 80 Tryz.underlying39 info_Door rfl (by omega) (by omega) (.slice pz.a3 x.doors.length pz.c3) x.doors.length (cs doC x.doors) (by rfl) (Lib.hid (own_base (own_after OZ.out BB.out) (Nat.le_succ _))) _ _ 1 1 _ (by rfl) (Lib.hid rfl) HLI (by simp [Value.oneCell']) (by have := HLT.out.l3; omega) (by have := BB.out.size; have := HZ5.out.hi_; have := HZL.out; omega) ?_
                 intro v' v6 hown hgrow hob
                 obtain ⟨A6, d6, rfl, hd6, -⟩ := own_form hown.out
                 have D6 : Hid (Ch (fun k => k = g10 ∨ some k = (Value.slice pz.a3 x.doors.length pz.c3).ownBlock) W5 v6) := Lib.hid (DD.out.trans' (Ch.of_grown (X := fun k => k = g10 ∨ some k = (Value.slice pz.a3 x.doors.length pz.c3).ownBlock) hgrow.out fun k e => .inr e) (fun _ _ h => h))
                 refine hK.out _ _ D6 (fun hHeld => ?_)
                 clear hK K hHeld
                 refine wpAnyH_take (i := 9) (v := .pointer (some ⟨g10, 3, none⟩)) rfl (by kernel_rfl) (by kernel_rfl) (by kernel_rfl) (fun _ _ _ h => h) (Or.inl ⟨by rfl, fun w' hSw => by (clear hSw; go_simp; try with_reducible rfl)⟩) (by assumption) ?_
                 simp only [Act.put, List.getElem_toArray, List.getElem_cons_zero, List.getElem_cons_succ, List.setIfInBounds_toArray, List.set_cons_zero, List.set_cons_succ]
                 refine wpAnyH_ready (rs := [10]) (by kernel_rfl) (by simp) ?_
                 refine AllReadyH.cons rfl (fun K hK => ?_) AllReadyH.nil
                 have KZ6 : Hid (Blk v6 g10 44 [.int .i64 x.horizon, .slice pz.a1 x.stops.length pz.c1, .slice pz.a2 x.paths.length pz.c2, .slice pz.a3 x.doors.length pz.c3, .slice pz.a4 x.routes.length pz.c4, .slice pz.a5 x.trips.length pz.c5, .slice pz.a6 x.hazards.length pz.c6]) := Lib.hid ((KZ5.out.after BB.out).grown hgrow.out (fun e => own_ne_blk OZ.out KZ5.out (by decide) g10 e.symm rfl))
                 have qq : v6.cell? ⟨g10, 3, none⟩ = some (.slice pz.a3 x.doors.length pz.c3) := KZ6.out.cell 3
                 have qf : v6.frozen? ⟨g10, 3, none⟩ = false := KZ6.out.frozen 3
                 go_simp
                 clear qq qf
                 obtain ⟨W7, hW7⟩ : ∃ W, W = v6.setCell ⟨g10, 3, none⟩ (.slice A6 (x.doors.length + 1) d6) := ⟨_, rfl⟩
                 have C7 : Hid (Ch (· = g10) v6 W7) := Lib.hid (by rw [hW7]; exact ch_set v6 g10 3 _)
                 have KZ7 : Hid (Blk W7 g10 44 [.int .i64 x.horizon, .slice pz.a1 x.stops.length pz.c1, .slice pz.a2 x.paths.length pz.c2, .slice A6 (x.doors.length + 1) d6, .slice pz.a4 x.routes.length pz.c4, .slice pz.a5 x.trips.length pz.c5, .slice pz.a6 x.hazards.length pz.c6]) := Lib.hid (by rw [hW7]; exact KZ6.out.set_ 3 _)
                 rw [← hW7]
                 clear hW7
                 have D7 : Hid (Ch (fun k => k = g10 ∨ some k = (Value.slice pz.a3 x.doors.length pz.c3).ownBlock) W5 W7) := Lib.hid (D6.out.trans' (C7.out.mono (Y := fun k => k = g10 ∨ some k = (Value.slice pz.a3 x.doors.length pz.c3).ownBlock) fun _ _ h => .inl h) (fun _ _ h => h))
                 have OW7 : Hid (W7.ownsRow lo 55 7 (.slice A6 (x.doors.length + 1) d6) (x.doors.length + 1) (cs doC x.doors ++ [.string ⟨t0.toArray⟩, .string ⟨t1.toArray⟩, .string ⟨t2.toArray⟩, .int .i64 t3, .int .i64 t4, .int .i64 t5, .int .i64 t6])) := Lib.hid (C7.out.own hown.out (own_ne_blk hown.out KZ6.out (by decide)))
                 refine hK.out _ _ D7 (fun hHeld => ?_)
                 clear hK K hHeld
                 refine wpAnyH_done (by kernel_rfl) ?_ _
                 have HNX : Hid (∀ k, k < w.heap.size + 1 → ¬ (k = g10 ∨ some k = (Value.slice pz.a3 x.doors.length pz.c3).ownBlock)) := Lib.hid (fun k hk h => h.elim (fun h => by have := Hw10.out; omega) (fun h => by have := HOL.out _ h; have := HWLO.out; omega))
                 have KX7 := Lib.hid (D7.out.blk KX5.out (HNX.out _ (Nat.lt_succ_self _)))
                 have sx : W7.cell? ⟨w.heap.size, 3, none⟩ = some (.slice p.a3 n p.c3) := by rw [HNN.out]; exact KX7.out.cell 3
                 have K117 := Lib.hid (D7.out.blk K115.out (fun h => h.elim (fun h => by have := H10l.out; omega) (fun h => own_ne_blk OZ.out K115.out (by decide) _ h.symm rfl)))
                 have q0 : W7.cell? ⟨g11, 0, none⟩ = some (.int .i64 0) := K117.out.cell 0
                 have q1 : W7.cell? ⟨g11, 1, none⟩ = some (.int .i64 0) := K117.out.cell 1
                 have q2 : W7.cell? ⟨g11, 2, none⟩ = some (.int .i64 0) := K117.out.cell 2
                 have qf : ∀ q, W7.frozen? ⟨g11, q, none⟩ = false := fun q => K117.out.frozen q
                 have KY7 := Lib.hid (D7.out.blk KY5.out (fun h => h.elim (fun h => Hne.out h) (fun h => own_ne_blk OZ.out KY5.out (by decide) _ h.symm rfl)))
                 go_wp2_with fail
                 go_meet
                 show LsMid w g9 g10 g11 (sto3 W7 g11 (.int .i64 6) (.int .i64 3) (.int .i64 (n : Int)))
                 have C8 : Ch (· = g11) W7 (sto3 W7 g11 (.int .i64 6) (.int .i64 3) (.int .i64 (n : Int))) := sto3_ch _ _ _ _ _
                 have K118 : Blk (sto3 W7 g11 (.int .i64 6) (.int .i64 3) (.int .i64 (n : Int))) g11 35 [.int .i64 6, .int .i64 3, .int .i64 (n : Int)] := sto3_blk K117.out _ _ _
                 generalize (sto3 W7 g11 (.int .i64 6) (.int .i64 3) (.int .i64 (n : Int))) = W8 at *
                 have KY8 := C8.blk KY7.out (by have := H9l.out; omega)
                 rw [HYL.out] at KY8
                 have KZ8 := C8.blk KZ7.out (by have := H10l.out; omega)
                 rw [show x.doors.length + 1 = (x.doors ++ [(⟨t0, t1, t2, t3, ⟨t4, t5, t6⟩⟩ : DoorM)]).length by simp] at KZ8
                 have hz8 : W7.heap.size ≤ W8.heap.size := C8.size
                 have hz7 : W5.heap.size ≤ W7.heap.size := D7.out.size
                 have hz5 := B5s.out
                 have hz2 := HW2S.out
                 have hhi := HZ.out.hi_
                 have hzl := HZL.out
                 have hg11 := HG11.out
                 have hg11h := HG11H.out
                 have keepY : ∀ b, (b ≠ g9 ∧ b ≠ g10 ∧ b < lo) → W8.heap[b]? = W5.heap[b]? := fun b hb => (C8.block b (by omega) (by omega)).trans (D7.out.block b (by omega) (fun h => h.elim (fun h => hb.2.1 h) (fun h => by have := HOL.out _ h; omega)))
                 have keepN : ∀ b, (W2.heap.size ≤ b ∧ b < W5.heap.size) → W8.heap[b]? = W5.heap[b]? := fun b hb => (C8.block b (by omega) (by omega)).trans (D7.out.block b hb.2 (fun h => h.elim (fun h => by have := H10l.out; omega) (fun h => by have := ((Zs.r3 HZ.out).lt b h.symm).2; omega)))
                 have HYF : Sh W8 (· < W8.heap.size) { x with doors := x.doors.take j ++ x.doors.drop j1 } { py with a3 := A4, c3 := d4 } := by
                   obtain ⟨c4, h4, h4'⟩ := HY5.out.r4
                   exact ⟨(Rd.keep (Sh.r1 HY5.out) keepY).more fun b hb => by omega, (Rd.keep (Sh.r2 HY5.out) keepY).more fun b hb => by omega, (Rd.keep HNEW.out keepN).more fun b hb => by omega, ⟨c4, (Rd.keep h4 keepY).more fun b hb => by omega, (h4'.keep keepY).more fun b hb => by omega⟩, (Rd.keep (Sh.r5 HY5.out) keepY).more fun b hb => by omega, (Rd.keep (Sh.r6 HY5.out) keepY).more fun b hb => by omega⟩
                 have HZF : Sh W8 (· < W8.heap.size) { x with doors := x.doors ++ [⟨t0, t1, t2, t3, ⟨t4, t5, t6⟩⟩] } { pz with a3 := A6, c3 := d6 } := by
                   obtain ⟨c4, h4, h4'⟩ := HZ5.out.r4
                   have k4 := h4'.keep fun b hb => (C8.block b (by omega) (by omega)).trans (D7.out.block b (by omega) (fun h => h.elim (fun h => by have := Hg10.out; omega) (fun h => hb.2.2 (.slice pz.a3 x.doors.length pz.c3) (by simp) h.symm)))
                   refine ⟨(own_rd'' (C8.own (D7.out.own (Zs.r1 HZ5.out) fun b hbk hx => hx.elim (fun h => own_ne_blk (Zs.r1 HZ5.out) KZ5.out (by decide) b hbk h) (fun h => own_ne (Zs.r1 HZ5.out) OZ.out (by decide) b hbk h.symm)) (own_ne_blk (D7.out.own (Zs.r1 HZ5.out) fun b hbk hx => hx.elim (fun h => own_ne_blk (Zs.r1 HZ5.out) KZ5.out (by decide) b hbk h) (fun h => own_ne (Zs.r1 HZ5.out) OZ.out (by decide) b hbk h.symm)) K117.out (by decide)))).more fun b hb => hb.2, (own_rd'' (C8.own (D7.out.own (Zs.r2 HZ5.out) fun b hbk hx => hx.elim (fun h => own_ne_blk (Zs.r2 HZ5.out) KZ5.out (by decide) b hbk h) (fun h => own_ne (Zs.r2 HZ5.out) OZ.out (by decide) b hbk h.symm)) (own_ne_blk (D7.out.own (Zs.r2 HZ5.out) fun b hbk hx => hx.elim (fun h => own_ne_blk (Zs.r2 HZ5.out) KZ5.out (by decide) b hbk h) (fun h => own_ne (Zs.r2 HZ5.out) OZ.out (by decide) b hbk h.symm)) K117.out (by decide)))).more fun b hb => hb.2, ?_, ⟨c4, (own_rd'' (C8.own (D7.out.own h4 fun b hbk hx => hx.elim (fun h => own_ne_blk h4 KZ5.out (by decide) b hbk h) (fun h => own_ne h4 OZ.out (by decide) b hbk h.symm)) (own_ne_blk (D7.out.own h4 fun b hbk hx => hx.elim (fun h => own_ne_blk h4 KZ5.out (by decide) b hbk h) (fun h => own_ne h4 OZ.out (by decide) b hbk h.symm)) K117.out (by decide)))).more fun b hb => hb.2, k4.more fun b hb => by omega⟩, ?_, ?_⟩
                   · have := (own_rd'' (C8.own OW7.out (own_ne_blk OW7.out K117.out (by decide)))).more fun b hb => hb.2
                     rw [show cs doC x.doors ++ [.string ⟨t0.toArray⟩, .string ⟨t1.toArray⟩, .string ⟨t2.toArray⟩, .int .i64 t3, .int .i64 t4, .int .i64 t5, .int .i64 t6] = cs doC (x.doors ++ [⟨t0, t1, t2, t3, ⟨t4, t5, t6⟩⟩]) by rw [cs_append9]; simp [cs, doC]] at this
                     exact this
                   · exact (own_rd'' (C8.own (D7.out.own (Zs.r5 HZ5.out) fun b hbk hx => hx.elim (fun h => own_ne_blk (Zs.r5 HZ5.out) KZ5.out (by decide) b hbk h) (fun h => own_ne (Zs.r5 HZ5.out) OZ.out (by decide) b hbk h.symm)) (own_ne_blk (D7.out.own (Zs.r5 HZ5.out) fun b hbk hx => hx.elim (fun h => own_ne_blk (Zs.r5 HZ5.out) KZ5.out (by decide) b hbk h) (fun h => own_ne (Zs.r5 HZ5.out) OZ.out (by decide) b hbk h.symm)) K117.out (by decide)))).more fun b hb => hb.2
                   · exact (own_rd'' (C8.own (D7.out.own (Zs.r6 HZ5.out) fun b hbk hx => hx.elim (fun h => own_ne_blk (Zs.r6 HZ5.out) KZ5.out (by decide) b hbk h) (fun h => own_ne (Zs.r6 HZ5.out) OZ.out (by decide) b hbk h.symm)) (own_ne_blk (D7.out.own (Zs.r6 HZ5.out) fun b hbk hx => hx.elim (fun h => own_ne_blk (Zs.r6 HZ5.out) KZ5.out (by decide) b hbk h) (fun h => own_ne (Zs.r6 HZ5.out) OZ.out (by decide) b hbk h.symm)) K117.out (by decide)))).more fun b hb => hb.2
                 have B8 : Below w.heap.size w W8 := (BW5.out.trans (D7.out.below BW5.out.size fun k hk => by by_cases hlt : k < w.heap.size + 1; exact absurd hk (HNX.out k hlt); omega)).trans (C8.below (by have := BW5.out.size; omega) fun k hk => by have := H9l.out; have := Hw9.out; omega)
                 have hsub : (x.doors.take j ++ x.doors.drop j1).Sublist x.doors := by rw [HJ1.out]; exact cut_sub _ _
                 have hwy : wrongX { x with doors := x.doors.take j ++ x.doors.drop j1 } = okW := less_ok HOK.out rfl rfl rfl hsub rfl (List.Sublist.refl _) (List.Sublist.refl _)
                 have hwz : wrongX { x with doors := x.doors ++ [⟨t0, t1, t2, t3, ⟨t4, t5, t6⟩⟩] } = ⟨6, 3, (n : Int)⟩ := by rw [HNN.out]; exact less_door HOK.out (by rw [← HNN.out]; exact hn60) HT.out
                 have hlx := HLT.out
                 exact ⟨{ x with doors := x.doors.take j ++ x.doors.drop j1 }, { x with doors := x.doors ++ [⟨t0, t1, t2, t3, ⟨t4, t5, t6⟩⟩] }, { py with a3 := A4, c3 := d4 }, { pz with a3 := A6, c3 := d6 }, ⟨6, 3, (n : Int)⟩, Lib.hid KY8, Lib.hid KZ8, Lib.hid K118, Lib.hid HYF, Lib.hid HZF, Lib.hid hwy, Lib.hid hwz, Lib.hid ⟨(by have := hlx.l1; show x.stops.length ≤ 400; omega), (by have := hlx.l2; show x.paths.length ≤ 400; omega), Nat.le_trans hsub.length_le (by have := hlx.l3; omega), (by have := hlx.l4; show x.routes.length ≤ 400; omega), (by have := hlx.l5; show x.trips.length ≤ 400; omega), (by have := hlx.l6; show x.hazards.length ≤ 400; omega), fun r hr => by have := hlx.lr r hr; omega⟩, Lib.hid ⟨(by have := hlx.l1; show x.stops.length ≤ 400; omega), (by have := hlx.l2; show x.paths.length ≤ 400; omega), (by have := hlx.l3; show (x.doors ++ [_]).length ≤ 400; rw [List.length_append, List.length_singleton]; omega), (by have := hlx.l4; show x.routes.length ≤ 400; omega), (by have := hlx.l5; show x.trips.length ≤ 400; omega), (by have := hlx.l6; show x.hazards.length ≤ 400; omega), fun r hr => by have := hlx.lr r hr; omega⟩, Lib.hid B8⟩
              · have hni : ¬ ((0 : Int) < (x.doors.length : Int)) := by omega
                go_wp2_with fail
                go_meet
                exact ⟨x, x, py, pz, okW, KY, KZ, K11, HYX, HZX, HOKX, HOKX, HXL, HXL, BWc⟩
          case rest =>
            obtain ⟨y, z, qy, qz, ⟨k0, k1, k2⟩, KY, KZ, K11, HY, HZ, HWY, HWZ, HLY, HLZ, HB⟩ := hcut
            have MY := Lib.hid (fun w1 (hb : Below wc.heap.size wc w1) => make_w HWY.out qy w1 (HY.out.later hb) HLY.out)
            have MZ := Lib.hid (fun w1 (hb : Below wc.heap.size wc w1) => make_w HWZ.out qz w1 (HZ.out.later hb) HLZ.out)
            dsimp only [shV, wrV] at MY MZ
            have s0 : wc.cell? ⟨g9, 0, none⟩ = some (.int .i64 y.horizon) := KY.out.cell 0
            have s1 : wc.cell? ⟨g9, 1, none⟩ = some (.slice qy.a1 y.stops.length qy.c1) := KY.out.cell 1
            have s2 : wc.cell? ⟨g9, 2, none⟩ = some (.slice qy.a2 y.paths.length qy.c2) := KY.out.cell 2
            have s3 : wc.cell? ⟨g9, 3, none⟩ = some (.slice qy.a3 y.doors.length qy.c3) := KY.out.cell 3
            have s4 : wc.cell? ⟨g9, 4, none⟩ = some (.slice qy.a4 y.routes.length qy.c4) := KY.out.cell 4
            have s5 : wc.cell? ⟨g9, 5, none⟩ = some (.slice qy.a5 y.trips.length qy.c5) := KY.out.cell 5
            have s6 : wc.cell? ⟨g9, 6, none⟩ = some (.slice qy.a6 y.hazards.length qy.c6) := KY.out.cell 6
            go_upto_region 29 with (go_at_call 10; refine (MY.out _ (Below.refl _ _)).mono ?_; rintro e w6 ⟨my, q, rfl, hb⟩; obtain ⟨⟨a1, a2, a3, a4, a5, a6, c1, c2, c3, c4, c5, c6⟩, b2, b3, b4, b5, b6, d2, d3, d4, d5, d6⟩ := q; have B6 := Lib.hid hb; clear hb s0 s1 s2 s3 s4 s5 s6)
            obtain ⟨W6, hW6⟩ : ∃ W, W = (w6.alloc (.cells #[.int .i64 my.horizon, .slice a1 my.names.stops.length c1, .slice a2 my.names.paths.length c2, .slice a3 my.names.doors.length c3, .slice a4 my.names.routes.length c4, .slice a5 my.names.trips.length c5, .slice a6 my.names.hazards.length c6, .slice b2 my.paths.length d2, .slice b3 my.doors.length d3, .slice b4 my.routes.length d4, .slice b5 my.trips.length d5, .slice b6 my.hazards.length d6] 32)).alloc (.cells #[.int .i64 0, .int .i64 0, .int .i64 0] 35) := ⟨_, rfl⟩
            have BW6 : Hid (Below wc.heap.size wc W6) := Lib.hid (by rw [hW6]; exact bel2 B6.out _ _)
            have KA6 : Hid (Blk W6 (w6.heap.size + 1) 35 [.int .i64 0, .int .i64 0, .int .i64 0]) := Lib.hid (by rw [hW6]; exact Blk.new2 _ _ _ _)
            rw [← hW6]
            clear hW6
            have KZ6 := Lib.hid (KZ.out.after BW6.out)
            have s0 : W6.cell? ⟨g10, 0, none⟩ = some (.int .i64 z.horizon) := KZ6.out.cell 0
            have s1 : W6.cell? ⟨g10, 1, none⟩ = some (.slice qz.a1 z.stops.length qz.c1) := KZ6.out.cell 1
            have s2 : W6.cell? ⟨g10, 2, none⟩ = some (.slice qz.a2 z.paths.length qz.c2) := KZ6.out.cell 2
            have s3 : W6.cell? ⟨g10, 3, none⟩ = some (.slice qz.a3 z.doors.length qz.c3) := KZ6.out.cell 3
            have s4 : W6.cell? ⟨g10, 4, none⟩ = some (.slice qz.a4 z.routes.length qz.c4) := KZ6.out.cell 4
            have s5 : W6.cell? ⟨g10, 5, none⟩ = some (.slice qz.a5 z.trips.length qz.c5) := KZ6.out.cell 5
            have s6 : W6.cell? ⟨g10, 6, none⟩ = some (.slice qz.a6 z.hazards.length qz.c6) := KZ6.out.cell 6
            go_upto_region 30 with (go_at_call 10; refine (MZ.out _ BW6.out).mono ?_; rintro e w7 ⟨mz, q, rfl, hb⟩; obtain ⟨⟨a1, a2, a3, a4, a5, a6, c1, c2, c3, c4, c5, c6⟩, b2, b3, b4, b5, b6, d2, d3, d4, d5, d6⟩ := q; have B7 : Hid (Below W6.heap.size W6 w7) := Lib.hid hb; clear hb s0 s1 s2 s3 s4 s5 s6)
            obtain ⟨W7, hW7⟩ : ∃ W, W = (w7.alloc (.cells #[.int .i64 mz.horizon, .slice a1 mz.names.stops.length c1, .slice a2 mz.names.paths.length c2, .slice a3 mz.names.doors.length c3, .slice a4 mz.names.routes.length c4, .slice a5 mz.names.trips.length c5, .slice a6 mz.names.hazards.length c6, .slice b2 mz.paths.length d2, .slice b3 mz.doors.length d3, .slice b4 mz.routes.length d4, .slice b5 mz.trips.length d5, .slice b6 mz.hazards.length d6] 32)).alloc (.cells #[.int .i64 k0, .int .i64 k1, .int .i64 k2] 35) := ⟨_, rfl⟩
            have BW7 : Hid (Below W6.heap.size W6 W7) := Lib.hid (by rw [hW7]; exact bel2 B7.out _ _)
            have KA7 : Hid (Blk W7 (w7.heap.size + 1) 35 [.int .i64 k0, .int .i64 k1, .int .i64 k2]) := Lib.hid (by rw [hW7]; exact Blk.new2 _ _ _ _)
            rw [← hW7]
            clear hW7
            have KA67 := Lib.hid (KA6.out.after BW7.out)
            have K117 := Lib.hid (K11.out.after (keep_trans BW6.out BW7.out))
            have m0 : W7.cell? ⟨w6.heap.size + 1, 0, none⟩ = some (.int .i64 0) := KA67.out.cell 0
            have n0 : W7.cell? ⟨w7.heap.size + 1, 0, none⟩ = some (.int .i64 k0) := KA7.out.cell 0
            have o0 : W7.cell? ⟨g11, 0, none⟩ = some (.int .i64 k0) := K117.out.cell 0
            have m1 : W7.cell? ⟨w6.heap.size + 1, 1, none⟩ = some (.int .i64 0) := KA67.out.cell 1
            have n1 : W7.cell? ⟨w7.heap.size + 1, 1, none⟩ = some (.int .i64 k1) := KA7.out.cell 1
            have o1 : W7.cell? ⟨g11, 1, none⟩ = some (.int .i64 k1) := K117.out.cell 1
            have m2 : W7.cell? ⟨w6.heap.size + 1, 2, none⟩ = some (.int .i64 0) := KA67.out.cell 2
            have n2 : W7.cell? ⟨w7.heap.size + 1, 2, none⟩ = some (.int .i64 k2) := KA7.out.cell 2
            have o2 : W7.cell? ⟨g11, 2, none⟩ = some (.int .i64 k2) := K117.out.cell 2
            have HBF : Hid (Below w.heap.size w W7) := Lib.hid (keep_trans HB.out (keep_trans BW6.out BW7.out))
            go_wp2
            go_ret
            exact ⟨rfl, HBF.out⟩
    · have hwe2 : (we == 0) = false := by simpa using hwe
      clear hwx
      go_enter Tryz.func6, Tryz.ntmps6
      go_wp2_with (first
        | (go_at_call 9; refine (HLV.out _).mono ?_; rintro e w1 ⟨rfl, hb⟩; have B1 : Hid (Below w.heap.size w w1) := Lib.hid (keep_trans (one_box _ _) hb); have K1 := Lib.hid ((Blk.new w 44 [.int .i64 x.horizon, .slice p.a1 x.stops.length p.c1, .slice p.a2 x.paths.length p.c2, .slice p.a3 x.doors.length p.c3, .slice p.a4 x.routes.length p.c4, .slice p.a5 x.trips.length p.c5, .slice p.a6 x.hazards.length p.c6]).after hb); have s0 : w1.cell? ⟨w.heap.size, 0, none⟩ = some (.int .i64 x.horizon) := K1.out.cell 0; have s1 : w1.cell? ⟨w.heap.size, 1, none⟩ = some (.slice p.a1 x.stops.length p.c1) := K1.out.cell 1; have s2 : w1.cell? ⟨w.heap.size, 2, none⟩ = some (.slice p.a2 x.paths.length p.c2) := K1.out.cell 2; have s3 : w1.cell? ⟨w.heap.size, 3, none⟩ = some (.slice p.a3 x.doors.length p.c3) := K1.out.cell 3; have s4 : w1.cell? ⟨w.heap.size, 4, none⟩ = some (.slice p.a4 x.routes.length p.c4) := K1.out.cell 4; have s5 : w1.cell? ⟨w.heap.size, 5, none⟩ = some (.slice p.a5 x.trips.length p.c5) := K1.out.cell 5; have s6 : w1.cell? ⟨w.heap.size, 6, none⟩ = some (.slice p.a6 x.hazards.length p.c6) := K1.out.cell 6; clear hb)
        | (go_at_call 16; refine (HLI.out _ B1.out).mono ?_; rintro e w2 ⟨rfl, hb⟩; have B2 : Hid (Below w.heap.size w w2) := Lib.hid (keep_trans B1.out hb); have K2 := Lib.hid (K1.out.after hb); clear s0 s1 s2 s3 s4 s5 s6; have s0 : w2.cell? ⟨w.heap.size, 0, none⟩ = some (.int .i64 x.horizon) := K2.out.cell 0; have s1 : w2.cell? ⟨w.heap.size, 1, none⟩ = some (.slice p.a1 x.stops.length p.c1) := K2.out.cell 1; have s2 : w2.cell? ⟨w.heap.size, 2, none⟩ = some (.slice p.a2 x.paths.length p.c2) := K2.out.cell 2; have s3 : w2.cell? ⟨w.heap.size, 3, none⟩ = some (.slice p.a3 x.doors.length p.c3) := K2.out.cell 3; have s4 : w2.cell? ⟨w.heap.size, 4, none⟩ = some (.slice p.a4 x.routes.length p.c4) := K2.out.cell 4; have s5 : w2.cell? ⟨w.heap.size, 5, none⟩ = some (.slice p.a5 x.trips.length p.c5) := K2.out.cell 5; have s6 : w2.cell? ⟨w.heap.size, 6, none⟩ = some (.slice p.a6 x.hazards.length p.c6) := K2.out.cell 6; clear hb)
        | (go_at_call 10; refine (HMK.out _ B2.out).mono ?_; rintro e w3 ⟨m, q, rfl, hb⟩; obtain ⟨⟨a1, a2, a3, a4, a5, a6, c1, c2, c3, c4, c5, c6⟩, b2, b3, b4, b5, b6, d2, d3, d4, d5, d6⟩ := q; have B3 : Hid (Below w.heap.size w w3) := Lib.hid (keep_trans B2.out hb); have K3 := Lib.hid (K2.out.after hb); clear s0 s1 s2 s3 s4 s5 s6; clear hb))
      go_ret
      exact ⟨rfl, (bel2 B3.out _ _)⟩
end Go.Proofs.YtgdanbfglefiiaaGreat.Wo
