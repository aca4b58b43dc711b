/- Package world's Make: the world of a sheet, or what is wrong with it; proved by walking its text. Conditions: at most 400 things of a kind. -/
import Derived.Test.YtfefnfifeaihhaaGreatWoEnter
import Derived.Test.YtfefnfifeaihhaaGreatWoCheck
set_option linter.unusedVariables false
set_option linter.unusedSimpArgs false
set_option maxHeartbeats 8000000
set_option maxRecDepth 100000
namespace Go.Proofs.YtfefnfifeaihhaaGreat.Wo
open Go.ChangeShapes Go.WideShapes Go.ChangeAt Go.RowKit Go.Maps
open Lx Sh It
abbrev woF (x : WorldM) (p : WoA) : Value := .agg #[.int .i64 x.horizon, .slice p.n.a1 x.names.stops.length p.n.c1, .slice p.n.a2 x.names.paths.length p.n.c2, .slice p.n.a3 x.names.doors.length p.n.c3, .slice p.n.a4 x.names.routes.length p.n.c4, .slice p.n.a5 x.names.trips.length p.n.c5, .slice p.n.a6 x.names.hazards.length p.n.c6, .slice p.b2 x.paths.length p.d2, .slice p.b3 x.doors.length p.d3, .slice p.b4 x.routes.length p.d4, .slice p.b5 x.trips.length p.d5, .slice p.b6 x.hazards.length p.d6]
theorem box3 (w : World) (o p q : Obj) : Below w.heap.size w (((w.alloc o).alloc p).alloc q) := (two_box w o p).alloc (by simp; omega) q
theorem blk3 (w : World) (o p : Obj) (t : TypeId) (l : List Value) : Blk (((w.alloc o).alloc p).alloc (.cells l.toArray t)) (w.heap.size + 1 + 1) t l := by
  have := Blk.new ((w.alloc o).alloc p) t l
  simpa using this
theorem blk2 (w : World) (o q : Obj) (t : TypeId) (l : List Value) : Blk (((w.alloc o).alloc (.cells l.toArray t)).alloc q) (w.heap.size + 1) t l := (Blk.new2 w o t l).alloc q
theorem blk1 (w : World) (p q : Obj) (t : TypeId) (l : List Value) : Blk (((w.alloc (.cells l.toArray t)).alloc p).alloc q) w.heap.size t l := ((Blk.new w t l).alloc p).alloc q
def MkPost (w : World) (x : SheetM) (e : Ending) (w' : World) : Prop :=
  ∃ q : WoA, e = .returned (.tuple #[woF (makeX x) q, wrV (wrongX x)]) ∧ Wo w' (fun b => w.heap.size ≤ b ∧ b < w'.heap.size) (makeX x) q ∧ Below w.heap.size w w'
/-- what Make answers; its row of paths is its own -/
def MkPost2 (w : World) (x : SheetM) (e : Ending) (w' : World) : Prop :=
  ∃ q : WoA, e = .returned (.tuple #[woF (makeX x) q, wrV (wrongX x)]) ∧ Wo w' (fun b => w.heap.size ≤ b ∧ b < w'.heap.size) (makeX x) q ∧ Below w.heap.size w w' ∧ ∃ B, w'.ownsRow B 92 3 (.slice q.b2 (makeX x).paths.length q.d2) (makeX x).paths.length (cs poC (makeX x).paths)
def noA : WoA := ⟨⟨none, none, none, none, none, none, 0, 0, 0, 0, 0, 0⟩, none, none, none, none, none, 0, 0, 0, 0, 0⟩
theorem wo_none (w : World) (S : Nat → Prop) : Wo w S zWo noA := ⟨⟨fun h => by simp [cs] at h, fun h => by simp [cs] at h, fun h => by simp [cs] at h, fun h => by simp [cs] at h, fun h => by simp [cs] at h, fun h => by simp [cs] at h⟩, fun h => by simp [cs] at h, fun h => by simp [cs] at h, ⟨[], fun h => by simp at h, rfl⟩, fun h => by simp [cs] at h, fun h => by simp [cs] at h⟩
theorem mk_read {W : World} {n0 n1 : Nat} {a0 a1 a2 a3 a4 a5 a6 a7 a8 a9 a10 a11 b0 b1 b2 : Value} {tmps : Array Value} (h2 : tmps[2]? = some (.pointer (some ⟨n0, 0, none⟩))) (h3 : tmps[3]? = some (.pointer (some ⟨n1, 0, none⟩))) (k0 : Blk W n0 37 [a0, a1, a2, a3, a4, a5, a6, a7, a8, a9, a10, a11]) (k1 : Blk W n1 52 [b0, b1, b2]) :
    (results Tryz.f88 tmps).run Tryz.prog W = .ok (.tuple #[.agg #[a0, a1, a2, a3, a4, a5, a6, a7, a8, a9, a10, a11], .agg #[b0, b1, b2]]) W := by
  have x0 : W.cell? ⟨n0, 0, none⟩ = some a0 := k0.cell 0
  have x1 : W.cell? ⟨n0, 1, none⟩ = some a1 := k0.cell 1
  have x2 : W.cell? ⟨n0, 2, none⟩ = some a2 := k0.cell 2
  have x3 : W.cell? ⟨n0, 3, none⟩ = some a3 := k0.cell 3
  have x4 : W.cell? ⟨n0, 4, none⟩ = some a4 := k0.cell 4
  have x5 : W.cell? ⟨n0, 5, none⟩ = some a5 := k0.cell 5
  have x6 : W.cell? ⟨n0, 6, none⟩ = some a6 := k0.cell 6
  have x7 : W.cell? ⟨n0, 7, none⟩ = some a7 := k0.cell 7
  have x8 : W.cell? ⟨n0, 8, none⟩ = some a8 := k0.cell 8
  have x9 : W.cell? ⟨n0, 9, none⟩ = some a9 := k0.cell 9
  have x10 : W.cell? ⟨n0, 10, none⟩ = some a10 := k0.cell 10
  have x11 : W.cell? ⟨n0, 11, none⟩ = some a11 := k0.cell 11
  have y0 : W.cell? ⟨n1, 0, none⟩ = some b0 := k1.cell 0
  have y1 : W.cell? ⟨n1, 1, none⟩ = some b1 := k1.cell 1
  have y2 : W.cell? ⟨n1, 2, none⟩ = some b2 := k1.cell 2
  simp [results, Tryz.results88, go_sem, h2, h3, x0, x1, x2, x3, x4, x5, x6, x7, x8, x9, x10, x11, y0, y1, y2]
theorem nl_of {x : SheetM} (o : Ok x) : NmL x := by
  have hs : ∀ a, nameB a = true → a.length ≤ maxLen := fun a h => by have := name_short h; have := maxLen_big; omega
  refine ⟨fun q hq => ?_, fun q hq => ?_, fun q hq s hs' => ?_, fun q hq => ?_, fun q hq => ?_⟩
  · have := (o.p q hq).1; simp [path_name] at this; exact ⟨hs _ this.2.1, hs _ this.2.2⟩
  · have := (o.d q hq).1; simp [door_name] at this; exact ⟨hs _ this.2.1, hs _ this.2.2⟩
  · have := (o.r q hq).1; simp [route_name] at this; exact hs _ (this.2 s hs')
  · have := (o.t q hq).1; simp [trip_name] at this; exact hs _ this.2
  · have := (o.h q hq).1; simp [haz_name] at this; exact hs _ this.2
theorem flat_len (x : SheetM) : (namesX x).flat.length = x.stops.length + (x.paths.length + (x.doors.length + (x.routes.length + (x.trips.length + x.hazards.length)))) := by simp [NamesM.flat, namesX]
def sto12 (w : World) (g : Nat) (u0 u1 u2 u3 u4 u5 u6 u7 u8 u9 u10 u11 : Value) : World := ((((((((((((w).setCell ⟨g, 0, none⟩ u0).setCell ⟨g, 1, none⟩ u1).setCell ⟨g, 2, none⟩ u2).setCell ⟨g, 3, none⟩ u3).setCell ⟨g, 4, none⟩ u4).setCell ⟨g, 5, none⟩ u5).setCell ⟨g, 6, none⟩ u6).setCell ⟨g, 7, none⟩ u7).setCell ⟨g, 8, none⟩ u8).setCell ⟨g, 9, none⟩ u9).setCell ⟨g, 10, none⟩ u10).setCell ⟨g, 11, none⟩ u11
theorem sto12_ch (w : World) (g : Nat) (u0 u1 u2 u3 u4 u5 u6 u7 u8 u9 u10 u11 : Value) : Ch (· = g) w (sto12 w g u0 u1 u2 u3 u4 u5 u6 u7 u8 u9 u10 u11) := by
  unfold sto12
  exact (((((((((((((Ch.refl (· = g) w).setCell (p := ⟨g, 0, none⟩) (.inl rfl) u0).setCell (p := ⟨g, 1, none⟩) (.inl rfl) u1).setCell (p := ⟨g, 2, none⟩) (.inl rfl) u2).setCell (p := ⟨g, 3, none⟩) (.inl rfl) u3).setCell (p := ⟨g, 4, none⟩) (.inl rfl) u4).setCell (p := ⟨g, 5, none⟩) (.inl rfl) u5).setCell (p := ⟨g, 6, none⟩) (.inl rfl) u6).setCell (p := ⟨g, 7, none⟩) (.inl rfl) u7).setCell (p := ⟨g, 8, none⟩) (.inl rfl) u8).setCell (p := ⟨g, 9, none⟩) (.inl rfl) u9).setCell (p := ⟨g, 10, none⟩) (.inl rfl) u10).setCell (p := ⟨g, 11, none⟩) (.inl rfl) u11)
theorem sto12_blk {w : World} {g : Nat} {t : TypeId} {a0 a1 a2 a3 a4 a5 a6 a7 a8 a9 a10 a11 : Value} (h : Blk w g t [a0, a1, a2, a3, a4, a5, a6, a7, a8, a9, a10, a11]) (u0 u1 u2 u3 u4 u5 u6 u7 u8 u9 u10 u11 : Value) : Blk (sto12 w g u0 u1 u2 u3 u4 u5 u6 u7 u8 u9 u10 u11) g t [u0, u1, u2, u3, u4, u5, u6, u7, u8, u9, u10, u11] := by
  unfold sto12
  exact ((((((((((((h.set_ 0 u0).set_ 1 u1).set_ 2 u2).set_ 3 u3).set_ 4 u4).set_ 5 u5).set_ 6 u6).set_ 7 u7).set_ 8 u8).set_ 9 u9).set_ 10 u10).set_ 11 u11)
def sto3 (w : World) (g : Nat) (u0 u1 u2 : Value) : World := (((w).setCell ⟨g, 0, none⟩ u0).setCell ⟨g, 1, none⟩ u1).setCell ⟨g, 2, none⟩ u2
theorem sto3_ch (w : World) (g : Nat) (u0 u1 u2 : Value) : Ch (· = g) w (sto3 w g u0 u1 u2) := by
  unfold sto3
  exact (((Ch.refl (· = g) w).setCell (p := ⟨g, 0, none⟩) (.inl rfl) u0).setCell (p := ⟨g, 1, none⟩) (.inl rfl) u1).setCell (p := ⟨g, 2, none⟩) (.inl rfl) u2
theorem sto3_blk {w : World} {g : Nat} {t : TypeId} {a0 a1 a2 : Value} (h : Blk w g t [a0, a1, a2]) (u0 u1 u2 : Value) : Blk (sto3 w g u0 u1 u2) g t [u0, u1, u2] := by
  unfold sto3
  exact ((h.set_ 0 u0).set_ 1 u1).set_ 2 u2
theorem sto_both {w1 : World} {g g' : Nat} {t t' : TypeId} {a0 a1 a2 a3 a4 a5 a6 a7 a8 a9 a10 a11 b0 b1 b2 : Value} (KW : Blk w1 g t [a0, a1, a2, a3, a4, a5, a6, a7, a8, a9, a10, a11]) (KB : Blk w1 g' t' [b0, b1, b2]) (hg : g ≠ g') (u0 u1 u2 u3 u4 u5 u6 u7 u8 u9 u10 u11 c0 c1 c2 : Value) : Blk (sto3 (sto12 w1 g u0 u1 u2 u3 u4 u5 u6 u7 u8 u9 u10 u11) g' c0 c1 c2) g t [u0, u1, u2, u3, u4, u5, u6, u7, u8, u9, u10, u11] ∧ Blk (sto3 (sto12 w1 g u0 u1 u2 u3 u4 u5 u6 u7 u8 u9 u10 u11) g' c0 c1 c2) g' t' [c0, c1, c2] ∧ Ch (fun k => k = g ∨ k = g') w1 (sto3 (sto12 w1 g u0 u1 u2 u3 u4 u5 u6 u7 u8 u9 u10 u11) g' c0 c1 c2) :=
  ⟨(sto3_ch _ g' _ _ _).blk (sto12_blk KW u0 u1 u2 u3 u4 u5 u6 u7 u8 u9 u10 u11) hg, sto3_blk ((sto12_ch w1 g u0 u1 u2 u3 u4 u5 u6 u7 u8 u9 u10 u11).blk KB fun e => hg e.symm) _ _ _, ((sto12_ch w1 g u0 u1 u2 u3 u4 u5 u6 u7 u8 u9 u10 u11).mono fun _ _ h => .inl h).trans ((sto3_ch _ g' _ _ _).mono fun _ _ h => .inr h)⟩
theorem new0 (w : World) : Calls Tryz.prog 120 #[.slice none 0 0] w (fun e w' => ∃ T, e = .returned (.tuple #[.pointer (some ⟨T, 0, none⟩), .int .i64 0]) ∧ Hid (TabAt w' (Fresh w w') T []) ∧ Hid (Below w.heap.size w w')) :=
  (new_any (w := w) (A := none) (n := 0) (c := 0) (l := []) (HH rfl) (by omega) (fun hh => by simp [cs] at hh) (fun a hh => by cases hh)).mono fun e w' he => by
    rcases he with ⟨-, T, h1, h2, h3⟩ | ⟨hno, -⟩
    · exact ⟨T, h1, h2, h3⟩
    · exact absurd rfl hno
theorem ms_start {w w5 w4 : World} {X0 : Nat → Prop} {M T : Nat} {x : SheetM} {p : ShA} {pn : NaA} {o : Obj} (hst : ∃ (X : Nat → Prop) (A : Option Addr) (tn c : Nat), Blk w5 M 177 (.pointer (some ⟨T, 0, none⟩) :: .slice A tn c :: restL x p (namesX x) pn) ∧ TabAt w5 X T (namesX x).flat ∧ (∀ k, X k → X0 k ∨ w4.heap.size < k) ∧ tn = (thingsN (namesX x)).length ∧ Rd w5 (fun b => w4.heap.size < b ∧ b < w5.heap.size) A (cs thC (thingsN (namesX x)))) (hs : Sh w (· < w.heap.size) x p) (hb : Below w.heap.size w w5) (hM : M < w5.heap.size) (hwM : w.heap.size ≤ M) (hne : ∀ k, (X0 k ∨ w4.heap.size < k) → k ≠ M) (h4 : M < w4.heap.size) : ∃ X A tn c, Ms (w5.alloc o) (w5.alloc o).heap.size M T X x p A tn c (nvL x.horizon (namesX x) pn) (wAt x 0) (.slice none 0 0) (.slice none 0 0) (.slice none 0 0) (.slice none 0 0) (.slice none 0 0) := by
  obtain ⟨X, A, tn, c, hblk, htab, hX, htn, hrd⟩ := hst
  have hb1 := one_box w5 o
  have hsz : (w5.alloc o).heap.size = w5.heap.size + 1 := by simp
  have hsw := hb.size
  have e2 : (wAt x 0).paths = [] := by simp [wAt]
  have e3 : (wAt x 0).doors = [] := by simp [wAt]
  have e4 : (wAt x 0).routes = [] := by simp [wAt]
  have e5 : (wAt x 0).trips = [] := by simp [wAt]
  have e6 : (wAt x 0).hazards = [] := by simp [wAt]
  refine ⟨X, A, tn, c, hblk.alloc _, rfl, by omega, Nat.le_refl _, htab.after hb1, fun k hk => ⟨by have := htab.lt k hk; omega, hne k (hX k hk)⟩, htn, (Rd.keep hrd fun b h => hb1.block b h.2).more fun b h => ⟨by omega, by omega⟩, ((hs.keep fun b h => hb.block b h).keep fun b h => hb1.block b (by omega)).more fun b h => ⟨by omega, by omega⟩, ?_, ?_, ⟨[], ?_, ?_⟩, ?_, ?_⟩
  · rw [e2]; exact own_nil
  · rw [e3]; exact own_nil
  · rw [e4]; exact own_nil
  · rw [e4]; rfl
  · rw [e5]; exact own_nil
  · rw [e6]; exact own_nil
theorem fin_cell {W : World} {M : Nat} {t : TypeId} {L r : List Value} (h : Blk W M t (L ++ r)) (hL : L.length = 9) (i : Nat) : W.cell? ⟨M, i + 9, none⟩ = r[i]? := by
  rw [h.cell, List.getElem?_append_right (by omega), hL]
  congr 1
theorem make_own (x : SheetM) (p : ShA) (w : World) (h : Sh w (· < w.heap.size) x p) (hl : XLt x) : Calls Tryz.prog 88 #[shV x p] w (MkPost2 w x) := by
  have HS := HH h
  have HL := HH hl
  have HCK := HH (fun w1 (hb : Below w.heap.size w w1) => scheck_any x p w1 (h.later hb) hl.few)
  have HNO := HH (fun w1 (hb : Below w.heap.size w w1) => namesOf_any x p w1 (h.later hb) hl)
  dsimp only [shV] at HCK HNO ⊢
  clear h hl
  by_cases hck : checkM x = 0
  · rw [hck] at HCK
    have HOK : Hid (Ok x) := HH (check_ok.1 hck)
    have HHK := HH hck
    clear hck
    go_enter Tryz.func88, Tryz.ntmps88
    go_wp2_with (first
      | (go_at_call 119; refine (HCK.out _ (box3 _ _ _ _)).mono ?_; rintro e w1 ⟨rfl, hb⟩; have HB1 : Hid (Below w.heap.size w w1) := HH (keep_trans (box3 _ _ _ _) hb); have KW : Hid (Blk w1 (w.heap.size + 1) 37 [.int .i64 0, .slice none 0 0, .slice none 0 0, .slice none 0 0, .slice none 0 0, .slice none 0 0, .slice none 0 0, .slice none 0 0, .slice none 0 0, .slice none 0 0, .slice none 0 0, .slice none 0 0]) := HH (Blk.after (blk2 w _ _ _ _) hb); have KB : Hid (Blk w1 (w.heap.size + 1 + 1) 52 [.int .i64 0, .int .i64 0, .int .i64 0]) := HH (Blk.after (blk3 w _ _ _ _) hb); have KS : Hid (Blk w1 w.heap.size 88 [.int .i64 x.horizon, .slice p.a1 x.stops.length p.c1, .slice p.a2 x.paths.length p.c2, .slice p.a3 x.doors.length p.c3, .slice p.a4 x.routes.length p.c4, .slice p.a5 x.trips.length p.c5, .slice p.a6 x.hazards.length p.c6]) := HH (Blk.after (blk1 w _ _ _ _) hb); have HW1 : Hid (w.heap.size + 1 + 1 < w1.heap.size) := HH KB.out.lt; clear hb)
      | (go_at_call 120; refine (new0 _).mono ?_; rintro e w2 ⟨T, rfl, ht, hb⟩; have HT2 := ht; have HB12 := hb; have HB2 : Hid (Below w.heap.size w w2) := HH (keep_trans HB1.out hb.out); have KW := HH (KW.out.after hb.out); have KB := HH (KB.out.after hb.out); have KS := HH (KS.out.after hb.out); clear ht hb))
    have KC : Hid (∀ w', Below w2.heap.size w2 w' → w'.cell? ⟨w.heap.size, 0, none⟩ = some (.int .i64 x.horizon) ∧ w'.cell? ⟨w.heap.size, 1, none⟩ = some (.slice p.a1 x.stops.length p.c1) ∧ w'.cell? ⟨w.heap.size, 2, none⟩ = some (.slice p.a2 x.paths.length p.c2) ∧ w'.cell? ⟨w.heap.size, 3, none⟩ = some (.slice p.a3 x.doors.length p.c3) ∧ w'.cell? ⟨w.heap.size, 4, none⟩ = some (.slice p.a4 x.routes.length p.c4) ∧ w'.cell? ⟨w.heap.size, 5, none⟩ = some (.slice p.a5 x.trips.length p.c5) ∧ w'.cell? ⟨w.heap.size, 6, none⟩ = some (.slice p.a6 x.hazards.length p.c6)) := HH (fun w' hb => by
      have a := KS.out.after hb
      exact ⟨a.cell 0, a.cell 1, a.cell 2, a.cell 3, a.cell 4, a.cell 5, a.cell 6⟩)
    refine wp_region_held_drew (S := fun w' => Hid (Below w2.heap.size w2 w')) (by kernel_rfl) ?_ (fun hHeld => ?_)
    · exact HH (below_drew (Below.refl _ _))
    refine tak 0 ?vu1 rfl ?hyu1 ?restu1
    case hyu1 => (intro w' hSw; obtain ⟨kc0, kc1, kc2, kc3, kc4, kc5, kc6⟩ := KC.out w' hSw.out; clear hSw; go_simp; try with_reducible rfl)
    simp only [ptk]
    refine tak 1 ?vu2 rfl ?hyu2 ?restu2
    case hyu2 => (intro w' hSw; obtain ⟨kc0, kc1, kc2, kc3, kc4, kc5, kc6⟩ := KC.out w' hSw.out; clear hSw; go_simp; try with_reducible rfl)
    simp only [ptk]
    refine tak 2 ?vu3 rfl ?hyu3 ?restu3
    case hyu3 => (intro w' hSw; obtain ⟨kc0, kc1, kc2, kc3, kc4, kc5, kc6⟩ := KC.out w' hSw.out; clear hSw; go_simp; try with_reducible rfl)
    simp only [ptk]
    refine tak 3 ?vu4 rfl ?hyu4 ?restu4
    case hyu4 => (intro w' hSw; obtain ⟨kc0, kc1, kc2, kc3, kc4, kc5, kc6⟩ := KC.out w' hSw.out; clear hSw; go_simp; try with_reducible rfl)
    simp only [ptk]
    refine tak 4 ?vu5 rfl ?hyu5 ?restu5
    case hyu5 => (intro w' hSw; obtain ⟨kc0, kc1, kc2, kc3, kc4, kc5, kc6⟩ := KC.out w' hSw.out; clear hSw; go_simp; try with_reducible rfl)
    simp only [ptk]
    have R0 := hHeld
    clear hHeld
    generalize World.drew w2 = v0 at *
    refine rdy [5] ?_
    refine AllReadyH.cons rfl (fun K hK => ?_) AllReadyH.nil
    go_simp
    go_at_call 121
    refine (HNO.out v0 (keep_trans HB2.out R0.out)).mono ?_
    rintro e' v3 ⟨pn, rfl, hna, hb⟩
    have R3 : Hid (Below w2.heap.size w2 v3) := HH (keep_trans R0.out hb)
    have HNA : Hid (NaF v3 w2.heap.size (namesX x) pn) := HH (Na.more hna fun b h => ⟨Nat.le_trans R0.out.size h.1, h.2⟩)
    clear hna hb
    dsimp only
    refine hK.out _ _ R3 (fun hHeld => ?_)
    clear hK K
    refine tak 6 ?vu6 rfl ?hyu6 ?restu6
    case hyu6 => (intro w' hSw; clear hSw; go_simp; try with_reducible rfl)
    simp only [ptk]
    refine tak 7 ?vu7 rfl ?hyu7 ?restu7
    case hyu7 => (intro w' hSw; clear hSw; go_simp; try with_reducible rfl)
    simp only [ptk]
    refine rdy [8] ?_
    refine AllReadyH.cons rfl (fun K hK => ?_) AllReadyH.nil
    go_simp
    have R4 : Hid (Below w2.heap.size w2 (v3.alloc (.cells #[.pointer (some ⟨T, 0, none⟩), .slice none 0 0, .int .i64 x.horizon, .slice p.a1 x.stops.length p.c1, .slice p.a2 x.paths.length p.c2, .slice p.a3 x.doors.length p.c3, .slice p.a4 x.routes.length p.c4, .slice p.a5 x.trips.length p.c5, .slice p.a6 x.hazards.length p.c6, .int .i64 x.horizon, .slice pn.a1 (namesX x).stops.length pn.c1, .slice pn.a2 (namesX x).paths.length pn.c2, .slice pn.a3 (namesX x).doors.length pn.c3, .slice pn.a4 (namesX x).routes.length pn.c4, .slice pn.a5 (namesX x).trips.length pn.c5, .slice pn.a6 (namesX x).hazards.length pn.c6, .slice none 0 0, .slice none 0 0, .slice none 0 0, .slice none 0 0, .slice none 0 0] 177))) := HH (R3.out.alloc R3.out.size _)
    have K4 : Hid (Blk (v3.alloc (.cells #[.pointer (some ⟨T, 0, none⟩), .slice none 0 0, .int .i64 x.horizon, .slice p.a1 x.stops.length p.c1, .slice p.a2 x.paths.length p.c2, .slice p.a3 x.doors.length p.c3, .slice p.a4 x.routes.length p.c4, .slice p.a5 x.trips.length p.c5, .slice p.a6 x.hazards.length p.c6, .int .i64 x.horizon, .slice pn.a1 (namesX x).stops.length pn.c1, .slice pn.a2 (namesX x).paths.length pn.c2, .slice pn.a3 (namesX x).doors.length pn.c3, .slice pn.a4 (namesX x).routes.length pn.c4, .slice pn.a5 (namesX x).trips.length pn.c5, .slice pn.a6 (namesX x).hazards.length pn.c6, .slice none 0 0, .slice none 0 0, .slice none 0 0, .slice none 0 0, .slice none 0 0] 177)) v3.heap.size 177 (.pointer (some ⟨T, 0, none⟩) :: .slice none 0 0 :: restL x p (namesX x) pn)) := HH (Blk.new v3 _ _)
    have N4 : Hid (NaF (v3.alloc (.cells #[.pointer (some ⟨T, 0, none⟩), .slice none 0 0, .int .i64 x.horizon, .slice p.a1 x.stops.length p.c1, .slice p.a2 x.paths.length p.c2, .slice p.a3 x.doors.length p.c3, .slice p.a4 x.routes.length p.c4, .slice p.a5 x.trips.length p.c5, .slice p.a6 x.hazards.length p.c6, .int .i64 x.horizon, .slice pn.a1 (namesX x).stops.length pn.c1, .slice pn.a2 (namesX x).paths.length pn.c2, .slice pn.a3 (namesX x).doors.length pn.c3, .slice pn.a4 (namesX x).routes.length pn.c4, .slice pn.a5 (namesX x).trips.length pn.c5, .slice pn.a6 (namesX x).hazards.length pn.c6, .slice none 0 0, .slice none 0 0, .slice none 0 0, .slice none 0 0, .slice none 0 0] 177)) w2.heap.size (namesX x) pn) := HH (HNA.out.later (one_box _ _))
    have Z4 : Hid (v3.heap.size + 1 = (v3.alloc (.cells #[.pointer (some ⟨T, 0, none⟩), .slice none 0 0, .int .i64 x.horizon, .slice p.a1 x.stops.length p.c1, .slice p.a2 x.paths.length p.c2, .slice p.a3 x.doors.length p.c3, .slice p.a4 x.routes.length p.c4, .slice p.a5 x.trips.length p.c5, .slice p.a6 x.hazards.length p.c6, .int .i64 x.horizon, .slice pn.a1 (namesX x).stops.length pn.c1, .slice pn.a2 (namesX x).paths.length pn.c2, .slice pn.a3 (namesX x).doors.length pn.c3, .slice pn.a4 (namesX x).routes.length pn.c4, .slice pn.a5 (namesX x).trips.length pn.c5, .slice pn.a6 (namesX x).hazards.length pn.c6, .slice none 0 0, .slice none 0 0, .slice none 0 0, .slice none 0 0, .slice none 0 0] 177)).heap.size) := HH (by simp)
    have NM4 : Hid (Na (v3.alloc (.cells #[.pointer (some ⟨T, 0, none⟩), .slice none 0 0, .int .i64 x.horizon, .slice p.a1 x.stops.length p.c1, .slice p.a2 x.paths.length p.c2, .slice p.a3 x.doors.length p.c3, .slice p.a4 x.routes.length p.c4, .slice p.a5 x.trips.length p.c5, .slice p.a6 x.hazards.length p.c6, .int .i64 x.horizon, .slice pn.a1 (namesX x).stops.length pn.c1, .slice pn.a2 (namesX x).paths.length pn.c2, .slice pn.a3 (namesX x).doors.length pn.c3, .slice pn.a4 (namesX x).routes.length pn.c4, .slice pn.a5 (namesX x).trips.length pn.c5, .slice pn.a6 (namesX x).hazards.length pn.c6, .slice none 0 0, .slice none 0 0, .slice none 0 0, .slice none 0 0, .slice none 0 0] 177)) (fun b => w2.heap.size ≤ b ∧ b < v3.heap.size) (namesX x) pn) := HH (Na.keep HNA.out fun b hb => (one_box _ _).block b hb.2)
    generalize v3.alloc (.cells #[.pointer (some ⟨T, 0, none⟩), .slice none 0 0, .int .i64 x.horizon, .slice p.a1 x.stops.length p.c1, .slice p.a2 x.paths.length p.c2, .slice p.a3 x.doors.length p.c3, .slice p.a4 x.routes.length p.c4, .slice p.a5 x.trips.length p.c5, .slice p.a6 x.hazards.length p.c6, .int .i64 x.horizon, .slice pn.a1 (namesX x).stops.length pn.c1, .slice pn.a2 (namesX x).paths.length pn.c2, .slice pn.a3 (namesX x).doors.length pn.c3, .slice pn.a4 (namesX x).routes.length pn.c4, .slice pn.a5 (namesX x).trips.length pn.c5, .slice pn.a6 (namesX x).hazards.length pn.c6, .slice none 0 0, .slice none 0 0, .slice none 0 0, .slice none 0 0, .slice none 0 0] 177) = w4 at *
    generalize hM : v3.heap.size = M at *
    refine hK.out _ _ R4 (fun hHeld => ?_)
    clear hK K hHeld
    refine tak 9 ?vu8 rfl ?hyu8 ?restu8
    case hyu8 => (intro w' hSw; clear hSw; go_simp; try with_reducible rfl)
    simp only [ptk]
    refine wpAnyH_done (by kernel_rfl) ?_ _
    clear KC
    have HX0 : Hid (∀ k, Fresh w1 w2 k → w.heap.size ≤ k ∧ k < w2.heap.size) := HH fun k hk => ⟨Nat.le_trans HB1.out.size hk.1, hk.2⟩
    have HMlt : Hid (w2.heap.size ≤ M) := HH (by rw [← hM]; exact R3.out.size)
    have HM4 : Hid (M < w4.heap.size) := HH K4.out.lt
    have HTB4 : Hid (TabAt w4 (Fresh w1 w2) T []) := HH (HT2.out.after R4.out)
    have HEN := HH (enter_any (x := x) (p := p) (n := namesX x) (pn := pn) K4.out HTB4.out (fun h => by have := (HX0.out M h).2; have := HMlt.out; omega) (Na.more NM4.out fun b hb => ⟨by have := HM4.out; omega, by omega, fun h => by have := (HX0.out b h).2; omega⟩) (names_ok HOK.out) (by rw [flat_len]; have := HL.out.l1; have := HL.out.l2; have := HL.out.l3; have := HL.out.l4; have := HL.out.l5; have := HL.out.l6; omega))
    have HB4 : Hid (Below w.heap.size w w4) := HH (keep_trans HB2.out R4.out)
    have HW2 : Hid (w.heap.size + 1 + 1 < w2.heap.size) := HH KB.out.lt
    have KW4 := HH (KW.out.after R4.out)
    have KB4 := HH (KB.out.after R4.out)
    have HNOT : Hid (∀ k, k ≤ w.heap.size + 1 + 1 → ¬ (k = M ∨ Fresh w1 w2 k ∨ w4.heap.size ≤ k)) := HH (fun k hk h => by
      have h1 := HW1.out
      have h2 := HW2.out
      have h3 := HMlt.out
      have h4 := HM4.out
      rcases h with h | h | h
      · omega
      · have := h.1; omega
      · omega)
    have HCB : Hid (∀ w5, Ch (fun k => k = M ∨ Fresh w1 w2 k ∨ w4.heap.size ≤ k) w4 w5 → Below w.heap.size w w5) := HH (fun w5 hc => HB4.out.trans (hc.below HB4.out.size fun k hk => by
      have h2 := HW2.out
      have h3 := HMlt.out
      have h4 := HM4.out
      rcases hk with h | h | h
      · omega
      · exact (HX0.out k h).1
      · omega))
    clear KW KB KS HNA R3 R0 HNO HCK HB2
    by_cases hd : (dupW (namesX x)).err = 0
    · have hd0 : dupW (namesX x) = okW := fst0_okW hd
      have HDU := HH hd0
      have HE2 : Hid (Calls Tryz.prog 122 #[.pointer (some ⟨M, 0, none⟩)] w4 (fun e w' => e = .returned (.agg #[.int .i64 0, .int .i64 0, .int .i64 0]) ∧ Hid (Ch (fun k => k = M ∨ Fresh w1 w2 k ∨ w4.heap.size ≤ k) w4 w') ∧ Hid (∃ (X : Nat → Prop) (A : Option Addr) (tn c : Nat), Blk w' M 177 (.pointer (some ⟨T, 0, none⟩) :: .slice A tn c :: restL x p (namesX x) pn) ∧ TabAt w' X T (namesX x).flat ∧ (∀ k, X k → Fresh w1 w2 k ∨ w4.heap.size < k) ∧ tn = (thingsN (namesX x)).length ∧ Rd w' (fun b => w4.heap.size < b ∧ b < w'.heap.size) A (cs thC (thingsN (namesX x)))))) := HH (HEN.out.mono fun e w' he => by
        obtain ⟨h1, h2, h3⟩ := he
        rw [HDU.out] at h1
        exact ⟨h1, HH h2, HH (h3 HDU.out)⟩)
      clear HEN hd hd0
      by_cases hr : (errW (numX x)).err = 0
      · have hr0 : errW (numX x) = okW := fst0_okW hr
        have HER := HH hr0
        have HW : Hid (wrongX x = okW) := HH (wrong_ok HHK.out HDU.out hr0)
        have HX : Hid (makeX x = numX x) := HH (by unfold makeX; rw [if_neg (by rw [HW.out]; simp)])
        clear hr hr0
        go_upto_region 12 with (first
          | (go_at_call 122; refine HE2.out.mono ?_; rintro e w5 ⟨rfl, hc5, hst⟩; have HC5 := hc5; have HST := hst; have KW5 := HH (HC5.out.blk KW4.out (HNOT.out _ (by omega))); have KB5 := HH (HC5.out.blk KB4.out (HNOT.out _ (by omega))); have HB5 : Hid (Below w.heap.size w w5) := HH (HCB.out _ HC5.out); clear hc5 hst)
          | (go_at_call 123; have HMS : Hid (∃ X A tn c, Ms (w5.alloc (.cells #[.int .i64 0, .int .i64 0, .int .i64 0] 52)) (w5.alloc (.cells #[.int .i64 0, .int .i64 0, .int .i64 0] 52)).heap.size M T X x p A tn c (nvL x.horizon (namesX x) pn) (wAt x 0) (.slice none 0 0) (.slice none 0 0) (.slice none 0 0) (.slice none 0 0) (.slice none 0 0)) := HH (ms_start HST.out HS.out HB5.out (by have := HM4.out; have := HC5.out.size; omega) (by have := HW2.out; have := HMlt.out; omega) (fun k hk => hk.elim (fun h => by have := (HX0.out k h).2; have := HMlt.out; omega) (fun h => by have := HM4.out; omega)) HM4.out); obtain ⟨X, tA, tn, tc, hms⟩ := HMS.out; refine (check_any hms HL.out (nl_of HOK.out)).mono ?_; rintro e w7 ⟨he, hfin, hc7⟩; rw [HER.out] at he; subst he; have HC7 := HH hc7; have HFI := HH hfin; have hs6 : (w5.alloc (.cells #[.int .i64 0, .int .i64 0, .int .i64 0] 52)).heap.size = w5.heap.size + 1 := (by simp); have h52 : w.heap.size + 1 + 1 < w5.heap.size := KB5.out.lt; have hM5 : M < w5.heap.size := (by have := HM4.out; have := HC5.out.size; omega); have KW5 := HH (HC7.out.blk (KW5.out.alloc _) (by have := HW2.out; have := HMlt.out; omega)); have KB5 := HH (HC7.out.blk (KB5.out.alloc _) (by have := HW2.out; have := HMlt.out; omega)); have HB7 : Hid (Below w.heap.size w w7) := HH ((HB5.out.alloc HB5.out.size _).trans (HC7.out.below (by omega) fun k hk => by have := HW2.out; have := HMlt.out; omega)); have NM7 : Hid (Na w7 (fun b => w2.heap.size ≤ b ∧ b < M) (namesX x) pn) := HH (((Na.keep NM4.out fun b hb => HC5.out.block b (by have := HM4.out; omega) (fun h => by rcases h with h | h | h; omega; (have := (HX0.out b h).2; omega); (have := HM4.out; omega))).keep fun b hb => (one_box w5 (.cells #[.int .i64 0, .int .i64 0, .int .i64 0] 52)).block b (by omega)).keep fun b hb => HC7.out.block b (by omega) (by omega)); obtain ⟨v2, v3, v4, v5, v6, hF⟩ := HFI.out HER.out; have HFF := HH hF; obtain ⟨F2, g2, rfl, -, f2⟩ := own_form hF.r2; obtain ⟨F3, g3, rfl, -, f3⟩ := own_form hF.r3; obtain ⟨cr, hcr, hcr'⟩ := hF.r4; obtain ⟨F4, g4, rfl, -, f4⟩ := own_form hcr; obtain ⟨F5, g5, rfl, -, f5⟩ := own_form hF.r5; obtain ⟨F6, g6, rfl, -, f6⟩ := own_form hF.r6; have HR2 := HH f2; have HR3 := HH f3; have HR4 := HH f4; have HR4' := HH hcr'; have HR5 := HH f5; have HR6 := HH f6; have HMS7 : Hid (M < w7.heap.size) := HH (by have := HC7.out.size; omega); have HWR : Hid (w.heap.size + 1 + 1 < (w5.alloc (.cells #[.int .i64 0, .int .i64 0, .int .i64 0] 52)).heap.size + 2) := HH (by omega); obtain ⟨LL, hLL, hblk⟩ := hF.blk; have HLL := HH hLL; have HBK7 := HH hblk; clear f2 f3 f4 f5 f6 hcr hcr' hblk hF hLL hs6 h52 hM5; clear hfin hc7 hms))
        obtain ⟨W8, hW8⟩ : ∃ W, W = w7.alloc (.cells #[.int .i64 0, .int .i64 0, .int .i64 0] 52) := ⟨_, rfl⟩
        have KM8 : Hid (Blk W8 M 177 (LL ++ (nvL x.horizon (namesX x) pn ++ [.slice F2 (numX x).paths.length g2, .slice F3 (numX x).doors.length g3, .slice F4 (numX x).routes.length g4, .slice F5 (numX x).trips.length g5, .slice F6 (numX x).hazards.length g6]))) := HH (by rw [hW8]; exact HBK7.out.alloc _)
        have KW6 : Hid (Blk W8 (w.heap.size + 1) 37 [.int .i64 0, .slice none 0 0, .slice none 0 0, .slice none 0 0, .slice none 0 0, .slice none 0 0, .slice none 0 0, .slice none 0 0, .slice none 0 0, .slice none 0 0, .slice none 0 0, .slice none 0 0]) := HH (by rw [hW8]; exact KW5.out.alloc _)
        have KB6 : Hid (Blk W8 (w.heap.size + 1 + 1) 52 [.int .i64 0, .int .i64 0, .int .i64 0]) := HH (by rw [hW8]; exact KB5.out.alloc _)
        have B78 : Hid (Below w7.heap.size w7 W8) := HH (by rw [hW8]; exact one_box _ _)
        rw [← hW8]
        clear hW8
        have hcell := fin_cell KM8.out HLL.out
        have m0 : W8.cell? ⟨M, 9, none⟩ = some (.int .i64 x.horizon) := hcell 0
        have m1 : W8.cell? ⟨M, 10, none⟩ = some (.slice pn.a1 (namesX x).stops.length pn.c1) := hcell 1
        have m2 : W8.cell? ⟨M, 11, none⟩ = some (.slice pn.a2 (namesX x).paths.length pn.c2) := hcell 2
        have m3 : W8.cell? ⟨M, 12, none⟩ = some (.slice pn.a3 (namesX x).doors.length pn.c3) := hcell 3
        have m4 : W8.cell? ⟨M, 13, none⟩ = some (.slice pn.a4 (namesX x).routes.length pn.c4) := hcell 4
        have m5 : W8.cell? ⟨M, 14, none⟩ = some (.slice pn.a5 (namesX x).trips.length pn.c5) := hcell 5
        have m6 : W8.cell? ⟨M, 15, none⟩ = some (.slice pn.a6 (namesX x).hazards.length pn.c6) := hcell 6
        have m7 : W8.cell? ⟨M, 16, none⟩ = some (.slice F2 (numX x).paths.length g2) := hcell 7
        have m8 : W8.cell? ⟨M, 17, none⟩ = some (.slice F3 (numX x).doors.length g3) := hcell 8
        have m9 : W8.cell? ⟨M, 18, none⟩ = some (.slice F4 (numX x).routes.length g4) := hcell 9
        have m10 : W8.cell? ⟨M, 19, none⟩ = some (.slice F5 (numX x).trips.length g5) := hcell 10
        have m11 : W8.cell? ⟨M, 20, none⟩ = some (.slice F6 (numX x).hazards.length g6) := hcell 11
        clear hcell
        have q0 : W8.cell? ⟨w.heap.size + 1, 0, none⟩ = some (.int .i64 0) := KW6.out.cell 0
        have q1 : W8.cell? ⟨w.heap.size + 1, 1, none⟩ = some (.slice none 0 0) := KW6.out.cell 1
        have q2 : W8.cell? ⟨w.heap.size + 1, 2, none⟩ = some (.slice none 0 0) := KW6.out.cell 2
        have q3 : W8.cell? ⟨w.heap.size + 1, 3, none⟩ = some (.slice none 0 0) := KW6.out.cell 3
        have q4 : W8.cell? ⟨w.heap.size + 1, 4, none⟩ = some (.slice none 0 0) := KW6.out.cell 4
        have q5 : W8.cell? ⟨w.heap.size + 1, 5, none⟩ = some (.slice none 0 0) := KW6.out.cell 5
        have q6 : W8.cell? ⟨w.heap.size + 1, 6, none⟩ = some (.slice none 0 0) := KW6.out.cell 6
        have q7 : W8.cell? ⟨w.heap.size + 1, 7, none⟩ = some (.slice none 0 0) := KW6.out.cell 7
        have q8 : W8.cell? ⟨w.heap.size + 1, 8, none⟩ = some (.slice none 0 0) := KW6.out.cell 8
        have q9 : W8.cell? ⟨w.heap.size + 1, 9, none⟩ = some (.slice none 0 0) := KW6.out.cell 9
        have q10 : W8.cell? ⟨w.heap.size + 1, 10, none⟩ = some (.slice none 0 0) := KW6.out.cell 10
        have q11 : W8.cell? ⟨w.heap.size + 1, 11, none⟩ = some (.slice none 0 0) := KW6.out.cell 11
        have qf : ∀ i, W8.frozen? ⟨w.heap.size + 1, i, none⟩ = false := fun i => KW6.out.frozen i
        have r0 : W8.cell? ⟨w.heap.size + 1 + 1, 0, none⟩ = some (.int .i64 0) := KB6.out.cell 0
        have r1 : W8.cell? ⟨w.heap.size + 1 + 1, 1, none⟩ = some (.int .i64 0) := KB6.out.cell 1
        have r2 : W8.cell? ⟨w.heap.size + 1 + 1, 2, none⟩ = some (.int .i64 0) := KB6.out.cell 2
        have rf : ∀ i, W8.frozen? ⟨w.heap.size + 1 + 1, i, none⟩ = false := fun i => KB6.out.frozen i
        go_wp2_with fail
        change bodyPost _ _ _ _ _ (sto3 (sto12 W8 (w.heap.size + 1) (.int .i64 x.horizon) (.slice pn.a1 (namesX x).stops.length pn.c1) (.slice pn.a2 (namesX x).paths.length pn.c2) (.slice pn.a3 (namesX x).doors.length pn.c3) (.slice pn.a4 (namesX x).routes.length pn.c4) (.slice pn.a5 (namesX x).trips.length pn.c5) (.slice pn.a6 (namesX x).hazards.length pn.c6) (.slice F2 (numX x).paths.length g2) (.slice F3 (numX x).doors.length g3) (.slice F4 (numX x).routes.length g4) (.slice F5 (numX x).trips.length g5) (.slice F6 (numX x).hazards.length g6)) (w.heap.size + 1 + 1) (.int .i64 0) (.int .i64 0) (.int .i64 0))
        obtain ⟨e1, e2, e3⟩ := sto_both KW6.out KB6.out (by omega) (.int .i64 x.horizon) (.slice pn.a1 (namesX x).stops.length pn.c1) (.slice pn.a2 (namesX x).paths.length pn.c2) (.slice pn.a3 (namesX x).doors.length pn.c3) (.slice pn.a4 (namesX x).routes.length pn.c4) (.slice pn.a5 (namesX x).trips.length pn.c5) (.slice pn.a6 (namesX x).hazards.length pn.c6) (.slice F2 (numX x).paths.length g2) (.slice F3 (numX x).doors.length g3) (.slice F4 (numX x).routes.length g4) (.slice F5 (numX x).trips.length g5) (.slice F6 (numX x).hazards.length g6) (.int .i64 0) (.int .i64 0) (.int .i64 0)
        generalize (sto3 (sto12 W8 (w.heap.size + 1) (.int .i64 x.horizon) (.slice pn.a1 (namesX x).stops.length pn.c1) (.slice pn.a2 (namesX x).paths.length pn.c2) (.slice pn.a3 (namesX x).doors.length pn.c3) (.slice pn.a4 (namesX x).routes.length pn.c4) (.slice pn.a5 (namesX x).trips.length pn.c5) (.slice pn.a6 (namesX x).hazards.length pn.c6) (.slice F2 (numX x).paths.length g2) (.slice F3 (numX x).doors.length g3) (.slice F4 (numX x).routes.length g4) (.slice F5 (numX x).trips.length g5) (.slice F6 (numX x).hazards.length g6)) (w.heap.size + 1 + 1) (.int .i64 0) (.int .i64 0) (.int .i64 0)) = W9 at *
        refine bodyPost_ret (mk_read rfl rfl e1 e2) rfl ?_
        have B89 : Below w.heap.size W8 W9 := e3.below (by have := HB7.out.size; have := B78.out.size; omega) fun k hk => by omega
        have B9 : Below w.heap.size w W9 := (keep_trans HB7.out B78.out).trans B89
        have hlow : ∀ k, (k = w.heap.size + 1 ∨ k = w.heap.size + 1 + 1) → k < w2.heap.size := fun k hk => by have := HW2.out; omega
        have hlow2 : ∀ k, (k = w.heap.size + 1 ∨ k = w.heap.size + 1 + 1) → k < (w5.alloc (.cells #[.int .i64 0, .int .i64 0, .int .i64 0] 52)).heap.size + 2 := fun k hk => by have := HWR.out; omega
        have hz9 : W8.heap.size ≤ W9.heap.size := e3.size
        have hown2 := e3.own (own_after HFF.out.r2 B78.out) (fun k hk h => by have := (HFF.out.r2.lt k hk).1; have := hlow2 k h; omega)
        refine ⟨⟨pn, F2, F3, F4, F5, F6, g2, g3, g4, g5, g6⟩, by rw [HW.out, HX.out]; rfl, ?_, B9, _, by rw [HX.out]; exact hown2⟩
        rw [HX.out]
        have hbase : w.heap.size ≤ (w5.alloc (.cells #[.int .i64 0, .int .i64 0, .int .i64 0] 52)).heap.size + 2 := by have := HWR.out; omega
        refine ⟨((NM7.out.keep fun b hb => B78.out.block b (by have := KM8.out.lt; have := HMS7.out; omega)).keep fun b hb => e3.block b (by have := KM8.out.lt; omega) fun h => by have := hlow b h; omega).more fun b hb => ⟨by have := HW2.out; omega, by have := KM8.out.lt; omega⟩, ?_, ?_, ⟨cr, ?_, ?_⟩, ?_, ?_⟩
        · exact (Rd.more ((Fr.later (B := (w5.alloc (.cells #[.int .i64 0, .int .i64 0, .int .i64 0] 52)).heap.size + 2) HR2.out B78.out).low e3 hlow2) fun b hb => ⟨Nat.le_trans hbase hb.1, hb.2⟩)
        · exact (Rd.more ((Fr.later (B := (w5.alloc (.cells #[.int .i64 0, .int .i64 0, .int .i64 0] 52)).heap.size + 2) HR3.out B78.out).low e3 hlow2) fun b hb => ⟨Nat.le_trans hbase hb.1, hb.2⟩)
        · exact (Rd.more ((Fr.later (B := (w5.alloc (.cells #[.int .i64 0, .int .i64 0, .int .i64 0] 52)).heap.size + 2) HR4.out B78.out).low e3 hlow2) fun b hb => ⟨Nat.le_trans hbase hb.1, hb.2⟩)
        · exact ((HR4'.out.keep fun b hb => B78.out.block b hb.2).keep fun b hb => e3.block b (Nat.lt_of_lt_of_le hb.2 B78.out.size) fun h => by have := hlow2 b h; omega).more fun b hb => ⟨Nat.le_trans hbase hb.1, Nat.lt_of_lt_of_le (Nat.lt_of_lt_of_le hb.2 B78.out.size) hz9⟩
        · exact (Rd.more ((Fr.later (B := (w5.alloc (.cells #[.int .i64 0, .int .i64 0, .int .i64 0] 52)).heap.size + 2) HR5.out B78.out).low e3 hlow2) fun b hb => ⟨Nat.le_trans hbase hb.1, hb.2⟩)
        · exact (Rd.more ((Fr.later (B := (w5.alloc (.cells #[.int .i64 0, .int .i64 0, .int .i64 0] 52)).heap.size + 2) HR6.out B78.out).low e3 hlow2) fun b hb => ⟨Nat.le_trans hbase hb.1, hb.2⟩)
      · have HW : Hid (wrongX x = errW (numX x)) := HH (by unfold wrongX; rw [if_neg (by rw [HHK.out]; simp), if_neg (by rw [HDU.out]; simp)])
        have HX : Hid (makeX x = zWo) := HH (by unfold makeX; rw [HW.out, if_pos hr])
        have HER := HH (rfl : errW (numX x) = errW (numX x))
        generalize hdw : errW (numX x) = dw at hr HW HER
        obtain ⟨de, dk, dt⟩ := dw
        replace HER : Hid (errW (numX x) = ⟨de, dk, dt⟩) := HH hdw
        have hr2 : (de == 0) = false := by simpa using hr
        have hr3 : ¬ (de = 0) := hr
        clear hdw hr
        go_wp2_with (first
          | (go_at_call 122; refine HE2.out.mono ?_; rintro e w5 ⟨rfl, hc5, hst⟩; have HC5 := hc5; have HST := hst; have KW5 := HH (HC5.out.blk KW4.out (HNOT.out _ (by omega))); have KB5 := HH (HC5.out.blk KB4.out (HNOT.out _ (by omega))); have HB5 : Hid (Below w.heap.size w w5) := HH (HCB.out _ HC5.out); clear hc5 hst)
          | (go_at_call 123; have HMS : Hid (∃ X A tn c, Ms (w5.alloc (.cells #[.int .i64 0, .int .i64 0, .int .i64 0] 52)) (w5.alloc (.cells #[.int .i64 0, .int .i64 0, .int .i64 0] 52)).heap.size M T X x p A tn c (nvL x.horizon (namesX x) pn) (wAt x 0) (.slice none 0 0) (.slice none 0 0) (.slice none 0 0) (.slice none 0 0) (.slice none 0 0)) := HH (ms_start HST.out HS.out HB5.out (by have := HM4.out; have := HC5.out.size; omega) (by have := HW2.out; have := HMlt.out; omega) (fun k hk => hk.elim (fun h => by have := (HX0.out k h).2; have := HMlt.out; omega) (fun h => by have := HM4.out; omega)) HM4.out); obtain ⟨X, tA, tn, tc, hms⟩ := HMS.out; refine (check_any hms HL.out (nl_of HOK.out)).mono ?_; rintro e w7 ⟨he, hfin, hc7⟩; rw [HER.out] at he; subst he; have HC7 := HH hc7; have HFI := HH hfin; have hs6 : (w5.alloc (.cells #[.int .i64 0, .int .i64 0, .int .i64 0] 52)).heap.size = w5.heap.size + 1 := (by simp); have h52 : w.heap.size + 1 + 1 < w5.heap.size := KB5.out.lt; have hM5 : M < w5.heap.size := (by have := HM4.out; have := HC5.out.size; omega); have KW5 := HH (HC7.out.blk (KW5.out.alloc _) (by have := HW2.out; have := HMlt.out; omega)); have KB5 := HH (HC7.out.blk (KB5.out.alloc _) (by have := HW2.out; have := HMlt.out; omega)); have HB7 : Hid (Below w.heap.size w w7) := HH ((HB5.out.alloc HB5.out.size _).trans (HC7.out.below (by omega) fun k hk => by have := HW2.out; have := HMlt.out; omega)); clear hfin hc7 hms))
        obtain ⟨W6, hW6⟩ : ∃ W, W = w7.alloc (.cells #[.int .i64 de, .int .i64 dk, .int .i64 dt] 52) := ⟨_, rfl⟩
        have K8 : Hid (Blk W6 w7.heap.size 52 [.int .i64 de, .int .i64 dk, .int .i64 dt]) := HH (by rw [hW6]; exact Blk.new w7 _ _)
        have KW6 : Hid (Blk W6 (w.heap.size + 1) 37 [.int .i64 0, .slice none 0 0, .slice none 0 0, .slice none 0 0, .slice none 0 0, .slice none 0 0, .slice none 0 0, .slice none 0 0, .slice none 0 0, .slice none 0 0, .slice none 0 0, .slice none 0 0]) := HH (by rw [hW6]; exact KW5.out.alloc _)
        have KB6 : Hid (Blk W6 (w.heap.size + 1 + 1) 52 [.int .i64 0, .int .i64 0, .int .i64 0]) := HH (by rw [hW6]; exact KB5.out.alloc _)
        have HB6 : Hid (Below w.heap.size w W6) := HH (by rw [hW6]; exact HB7.out.alloc HB7.out.size _)
        rw [← hW6]
        clear hW6
        have hbn1 : w7.heap.size ≠ w.heap.size + 1 := by have := KW5.out.lt; omega
        have hbn2 : w7.heap.size ≠ w.heap.size + 1 + 1 := by have := KB5.out.lt; omega
        have hbn3 : w.heap.size + 1 ≠ w7.heap.size := fun h => hbn1 h.symm
        have hbn4 : w.heap.size + 1 + 1 ≠ w7.heap.size := fun h => hbn2 h.symm
        generalize w7.heap.size = b at K8 hbn1 hbn2 hbn3 hbn4 ⊢
        have q0 : W6.cell? ⟨w.heap.size + 1, 0, none⟩ = some (.int .i64 0) := KW6.out.cell 0
        have q1 : W6.cell? ⟨w.heap.size + 1, 1, none⟩ = some (.slice none 0 0) := KW6.out.cell 1
        have q2 : W6.cell? ⟨w.heap.size + 1, 2, none⟩ = some (.slice none 0 0) := KW6.out.cell 2
        have q3 : W6.cell? ⟨w.heap.size + 1, 3, none⟩ = some (.slice none 0 0) := KW6.out.cell 3
        have q4 : W6.cell? ⟨w.heap.size + 1, 4, none⟩ = some (.slice none 0 0) := KW6.out.cell 4
        have q5 : W6.cell? ⟨w.heap.size + 1, 5, none⟩ = some (.slice none 0 0) := KW6.out.cell 5
        have q6 : W6.cell? ⟨w.heap.size + 1, 6, none⟩ = some (.slice none 0 0) := KW6.out.cell 6
        have q7 : W6.cell? ⟨w.heap.size + 1, 7, none⟩ = some (.slice none 0 0) := KW6.out.cell 7
        have q8 : W6.cell? ⟨w.heap.size + 1, 8, none⟩ = some (.slice none 0 0) := KW6.out.cell 8
        have q9 : W6.cell? ⟨w.heap.size + 1, 9, none⟩ = some (.slice none 0 0) := KW6.out.cell 9
        have q10 : W6.cell? ⟨w.heap.size + 1, 10, none⟩ = some (.slice none 0 0) := KW6.out.cell 10
        have q11 : W6.cell? ⟨w.heap.size + 1, 11, none⟩ = some (.slice none 0 0) := KW6.out.cell 11
        have qf : ∀ i, W6.frozen? ⟨w.heap.size + 1, i, none⟩ = false := fun i => KW6.out.frozen i
        have r0 : W6.cell? ⟨w.heap.size + 1 + 1, 0, none⟩ = some (.int .i64 0) := KB6.out.cell 0
        have r1 : W6.cell? ⟨w.heap.size + 1 + 1, 1, none⟩ = some (.int .i64 0) := KB6.out.cell 1
        have r2 : W6.cell? ⟨w.heap.size + 1 + 1, 2, none⟩ = some (.int .i64 0) := KB6.out.cell 2
        have rf : ∀ i, W6.frozen? ⟨w.heap.size + 1 + 1, i, none⟩ = false := fun i => KB6.out.frozen i
        have y0 : W6.cell? ⟨b, 0, none⟩ = some (.int .i64 de) := K8.out.cell 0
        have y1 : W6.cell? ⟨b, 1, none⟩ = some (.int .i64 dk) := K8.out.cell 1
        have y2 : W6.cell? ⟨b, 2, none⟩ = some (.int .i64 dt) := K8.out.cell 2
        have KC8 : Hid (∀ w', Ch (fun k => k = w.heap.size + 1 ∨ k = w.heap.size + 1 + 1) W6 w' → w'.cell? ⟨b, 0, none⟩ = some (.int .i64 de) ∧ w'.cell? ⟨b, 1, none⟩ = some (.int .i64 dk) ∧ w'.cell? ⟨b, 2, none⟩ = some (.int .i64 dt)) := HH (fun w' hc => by
          have a := hc.blk K8.out (fun h => h.elim hbn1 hbn2)
          exact ⟨a.cell 0, a.cell 1, a.cell 2⟩)
        clear q0 q1 q2 q3 q4 q5 q6 q7 q8 q9 q10 q11 qf r0 r1 r2 rf y0 y1 y2
        refine wp_region_held_drew (S := fun w' => Hid (Ch (fun k => k = w.heap.size + 1 ∨ k = w.heap.size + 1 + 1) W6 w')) (by kernel_rfl) ?_ (fun hHeld => ?_)
        · exact HH ((Ch.refl _ W6).drew)
        refine tak 0 ?vu2001 rfl ?hyu2001 ?restu2001
        case hyu2001 => (intro w' hSw; obtain ⟨y0, y1, y2⟩ := KC8.out w' hSw.out; clear hSw; go_simp; try with_reducible rfl)
        simp only [ptk]
        refine tak 1 ?vu2002 rfl ?hyu2002 ?restu2002
        case hyu2002 => (intro w' hSw; obtain ⟨y0, y1, y2⟩ := KC8.out w' hSw.out; clear hSw; go_simp; try with_reducible rfl)
        simp only [ptk]
        have D0 := hHeld
        clear hHeld
        have KW7 : Hid (Blk (World.drew W6) (w.heap.size + 1) 37 [.int .i64 0, .slice none 0 0, .slice none 0 0, .slice none 0 0, .slice none 0 0, .slice none 0 0, .slice none 0 0, .slice none 0 0, .slice none 0 0, .slice none 0 0, .slice none 0 0, .slice none 0 0]) := KW6
        have KB7 : Hid (Blk (World.drew W6) (w.heap.size + 1 + 1) 52 [.int .i64 0, .int .i64 0, .int .i64 0]) := KB6
        generalize World.drew W6 = v0 at *
        refine rdy [2] ?_
        refine AllReadyH.cons rfl (fun K hK => ?_) AllReadyH.nil
        have q0 : v0.cell? ⟨w.heap.size + 1, 0, none⟩ = some (.int .i64 0) := KW7.out.cell 0
        have q1 : v0.cell? ⟨w.heap.size + 1, 1, none⟩ = some (.slice none 0 0) := KW7.out.cell 1
        have q2 : v0.cell? ⟨w.heap.size + 1, 2, none⟩ = some (.slice none 0 0) := KW7.out.cell 2
        have q3 : v0.cell? ⟨w.heap.size + 1, 3, none⟩ = some (.slice none 0 0) := KW7.out.cell 3
        have q4 : v0.cell? ⟨w.heap.size + 1, 4, none⟩ = some (.slice none 0 0) := KW7.out.cell 4
        have q5 : v0.cell? ⟨w.heap.size + 1, 5, none⟩ = some (.slice none 0 0) := KW7.out.cell 5
        have q6 : v0.cell? ⟨w.heap.size + 1, 6, none⟩ = some (.slice none 0 0) := KW7.out.cell 6
        have q7 : v0.cell? ⟨w.heap.size + 1, 7, none⟩ = some (.slice none 0 0) := KW7.out.cell 7
        have q8 : v0.cell? ⟨w.heap.size + 1, 8, none⟩ = some (.slice none 0 0) := KW7.out.cell 8
        have q9 : v0.cell? ⟨w.heap.size + 1, 9, none⟩ = some (.slice none 0 0) := KW7.out.cell 9
        have q10 : v0.cell? ⟨w.heap.size + 1, 10, none⟩ = some (.slice none 0 0) := KW7.out.cell 10
        have q11 : v0.cell? ⟨w.heap.size + 1, 11, none⟩ = some (.slice none 0 0) := KW7.out.cell 11
        have qf : ∀ i, v0.frozen? ⟨w.heap.size + 1, i, none⟩ = false := fun i => KW7.out.frozen i
        go_simp
        clear q0 q1 q2 q3 q4 q5 q6 q7 q8 q9 q10 q11 qf
        change K _ (sto12 v0 (w.heap.size + 1) (.int .i64 0) (.slice none 0 0) (.slice none 0 0) (.slice none 0 0) (.slice none 0 0) (.slice none 0 0) (.slice none 0 0) (.slice none 0 0) (.slice none 0 0) (.slice none 0 0) (.slice none 0 0) (.slice none 0 0))
        have D1 : Hid (Ch (fun k => k = w.heap.size + 1 ∨ k = w.heap.size + 1 + 1) W6 (sto12 v0 (w.heap.size + 1) (.int .i64 0) (.slice none 0 0) (.slice none 0 0) (.slice none 0 0) (.slice none 0 0) (.slice none 0 0) (.slice none 0 0) (.slice none 0 0) (.slice none 0 0) (.slice none 0 0) (.slice none 0 0) (.slice none 0 0))) := HH (D0.out.trans' ((sto12_ch v0 (w.heap.size + 1) (.int .i64 0) (.slice none 0 0) (.slice none 0 0) (.slice none 0 0) (.slice none 0 0) (.slice none 0 0) (.slice none 0 0) (.slice none 0 0) (.slice none 0 0) (.slice none 0 0) (.slice none 0 0) (.slice none 0 0)).mono (Y := fun k => k = w.heap.size + 1 ∨ k = w.heap.size + 1 + 1) fun _ _ h => .inl h) (fun _ _ h => h))
        have KW8 := HH (sto12_blk KW7.out (.int .i64 0) (.slice none 0 0) (.slice none 0 0) (.slice none 0 0) (.slice none 0 0) (.slice none 0 0) (.slice none 0 0) (.slice none 0 0) (.slice none 0 0) (.slice none 0 0) (.slice none 0 0) (.slice none 0 0))
        have KB8 := HH ((sto12_ch v0 (w.heap.size + 1) (.int .i64 0) (.slice none 0 0) (.slice none 0 0) (.slice none 0 0) (.slice none 0 0) (.slice none 0 0) (.slice none 0 0) (.slice none 0 0) (.slice none 0 0) (.slice none 0 0) (.slice none 0 0) (.slice none 0 0)).blk KB7.out (by omega))
        generalize (sto12 v0 (w.heap.size + 1) (.int .i64 0) (.slice none 0 0) (.slice none 0 0) (.slice none 0 0) (.slice none 0 0) (.slice none 0 0) (.slice none 0 0) (.slice none 0 0) (.slice none 0 0) (.slice none 0 0) (.slice none 0 0) (.slice none 0 0)) = v1 at *
        refine hK.out _ _ D1 (fun hHeld => ?_)
        clear hK K hHeld
        refine rdy [3] ?_
        refine AllReadyH.cons rfl (fun K hK => ?_) AllReadyH.nil
        have r0 : v1.cell? ⟨w.heap.size + 1 + 1, 0, none⟩ = some (.int .i64 0) := KB8.out.cell 0
        have r1 : v1.cell? ⟨w.heap.size + 1 + 1, 1, none⟩ = some (.int .i64 0) := KB8.out.cell 1
        have r2 : v1.cell? ⟨w.heap.size + 1 + 1, 2, none⟩ = some (.int .i64 0) := KB8.out.cell 2
        have rf : ∀ i, v1.frozen? ⟨w.heap.size + 1 + 1, i, none⟩ = false := fun i => KB8.out.frozen i
        go_simp
        clear r0 r1 r2 rf
        change K _ (sto3 v1 (w.heap.size + 1 + 1) (.int .i64 de) (.int .i64 dk) (.int .i64 dt))
        have D2 : Hid (Ch (fun k => k = w.heap.size + 1 ∨ k = w.heap.size + 1 + 1) W6 (sto3 v1 (w.heap.size + 1 + 1) (.int .i64 de) (.int .i64 dk) (.int .i64 dt))) := HH (D1.out.trans' ((sto3_ch v1 (w.heap.size + 1 + 1) (.int .i64 de) (.int .i64 dk) (.int .i64 dt)).mono (Y := fun k => k = w.heap.size + 1 ∨ k = w.heap.size + 1 + 1) fun _ _ h => .inr h) (fun _ _ h => h))
        have KB9 := HH (sto3_blk KB8.out (.int .i64 de) (.int .i64 dk) (.int .i64 dt))
        have KW9 := HH ((sto3_ch v1 (w.heap.size + 1 + 1) (.int .i64 de) (.int .i64 dk) (.int .i64 dt)).blk KW8.out (by omega))
        generalize (sto3 v1 (w.heap.size + 1 + 1) (.int .i64 de) (.int .i64 dk) (.int .i64 dt)) = v2_ at *
        refine hK.out _ _ D2 (fun hHeld => ?_)
        clear hK K hHeld
        refine wpAnyH_done (by kernel_rfl) ?_ _
        go_wp2_with fail
        refine bodyPost_ret (mk_read rfl rfl KW9.out KB9.out) rfl ?_
        exact ⟨noA, by rw [HW.out, HX.out]; rfl, by rw [HX.out]; exact wo_none _ _, HB6.out.trans (D2.out.below HB6.out.size fun k hk => by omega), 0, by rw [HX.out]; exact own_nil⟩
    · have HW : Hid (wrongX x = dupW (namesX x)) := HH (by unfold wrongX; rw [if_neg (by rw [HHK.out]; simp), if_pos hd])
      have HX : Hid (makeX x = zWo) := HH (by unfold makeX; rw [HW.out, if_pos hd])
      have HE2 : Hid (Calls Tryz.prog 122 #[.pointer (some ⟨M, 0, none⟩)] w4 (fun e w' => e = .returned (wrV (dupW (namesX x))) ∧ Hid (Ch (fun k => k = M ∨ Fresh w1 w2 k ∨ w4.heap.size ≤ k) w4 w'))) := HH (HEN.out.mono fun e w' he => ⟨he.1, HH he.2.1⟩)
      clear HEN
      generalize dupW (namesX x) = dw at *
      obtain ⟨de, dk, dt⟩ := dw
      dsimp only [wrV] at HE2 hd
      have hr2 : (de == 0) = false := by simpa using hd
      go_wp2_with (go_at_call 122; refine HE2.out.mono ?_; rintro e w5 ⟨rfl, hc5⟩; have HC5 := hc5; have KW5 := HH (HC5.out.blk KW4.out (HNOT.out _ (by omega))); have KB5 := HH (HC5.out.blk KB4.out (HNOT.out _ (by omega))); have HB5 : Hid (Below w.heap.size w w5) := HH (HCB.out _ HC5.out); clear hc5)
      obtain ⟨W6, hW6⟩ : ∃ W, W = w5.alloc (.cells #[.int .i64 de, .int .i64 dk, .int .i64 dt] 52) := ⟨_, rfl⟩
      have K8 : Hid (Blk W6 w5.heap.size 52 [.int .i64 de, .int .i64 dk, .int .i64 dt]) := HH (by rw [hW6]; exact Blk.new w5 _ _)
      have KW6 : Hid (Blk W6 (w.heap.size + 1) 37 [.int .i64 0, .slice none 0 0, .slice none 0 0, .slice none 0 0, .slice none 0 0, .slice none 0 0, .slice none 0 0, .slice none 0 0, .slice none 0 0, .slice none 0 0, .slice none 0 0, .slice none 0 0]) := HH (by rw [hW6]; exact KW5.out.alloc _)
      have KB6 : Hid (Blk W6 (w.heap.size + 1 + 1) 52 [.int .i64 0, .int .i64 0, .int .i64 0]) := HH (by rw [hW6]; exact KB5.out.alloc _)
      have HB6 : Hid (Below w.heap.size w W6) := HH (by rw [hW6]; exact HB5.out.alloc HB5.out.size _)
      rw [← hW6]
      clear hW6
      have hbn1 : w5.heap.size ≠ w.heap.size + 1 := by have := KW5.out.lt; omega
      have hbn2 : w5.heap.size ≠ w.heap.size + 1 + 1 := by have := KB5.out.lt; omega
      have hbn3 : w.heap.size + 1 ≠ w5.heap.size := fun h => hbn1 h.symm
      have hbn4 : w.heap.size + 1 + 1 ≠ w5.heap.size := fun h => hbn2 h.symm
      generalize w5.heap.size = b at K8 hbn1 hbn2 hbn3 hbn4 ⊢
      have q0 : W6.cell? ⟨w.heap.size + 1, 0, none⟩ = some (.int .i64 0) := KW6.out.cell 0
      have q1 : W6.cell? ⟨w.heap.size + 1, 1, none⟩ = some (.slice none 0 0) := KW6.out.cell 1
      have q2 : W6.cell? ⟨w.heap.size + 1, 2, none⟩ = some (.slice none 0 0) := KW6.out.cell 2
      have q3 : W6.cell? ⟨w.heap.size + 1, 3, none⟩ = some (.slice none 0 0) := KW6.out.cell 3
      have q4 : W6.cell? ⟨w.heap.size + 1, 4, none⟩ = some (.slice none 0 0) := KW6.out.cell 4
      have q5 : W6.cell? ⟨w.heap.size + 1, 5, none⟩ = some (.slice none 0 0) := KW6.out.cell 5
      have q6 : W6.cell? ⟨w.heap.size + 1, 6, none⟩ = some (.slice none 0 0) := KW6.out.cell 6
      have q7 : W6.cell? ⟨w.heap.size + 1, 7, none⟩ = some (.slice none 0 0) := KW6.out.cell 7
      have q8 : W6.cell? ⟨w.heap.size + 1, 8, none⟩ = some (.slice none 0 0) := KW6.out.cell 8
      have q9 : W6.cell? ⟨w.heap.size + 1, 9, none⟩ = some (.slice none 0 0) := KW6.out.cell 9
      have q10 : W6.cell? ⟨w.heap.size + 1, 10, none⟩ = some (.slice none 0 0) := KW6.out.cell 10
      have q11 : W6.cell? ⟨w.heap.size + 1, 11, none⟩ = some (.slice none 0 0) := KW6.out.cell 11
      have qf : ∀ i, W6.frozen? ⟨w.heap.size + 1, i, none⟩ = false := fun i => KW6.out.frozen i
      have r0 : W6.cell? ⟨w.heap.size + 1 + 1, 0, none⟩ = some (.int .i64 0) := KB6.out.cell 0
      have r1 : W6.cell? ⟨w.heap.size + 1 + 1, 1, none⟩ = some (.int .i64 0) := KB6.out.cell 1
      have r2 : W6.cell? ⟨w.heap.size + 1 + 1, 2, none⟩ = some (.int .i64 0) := KB6.out.cell 2
      have rf : ∀ i, W6.frozen? ⟨w.heap.size + 1 + 1, i, none⟩ = false := fun i => KB6.out.frozen i
      have y0 : W6.cell? ⟨b, 0, none⟩ = some (.int .i64 de) := K8.out.cell 0
      have y1 : W6.cell? ⟨b, 1, none⟩ = some (.int .i64 dk) := K8.out.cell 1
      have y2 : W6.cell? ⟨b, 2, none⟩ = some (.int .i64 dt) := K8.out.cell 2
      have KC8 : Hid (∀ w', Ch (fun k => k = w.heap.size + 1 ∨ k = w.heap.size + 1 + 1) W6 w' → w'.cell? ⟨b, 0, none⟩ = some (.int .i64 de) ∧ w'.cell? ⟨b, 1, none⟩ = some (.int .i64 dk) ∧ w'.cell? ⟨b, 2, none⟩ = some (.int .i64 dt)) := HH (fun w' hc => by
        have a := hc.blk K8.out (fun h => h.elim hbn1 hbn2)
        exact ⟨a.cell 0, a.cell 1, a.cell 2⟩)
      clear q0 q1 q2 q3 q4 q5 q6 q7 q8 q9 q10 q11 qf r0 r1 r2 rf y0 y1 y2
      refine wp_region_held_drew (S := fun w' => Hid (Ch (fun k => k = w.heap.size + 1 ∨ k = w.heap.size + 1 + 1) W6 w')) (by kernel_rfl) ?_ (fun hHeld => ?_)
      · exact HH ((Ch.refl _ W6).drew)
      refine tak 0 ?vu1001 rfl ?hyu1001 ?restu1001
      case hyu1001 => (intro w' hSw; obtain ⟨y0, y1, y2⟩ := KC8.out w' hSw.out; clear hSw; go_simp; try with_reducible rfl)
      simp only [ptk]
      refine tak 1 ?vu1002 rfl ?hyu1002 ?restu1002
      case hyu1002 => (intro w' hSw; obtain ⟨y0, y1, y2⟩ := KC8.out w' hSw.out; clear hSw; go_simp; try with_reducible rfl)
      simp only [ptk]
      have D0 := hHeld
      clear hHeld
      have KW7 : Hid (Blk (World.drew W6) (w.heap.size + 1) 37 [.int .i64 0, .slice none 0 0, .slice none 0 0, .slice none 0 0, .slice none 0 0, .slice none 0 0, .slice none 0 0, .slice none 0 0, .slice none 0 0, .slice none 0 0, .slice none 0 0, .slice none 0 0]) := KW6
      have KB7 : Hid (Blk (World.drew W6) (w.heap.size + 1 + 1) 52 [.int .i64 0, .int .i64 0, .int .i64 0]) := KB6
      generalize World.drew W6 = v0 at *
      refine rdy [2] ?_
      refine AllReadyH.cons rfl (fun K hK => ?_) AllReadyH.nil
      have q0 : v0.cell? ⟨w.heap.size + 1, 0, none⟩ = some (.int .i64 0) := KW7.out.cell 0
      have q1 : v0.cell? ⟨w.heap.size + 1, 1, none⟩ = some (.slice none 0 0) := KW7.out.cell 1
      have q2 : v0.cell? ⟨w.heap.size + 1, 2, none⟩ = some (.slice none 0 0) := KW7.out.cell 2
      have q3 : v0.cell? ⟨w.heap.size + 1, 3, none⟩ = some (.slice none 0 0) := KW7.out.cell 3
      have q4 : v0.cell? ⟨w.heap.size + 1, 4, none⟩ = some (.slice none 0 0) := KW7.out.cell 4
      have q5 : v0.cell? ⟨w.heap.size + 1, 5, none⟩ = some (.slice none 0 0) := KW7.out.cell 5
      have q6 : v0.cell? ⟨w.heap.size + 1, 6, none⟩ = some (.slice none 0 0) := KW7.out.cell 6
      have q7 : v0.cell? ⟨w.heap.size + 1, 7, none⟩ = some (.slice none 0 0) := KW7.out.cell 7
      have q8 : v0.cell? ⟨w.heap.size + 1, 8, none⟩ = some (.slice none 0 0) := KW7.out.cell 8
      have q9 : v0.cell? ⟨w.heap.size + 1, 9, none⟩ = some (.slice none 0 0) := KW7.out.cell 9
      have q10 : v0.cell? ⟨w.heap.size + 1, 10, none⟩ = some (.slice none 0 0) := KW7.out.cell 10
      have q11 : v0.cell? ⟨w.heap.size + 1, 11, none⟩ = some (.slice none 0 0) := KW7.out.cell 11
      have qf : ∀ i, v0.frozen? ⟨w.heap.size + 1, i, none⟩ = false := fun i => KW7.out.frozen i
      go_simp
      clear q0 q1 q2 q3 q4 q5 q6 q7 q8 q9 q10 q11 qf
      change K _ (sto12 v0 (w.heap.size + 1) (.int .i64 0) (.slice none 0 0) (.slice none 0 0) (.slice none 0 0) (.slice none 0 0) (.slice none 0 0) (.slice none 0 0) (.slice none 0 0) (.slice none 0 0) (.slice none 0 0) (.slice none 0 0) (.slice none 0 0))
      have D1 : Hid (Ch (fun k => k = w.heap.size + 1 ∨ k = w.heap.size + 1 + 1) W6 (sto12 v0 (w.heap.size + 1) (.int .i64 0) (.slice none 0 0) (.slice none 0 0) (.slice none 0 0) (.slice none 0 0) (.slice none 0 0) (.slice none 0 0) (.slice none 0 0) (.slice none 0 0) (.slice none 0 0) (.slice none 0 0) (.slice none 0 0))) := HH (D0.out.trans' ((sto12_ch v0 (w.heap.size + 1) (.int .i64 0) (.slice none 0 0) (.slice none 0 0) (.slice none 0 0) (.slice none 0 0) (.slice none 0 0) (.slice none 0 0) (.slice none 0 0) (.slice none 0 0) (.slice none 0 0) (.slice none 0 0) (.slice none 0 0)).mono (Y := fun k => k = w.heap.size + 1 ∨ k = w.heap.size + 1 + 1) fun _ _ h => .inl h) (fun _ _ h => h))
      have KW8 := HH (sto12_blk KW7.out (.int .i64 0) (.slice none 0 0) (.slice none 0 0) (.slice none 0 0) (.slice none 0 0) (.slice none 0 0) (.slice none 0 0) (.slice none 0 0) (.slice none 0 0) (.slice none 0 0) (.slice none 0 0) (.slice none 0 0))
      have KB8 := HH ((sto12_ch v0 (w.heap.size + 1) (.int .i64 0) (.slice none 0 0) (.slice none 0 0) (.slice none 0 0) (.slice none 0 0) (.slice none 0 0) (.slice none 0 0) (.slice none 0 0) (.slice none 0 0) (.slice none 0 0) (.slice none 0 0) (.slice none 0 0)).blk KB7.out (by omega))
      generalize (sto12 v0 (w.heap.size + 1) (.int .i64 0) (.slice none 0 0) (.slice none 0 0) (.slice none 0 0) (.slice none 0 0) (.slice none 0 0) (.slice none 0 0) (.slice none 0 0) (.slice none 0 0) (.slice none 0 0) (.slice none 0 0) (.slice none 0 0)) = v1 at *
      refine hK.out _ _ D1 (fun hHeld => ?_)
      clear hK K hHeld
      refine rdy [3] ?_
      refine AllReadyH.cons rfl (fun K hK => ?_) AllReadyH.nil
      have r0 : v1.cell? ⟨w.heap.size + 1 + 1, 0, none⟩ = some (.int .i64 0) := KB8.out.cell 0
      have r1 : v1.cell? ⟨w.heap.size + 1 + 1, 1, none⟩ = some (.int .i64 0) := KB8.out.cell 1
      have r2 : v1.cell? ⟨w.heap.size + 1 + 1, 2, none⟩ = some (.int .i64 0) := KB8.out.cell 2
      have rf : ∀ i, v1.frozen? ⟨w.heap.size + 1 + 1, i, none⟩ = false := fun i => KB8.out.frozen i
      go_simp
      clear r0 r1 r2 rf
      change K _ (sto3 v1 (w.heap.size + 1 + 1) (.int .i64 de) (.int .i64 dk) (.int .i64 dt))
      have D2 : Hid (Ch (fun k => k = w.heap.size + 1 ∨ k = w.heap.size + 1 + 1) W6 (sto3 v1 (w.heap.size + 1 + 1) (.int .i64 de) (.int .i64 dk) (.int .i64 dt))) := HH (D1.out.trans' ((sto3_ch v1 (w.heap.size + 1 + 1) (.int .i64 de) (.int .i64 dk) (.int .i64 dt)).mono (Y := fun k => k = w.heap.size + 1 ∨ k = w.heap.size + 1 + 1) fun _ _ h => .inr h) (fun _ _ h => h))
      have KB9 := HH (sto3_blk KB8.out (.int .i64 de) (.int .i64 dk) (.int .i64 dt))
      have KW9 := HH ((sto3_ch v1 (w.heap.size + 1 + 1) (.int .i64 de) (.int .i64 dk) (.int .i64 dt)).blk KW8.out (by omega))
      generalize (sto3 v1 (w.heap.size + 1 + 1) (.int .i64 de) (.int .i64 dk) (.int .i64 dt)) = v2_ at *
      refine hK.out _ _ D2 (fun hHeld => ?_)
      clear hK K hHeld
      refine wpAnyH_done (by kernel_rfl) ?_ _
      go_wp2_with fail
      refine bodyPost_ret (mk_read rfl rfl KW9.out KB9.out) rfl ?_
      exact ⟨noA, by rw [HW.out, HX.out]; rfl, by rw [HX.out]; exact wo_none _ _, HB6.out.trans (D2.out.below HB6.out.size fun k hk => by omega), 0, by rw [HX.out]; exact own_nil⟩
  · have HW : Hid (wrongX x = ⟨checkM x, 0, 0⟩) := HH (by unfold wrongX; rw [if_pos hck])
    have HX : Hid (makeX x = zWo) := HH (by unfold makeX; rw [if_pos (by rw [HW.out]; exact hck)])
    have hck2 : (checkM x == 0) = false := by simpa using hck
    generalize checkM x = er at *
    go_enter Tryz.func88, Tryz.ntmps88
    go_wp2_with (go_at_call 119; refine (HCK.out _ (box3 _ _ _ _)).mono ?_; rintro e w1 ⟨rfl, hb⟩; have HB1 : Hid (Below w.heap.size w w1) := HH (keep_trans (box3 _ _ _ _) hb); have KW : Hid (Blk w1 (w.heap.size + 1) 37 [.int .i64 0, .slice none 0 0, .slice none 0 0, .slice none 0 0, .slice none 0 0, .slice none 0 0, .slice none 0 0, .slice none 0 0, .slice none 0 0, .slice none 0 0, .slice none 0 0, .slice none 0 0]) := HH (Blk.after (blk2 w _ _ _ _) hb); have KB : Hid (Blk w1 (w.heap.size + 1 + 1) 52 [.int .i64 0, .int .i64 0, .int .i64 0]) := HH (Blk.after (blk3 w _ _ _ _) hb); have q0 : w1.cell? ⟨w.heap.size + 1, 0, none⟩ = some (.int .i64 0) := KW.out.cell 0; have q1 : w1.cell? ⟨w.heap.size + 1, 1, none⟩ = some (.slice none 0 0) := KW.out.cell 1; have q2 : w1.cell? ⟨w.heap.size + 1, 2, none⟩ = some (.slice none 0 0) := KW.out.cell 2; have q3 : w1.cell? ⟨w.heap.size + 1, 3, none⟩ = some (.slice none 0 0) := KW.out.cell 3; have q4 : w1.cell? ⟨w.heap.size + 1, 4, none⟩ = some (.slice none 0 0) := KW.out.cell 4; have q5 : w1.cell? ⟨w.heap.size + 1, 5, none⟩ = some (.slice none 0 0) := KW.out.cell 5; have q6 : w1.cell? ⟨w.heap.size + 1, 6, none⟩ = some (.slice none 0 0) := KW.out.cell 6; have q7 : w1.cell? ⟨w.heap.size + 1, 7, none⟩ = some (.slice none 0 0) := KW.out.cell 7; have q8 : w1.cell? ⟨w.heap.size + 1, 8, none⟩ = some (.slice none 0 0) := KW.out.cell 8; have q9 : w1.cell? ⟨w.heap.size + 1, 9, none⟩ = some (.slice none 0 0) := KW.out.cell 9; have q10 : w1.cell? ⟨w.heap.size + 1, 10, none⟩ = some (.slice none 0 0) := KW.out.cell 10; have q11 : w1.cell? ⟨w.heap.size + 1, 11, none⟩ = some (.slice none 0 0) := KW.out.cell 11; have qf : ∀ i, w1.frozen? ⟨w.heap.size + 1, i, none⟩ = false := fun i => KW.out.frozen i; have r0 : w1.cell? ⟨w.heap.size + 1 + 1, 0, none⟩ = some (.int .i64 0) := KB.out.cell 0; have r1 : w1.cell? ⟨w.heap.size + 1 + 1, 1, none⟩ = some (.int .i64 0) := KB.out.cell 1; have r2 : w1.cell? ⟨w.heap.size + 1 + 1, 2, none⟩ = some (.int .i64 0) := KB.out.cell 2; have rf : ∀ i, w1.frozen? ⟨w.heap.size + 1 + 1, i, none⟩ = false := fun i => KB.out.frozen i; clear hb)
    change bodyPost _ _ _ _ _ (sto3 (sto12 w1 (w.heap.size + 1) (.int .i64 0) (.slice none 0 0) (.slice none 0 0) (.slice none 0 0) (.slice none 0 0) (.slice none 0 0) (.slice none 0 0) (.slice none 0 0) (.slice none 0 0) (.slice none 0 0) (.slice none 0 0) (.slice none 0 0)) (w.heap.size + 1 + 1) (.int .i64 er) (.int .i64 0) (.int .i64 0))
    obtain ⟨e1, e2, e3⟩ := sto_both KW.out KB.out (by omega) (.int .i64 0) (.slice none 0 0) (.slice none 0 0) (.slice none 0 0) (.slice none 0 0) (.slice none 0 0) (.slice none 0 0) (.slice none 0 0) (.slice none 0 0) (.slice none 0 0) (.slice none 0 0) (.slice none 0 0) (.int .i64 er) (.int .i64 0) (.int .i64 0)
    refine bodyPost_ret (mk_read rfl rfl e1 e2) rfl ?_
    exact ⟨noA, by rw [HW.out, HX.out]; rfl, by rw [HX.out]; exact wo_none _ _, HB1.out.trans (e3.below HB1.out.size fun k hk => by omega), 0, by rw [HX.out]; exact own_nil⟩
theorem make_any (x : SheetM) (p : ShA) (w : World) (h : Sh w (· < w.heap.size) x p) (hl : XLt x) : Calls Tryz.prog 88 #[shV x p] w (MkPost w x) :=
  (make_own x p w h hl).mono fun e w' ⟨q, h1, h2, h3, _⟩ => ⟨q, h1, h2, h3⟩
end Go.Proofs.YtfefnfifeaihhaaGreat.Wo
