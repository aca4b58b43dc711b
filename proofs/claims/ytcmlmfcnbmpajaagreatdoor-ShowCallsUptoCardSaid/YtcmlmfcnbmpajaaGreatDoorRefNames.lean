/- The document's own lists of a sheet's names and numbers, proved by walking their texts. Conditions: at most 60 things of a kind. -/
import Derived.Test.YtcmlmfcnbmpajaaGreatDoorSheetItems
import Derived.Deep.RegionHeldLaw
namespace Go.Proofs.YtcmlmfcnbmpajaaGreatDoor.Sh
open Go.ChangeShapes Go.WideShapes Go.ChangeAt Go.RowKit
open Lx
set_option linter.unusedVariables false
set_option linter.unusedSimpArgs false

theorem info_I64 : (Tryz.prog.info? 2).map (fun i => (i.zero, i.size, i.bytes)) = some (some (.int .i64 0), 1, 8) := by kernel_rfl
/-- few things, short routes -/
structure Lt (x : SheetM) : Prop where
  l1 : x.stops.length ≤ 60
  l2 : x.paths.length ≤ 60
  l3 : x.doors.length ≤ 60
  l4 : x.routes.length ≤ 60
  l5 : x.trips.length ≤ 60
  l6 : x.hazards.length ≤ 60
  lr : ∀ r ∈ x.routes, r.stops.length ≤ 60 ∧ r.rides.length ≤ 60 ∧ r.stays.length ≤ 60
def namesL (x : SheetM) : List (List UInt8) := x.stops ++ x.paths.flatMap (fun p : PathM => [p.name, p.a, p.b]) ++ x.doors.flatMap (fun p : DoorM => [p.name, p.a, p.b]) ++ x.routes.flatMap (fun r : RouteM => r.name :: r.stops) ++ x.trips.flatMap (fun p : TripM => [p.name, p.route]) ++ x.hazards.flatMap (fun p : HazM => [p.name, p.at_])
def numsL (x : SheetM) : List Int := [x.horizon] ++ x.paths.flatMap (fun p : PathM => [p.len]) ++ x.doors.flatMap (fun p : DoorM => [p.len, p.times.frm, p.times.every, p.times.len]) ++ x.routes.flatMap (fun r : RouteM => r.rides ++ r.stays) ++ x.trips.flatMap (fun p : TripM => [p.frm, p.every, p.til]) ++ x.hazards.flatMap (fun p : HazM => [p.times.frm, p.times.every, p.times.len])
theorem litd_at2 (w : World) (n : Nat) (l : Array Value) (t : TypeId) (xs : List Value) (hn : n = w.heap.size) (h : xs.toArray = l) : Rd (w.alloc (.cells l t)).drew (· < (w.alloc (.cells l t)).heap.size) (some ⟨n, 0, none⟩) xs := lit_at w n l t xs hn h
theorem own_empty' {base size n : Nat} (w : World) (e : TypeId) (hb : base ≤ w.heap.size) (hn : n = w.heap.size) : (w.alloc (.cells #[] e)).ownsRow base e size (.slice (some ⟨n, 0, none⟩) 0 0) 0 [] := by subst hn; exact own_empty hb
theorem below_two {B : Nat} {a W w4 : World} (h3 : Below B W w4) (h4 : Below B a W) : Below B a w4 := h4.trans h3
theorem below_alive2 {w wr W w4 : World} {t : TypeId} {l : List Value} (h1 : Below w.heap.size w wr) (h2 : Blk wr w.heap.size t l) (h3 : Below (w.heap.size + 1) W w4) (h4 : Below wr.heap.size wr W) : Below w.heap.size w w4 ∧ Blk w4 w.heap.size t l :=
  ⟨h1.trans ((h4.mono (by have := h2.lt; omega)).trans (h3.mono (by omega))), (h2.after h4).below h3 (by omega)⟩
theorem cell_keep {B : Nat} {a b : World} {p : Addr} (h : Below B a b) (hb : p.block < B) : b.cell? p = a.cell? p := World.cell?_of_block (h.block _ hb)
theorem cs_each {α : Type} {f : α → List Value} (hf : ∀ a, ∀ u ∈ f a, u.oneCell' = true) (l : List α) : ∀ u ∈ cs f l, u.oneCell' = true := by
  intro u hu
  obtain ⟨a, -, h⟩ := List.mem_flatMap.1 hu
  exact hf a u h
theorem str_one : ∀ a, ∀ u ∈ strC a, u.oneCell' = true := by intro a u hu; simp [strC] at hu; subst hu; rfl
theorem int_one : ∀ a, ∀ u ∈ intC a, u.oneCell' = true := by intro a u hu; simp [intC] at hu; subst hu; rfl
/-- a row so far -/
def RwRel {α β : Type} (w : World) (bx : List Value) (et : TypeId) (cf : β → List Value) (L0 : List β) (N0 : Nat) (f : α → List β) (l : List α) (n : Nat) (v3 vi : Value) (wr : World) : Prop :=
  ∃ (i N c : Nat) (A : Option Addr), v3 = .slice A N c ∧ vi = .int .i64 i ∧ i ≤ n ∧ N ≤ N0 + 200 * i ∧ Hid (wr.ownsRow (w.heap.size + 1) et 1 (.slice A N c) N (cs cf (L0 ++ (l.take i).flatMap f))) ∧ Hid (Below w.heap.size w wr) ∧ Hid (Blk wr w.heap.size 29 bx)
theorem rw_start {α β : Type} {w wr : World} {bx : List Value} {et : TypeId} {cf : β → List Value} {L0 : List β} {N c : Nat} {A : Option Addr} (N0 : Nat) (f : α → List β) (l : List α) (n : Nat) (hN : N ≤ N0) (h : wr.ownsRow (w.heap.size + 1) et 1 (.slice A N c) N (cs cf L0)) (hb : Below w.heap.size w wr) (hk : Blk wr w.heap.size 29 bx) :
    RwRel w bx et cf L0 N0 f l n (.slice A N c) (.int .i64 0) wr := ⟨0, N, c, A, rfl, rfl, by omega, by omega, by show World.ownsRow _ _ _ _ _ _ _; simpa using h, hb, hk⟩
theorem rw_more {α β : Type} {w w' : World} {bx : List Value} {et : TypeId} {cf : β → List Value} {L0 : List β} {N0 N c i m : Nat} {A : Option Addr} {f : α → List β} {l : List α} {n : Nat} {a : α} (ha : l[i]? = some a) (hi : i + 1 ≤ n) (hm : N + m ≤ N0 + 200 * (i + 1)) {news : List Value} (hs : cs cf (f a) = news)
    (h : w'.ownsRow (w.heap.size + 1) et 1 (.slice A (N + m) c) (N + m) (cs cf (L0 ++ (l.take i).flatMap f) ++ news)) (hb : Below w.heap.size w w') (hk : Blk w' w.heap.size 29 bx) :
    RwRel w bx et cf L0 N0 f l n (.slice A (N + m) c) (.int .i64 ((i : Int) + 1)) w' := by
  refine ⟨i + 1, N + m, c, A, rfl, by simp, hi, hm, ?_, hb, hk⟩
  have e : l.take (i + 1) = l.take i ++ [a] := by rw [List.take_add_one, ha]; rfl
  show World.ownsRow _ _ _ _ _ _ _
  rw [e, List.flatMap_append, ← List.append_assoc, cs_append]
  simp only [List.flatMap_cons, List.flatMap_nil, List.append_nil]
  rw [hs]
  exact h
theorem rw_over {α β : Type} {w wr : World} {et : TypeId} {cf : β → List Value} {L0 : List β} {N c : Nat} {A : Option Addr} {f : α → List β} {l : List α} {n : Nat} (hn : n = l.length) (h : wr.ownsRow (w.heap.size + 1) et 1 (.slice A N c) N (cs cf (L0 ++ (l.take n).flatMap f))) :
    wr.ownsRow (w.heap.size + 1) et 1 (.slice A N c) N (cs cf (L0 ++ l.flatMap f)) := by
  subst hn
  rwa [List.take_length] at h
/-- a row that is answered -/
def RwPost {β : Type} (w : World) (cf : β → List Value) (L : List β) (e : Ending) (w' : World) : Prop :=
  ∃ (A : Option Addr) (c n : Nat), e = .returned (.slice A n c) ∧ n ≤ 100000 ∧ Hid (n = L.length) ∧ Hid (Rd w' (· < w'.heap.size) A (cs cf L)) ∧ Below w.heap.size w w'
set_option maxRecDepth 100000 in
set_option maxHeartbeats 20000000 in
theorem refnames_any (x : SheetM) (p : ShA) (w : World) (h : Sh w (· < w.heap.size) x p) (hx : Lt x) : Calls Tryz.prog 53 #[shV x p] w (RwPost w strC (namesL x)) := by
  obtain ⟨cr, r4, r4'⟩ := h.r4
  have b1 := hx.l1
  have b2 := hx.l2
  have b3 := hx.l3
  have b4 := hx.l4
  have b5 := hx.l5
  have b6 := hx.l6
  unfold namesL
  obtain ⟨hz, st, pa, dos, ro, tr, ha⟩ := x
  obtain ⟨a1, a2, a3, a4, a5, a6, c1, c2, c3, c4, c5, c6⟩ := p
  have HX := Lib.hid hx.lr
  have H1 := Lib.hid h.r1
  have H2 := Lib.hid h.r2
  have H3 := Lib.hid h.r3
  have H4 := Lib.hid r4
  have H4' := Lib.hid r4'
  have H5 := Lib.hid h.r5
  have H6 := Lib.hid h.r6
  dsimp only at b1 b2 b3 b4 b5 b6 HX H1 H2 H3 H4 H4' H5 H6 ⊢
  clear h r4 r4' hx
  show Calls _ _ #[.agg #[.int .i64 hz, .slice a1 st.length c1, .slice a2 pa.length c2, .slice a3 dos.length c3, .slice a4 ro.length c4, .slice a5 tr.length c5, .slice a6 ha.length c6]] _ _
  obtain ⟨n1, hn1⟩ : ∃ n, n = st.length := ⟨_, rfl⟩
  rw [← hn1] at b1 ⊢
  have HN1 := Lib.hid hn1
  clear hn1
  obtain ⟨n2, hn2⟩ : ∃ n, n = pa.length := ⟨_, rfl⟩
  rw [← hn2] at b2 ⊢
  have HN2 := Lib.hid hn2
  clear hn2
  obtain ⟨n3, hn3⟩ : ∃ n, n = dos.length := ⟨_, rfl⟩
  rw [← hn3] at b3 ⊢
  have HN3 := Lib.hid hn3
  clear hn3
  obtain ⟨n4, hn4⟩ : ∃ n, n = ro.length := ⟨_, rfl⟩
  rw [← hn4] at b4 ⊢
  have HN4 := Lib.hid hn4
  clear hn4
  obtain ⟨n5, hn5⟩ : ∃ n, n = tr.length := ⟨_, rfl⟩
  rw [← hn5] at b5 ⊢
  have HN5 := Lib.hid hn5
  clear hn5
  obtain ⟨n6, hn6⟩ : ∃ n, n = ha.length := ⟨_, rfl⟩
  rw [← hn6] at b6 ⊢
  have HN6 := Lib.hid hn6
  clear hn6
  have HCE := Lib.hid (cs_each str_one st)
  have HCL : Hid ((cs strC st).length = n1 * 1) := Lib.hid (by rw [cs_length strC 1 (fun _ => rfl), HN1.out])
  go_enter Tryz.func53, Tryz.ntmps53
  go_upto_region 1 with (fail)
  refine wp_region_list ?_
  simp only []
  iterate 3 (refine wpList_plain rfl (fun K hK => ?_); go_simp; refine hK _ _ ?_; clear hK K)
  refine wpList_append_rd rfl (.tmp 9) (.tmp 11) 22 rfl (w.heap.size + 1) 9 _ 1 16 Tryz.underlying22 info_Str rfl (by omega) (by omega) (.slice (some ⟨w.heap.size + 1, 0, none⟩) 0 0) 0 [] rfl (own_empty' _ _ (by simp) (by simp)) _ a1 n1 c1 (cs strC st) rfl HCL.out (rd_later H1.out (two_box _ _ _)) HCE.out (by omega) (by simp) ?_
  intro v' w4 hown hbel
  obtain ⟨A', c', rfl, -, -⟩ := own_form hown.out
  go_wp2
  have HB4 : Hid (Below w.heap.size w w4) := Lib.hid ((two_box _ _ _).trans (hbel.out.mono (by omega)))
  have HK4 : Hid (Blk w4 w.heap.size 29 [.int .i64 hz, .slice a1 n1 c1, .slice a2 n2 c2, .slice a3 n3 c3, .slice a4 n4 c4, .slice a5 n5 c5, .slice a6 n6 c6]) := Lib.hid (((Blk.new w _ _).alloc _).below hbel.out (by omega))
  obtain ⟨L2, hL2⟩ : ∃ L, L = st := ⟨_, rfl⟩
  have HST : Hid (RwRel w [.int .i64 hz, .slice a1 n1 c1, .slice a2 n2 c2, .slice a3 n3 c3, .slice a4 n4 c4, .slice a5 n5 c5, .slice a6 n6 c6] 9 strC L2 60 (fun p : PathM => [p.name, p.a, p.b]) pa n2 (.slice A' n1 c') (.int .i64 0) w4) := Lib.hid (by
    subst hL2
    have hh := hown.out
    rw [Nat.zero_add, List.nil_append] at hh
    exact rw_start _ _ _ _ (by omega) hh HB4.out HK4.out)
  have HLN2 := Lib.hid hL2
  obtain ⟨B2, hB2⟩ : ∃ B : Nat, B = 60 := ⟨_, rfl⟩
  rw [← hB2] at HST
  have hNb2 : B2 ≤ 60 := by omega
  clear HB4 HK4 hown hbel hL2 hB2 HCE HCL
  go_loopw [3, 4] (fun v3 vi wr => RwRel w [.int .i64 hz, .slice a1 n1 c1, .slice a2 n2 c2, .slice a3 n3 c3, .slice a4 n4 c4, .slice a5 n5 c5, .slice a6 n6 c6] 9 strC L2 B2 (fun p : PathM => [p.name, p.a, p.b]) pa n2 v3 vi wr) (fun _ v _ => n2 - (intOf v).toNat)
  case atStart => exact HST.out
  case round =>
    obtain ⟨i, N, c, A, rfl, rfl, hi, hN, HO, HB, HK⟩ := hrel
    by_cases hlt : i < n2
    · obtain ⟨a, ha'⟩ := at_in (k := i) pa HN2 hlt
      have hi1 : (i : Int) < (n2 : Int) := by omega
      have hs1 : w.heap.size + 1 ≤ wr.heap.size := HK.out.lt
      obtain ⟨ad, rfl, hS, x0, xs⟩ := rd_at 4 (fun _ => rfl) (by omega) (H2.out.below HB.out) ha'
      have HAA := Lib.hid ha'
      clear ha'
      obtain ⟨nm, pa_, pb, ln⟩ := a
      have hS2 : (ad.add (i * 4)).block < w.heap.size + 1 := by rw [block_of_add]; omega
      have x0 : wr.cell? (ad.add (i * 4)) = some (.string ⟨nm.toArray⟩) := x0
      have x1 : wr.cell? ⟨(ad.add (i * 4)).block, (ad.add (i * 4)).off + 1, none⟩ = some (.string ⟨pa_.toArray⟩) := (xs 1 (by omega)).resolve_right (by decide)
      have x2 : wr.cell? ⟨(ad.add (i * 4)).block, (ad.add (i * 4)).off + 2, none⟩ = some (.string ⟨pb.toArray⟩) := (xs 2 (by omega)).resolve_right (by decide)
      have kk : wr.cell? ⟨w.heap.size, 2, none⟩ = some (.slice (some ad) n2 c2) := HK.out.cell 2
      have hNi : N ≤ 100000 := by omega
      clear xs
      have KC : Hid (∀ w', Below (w.heap.size + 1) wr w' → w'.cell? (ad.add (i * 4)) = some (.string ⟨nm.toArray⟩) ∧ w'.cell? ⟨(ad.add (i * 4)).block, (ad.add (i * 4)).off + 1, none⟩ = some (.string ⟨pa_.toArray⟩) ∧ w'.cell? ⟨(ad.add (i * 4)).block, (ad.add (i * 4)).off + 2, none⟩ = some (.string ⟨pb.toArray⟩) ∧ w'.cell? ⟨w.heap.size, 2, none⟩ = some (.slice (some ad) n2 c2)) := Lib.hid (fun w' h => ⟨(cell_keep (p := (ad.add (i * 4))) h hS2).trans x0, (cell_keep (p := ⟨(ad.add (i * 4)).block, (ad.add (i * 4)).off + 1, none⟩) h hS2).trans x1, (cell_keep (p := ⟨(ad.add (i * 4)).block, (ad.add (i * 4)).off + 2, none⟩) h hS2).trans x2, (cell_keep (p := ⟨w.heap.size, 2, none⟩) h (Nat.lt_succ_self _)).trans kk⟩)
      go_wp2
      go_region_held_law (fun w' => w'.cell? (ad.add (i * 4)) = some (.string ⟨nm.toArray⟩) ∧ w'.cell? ⟨(ad.add (i * 4)).block, (ad.add (i * 4)).off + 1, none⟩ = some (.string ⟨pa_.toArray⟩) ∧ w'.cell? ⟨(ad.add (i * 4)).block, (ad.add (i * 4)).off + 2, none⟩ = some (.string ⟨pb.toArray⟩) ∧ w'.cell? ⟨w.heap.size, 2, none⟩ = some (.slice (some ad) n2 c2)) (first | exact KC.out _ HQ.out | exact KC.out _ (by repeat (first | exact Below.refl _ _ | exact one_box _ _ | refine below_drewN ?_ _ | refine below_drew ?_ | refine Below.alloc ?_ (by first | omega | (simp; done) | (simp; omega)) _)) | go_keep) (first | (refine step_append_rd (by rfl) (.tmp 20) (.tmp 39) 22 (by rfl) (w.heap.size + 1) 9 _ 1 16 Tryz.underlying22 info_Str rfl (by omega) (by omega) (.slice A N c) N (cs strC (L2 ++ (pa.take i).flatMap (fun p : PathM => [p.name, p.a, p.b]))) (by rfl) (Lib.hid (own_after HO.out (by repeat (first | exact Below.refl _ _ | exact one_box _ _ | refine below_drewN ?_ _ | refine below_drew ?_ | refine Below.alloc ?_ (by first | omega | (simp; done) | (simp; omega)) _)))) _ _ 3 3 [.string ⟨nm.toArray⟩, .string ⟨pa_.toArray⟩, .string ⟨pb.toArray⟩] (by rfl) (Lib.hid rfl) (by first | exact Lib.hid (litd_at2 _ _ _ _ _ (by simp) rfl) | exact Lib.hid (lit_at _ _ _ _ _ (by simp) rfl)) (by simp [Value.oneCell']) (by omega) (by first | omega | (simp; omega)) ?_; intro v' w4 hown hbel hg; obtain ⟨A', c', rfl, -, -⟩ := own_form hown.out; have HQ : Hid (Below (w.heap.size + 1) wr w4) := Lib.hid (below_two hbel.out (by repeat (first | exact Below.refl _ _ | exact one_box _ _ | refine below_drewN ?_ _ | refine below_drew ?_ | refine Below.alloc ?_ (by first | omega | (simp; done) | (simp; omega)) _)))) | fail)
      have OW := below_alive2 HB.out HK.out hbel.out (by repeat (first | exact Below.refl _ _ | exact one_box _ _ | refine below_drewN ?_ _ | refine below_drew ?_ | refine Below.alloc ?_ (by first | omega | (simp; done) | (simp; omega)) _))
      go_wp2
      go_roundw
      case rel => exact rw_more HAA.out (by omega) (by omega) rfl hown.out OW.1 OW.2
      case measure => simp [intOf]; omega
    · obtain rfl : n2 = i := by omega
      have hi1 : ¬ (n2 : Int) < (n2 : Int) := by omega
      have kk : wr.cell? ⟨w.heap.size, 2, none⟩ = some (.slice a2 n2 c2) := HK.out.cell 2
      have HST := Lib.hid (rw_start (bx := [.int .i64 hz, .slice a1 n1 c1, .slice a2 n2 c2, .slice a3 n3 c3, .slice a4 n4 c4, .slice a5 n5 c5, .slice a6 n6 c6]) (B2 + 200 * n2) (fun p : DoorM => [p.name, p.a, p.b]) dos n3 hN (rw_over HN2.out HO.out) HB.out HK.out)
      go_wp2
      obtain ⟨L3, hL3⟩ : ∃ L, L = L2 ++ pa.flatMap (fun p : PathM => [p.name, p.a, p.b]) := ⟨_, rfl⟩
      obtain ⟨B3, hB3⟩ : ∃ B : Nat, B = B2 + 200 * n2 := ⟨_, rfl⟩
      have hNb3 : B3 ≤ 12060 := by omega
      rw [← hL3, ← hB3] at HST
      have HLN3 := Lib.hid hL3
      clear hL3 hB3 HO HB HK kk hi1 hN hlt hi
      go_loopw [3, 5] (fun v3 vi wr => RwRel w [.int .i64 hz, .slice a1 n1 c1, .slice a2 n2 c2, .slice a3 n3 c3, .slice a4 n4 c4, .slice a5 n5 c5, .slice a6 n6 c6] 9 strC L3 B3 (fun p : DoorM => [p.name, p.a, p.b]) dos n3 v3 vi wr) (fun _ v _ => n3 - (intOf v).toNat)
      case atStart => exact HST.out
      case round =>
        obtain ⟨i, N, c, A, rfl, rfl, hi, hN, HO, HB, HK⟩ := hrel
        by_cases hlt : i < n3
        · obtain ⟨a, ha'⟩ := at_in (k := i) dos HN3 hlt
          have hi1 : (i : Int) < (n3 : Int) := by omega
          have hs1 : w.heap.size + 1 ≤ wr.heap.size := HK.out.lt
          obtain ⟨ad, rfl, hS, x0, xs⟩ := rd_at 7 (fun _ => rfl) (by omega) (H3.out.below HB.out) ha'
          have HAA := Lib.hid ha'
          clear ha'
          obtain ⟨nm, pa_, pb, ln, ⟨tf, te, tl⟩⟩ := a
          have hS2 : (ad.add (i * 7)).block < w.heap.size + 1 := by rw [block_of_add]; omega
          have x0 : wr.cell? (ad.add (i * 7)) = some (.string ⟨nm.toArray⟩) := x0
          have x1 : wr.cell? ⟨(ad.add (i * 7)).block, (ad.add (i * 7)).off + 1, none⟩ = some (.string ⟨pa_.toArray⟩) := (xs 1 (by omega)).resolve_right (by decide)
          have x2 : wr.cell? ⟨(ad.add (i * 7)).block, (ad.add (i * 7)).off + 2, none⟩ = some (.string ⟨pb.toArray⟩) := (xs 2 (by omega)).resolve_right (by decide)
          have kk : wr.cell? ⟨w.heap.size, 3, none⟩ = some (.slice (some ad) n3 c3) := HK.out.cell 3
          have hNi : N ≤ 100000 := by omega
          clear xs
          have KC : Hid (∀ w', Below (w.heap.size + 1) wr w' → w'.cell? (ad.add (i * 7)) = some (.string ⟨nm.toArray⟩) ∧ w'.cell? ⟨(ad.add (i * 7)).block, (ad.add (i * 7)).off + 1, none⟩ = some (.string ⟨pa_.toArray⟩) ∧ w'.cell? ⟨(ad.add (i * 7)).block, (ad.add (i * 7)).off + 2, none⟩ = some (.string ⟨pb.toArray⟩) ∧ w'.cell? ⟨w.heap.size, 3, none⟩ = some (.slice (some ad) n3 c3)) := Lib.hid (fun w' h => ⟨(cell_keep (p := (ad.add (i * 7))) h hS2).trans x0, (cell_keep (p := ⟨(ad.add (i * 7)).block, (ad.add (i * 7)).off + 1, none⟩) h hS2).trans x1, (cell_keep (p := ⟨(ad.add (i * 7)).block, (ad.add (i * 7)).off + 2, none⟩) h hS2).trans x2, (cell_keep (p := ⟨w.heap.size, 3, none⟩) h (Nat.lt_succ_self _)).trans kk⟩)
          go_wp2
          go_region_held_law (fun w' => w'.cell? (ad.add (i * 7)) = some (.string ⟨nm.toArray⟩) ∧ w'.cell? ⟨(ad.add (i * 7)).block, (ad.add (i * 7)).off + 1, none⟩ = some (.string ⟨pa_.toArray⟩) ∧ w'.cell? ⟨(ad.add (i * 7)).block, (ad.add (i * 7)).off + 2, none⟩ = some (.string ⟨pb.toArray⟩) ∧ w'.cell? ⟨w.heap.size, 3, none⟩ = some (.slice (some ad) n3 c3)) (first | exact KC.out _ HQ.out | exact KC.out _ (by repeat (first | exact Below.refl _ _ | exact one_box _ _ | refine below_drewN ?_ _ | refine below_drew ?_ | refine Below.alloc ?_ (by first | omega | (simp; done) | (simp; omega)) _)) | go_keep) (first | (refine step_append_rd (by rfl) (.tmp 48) (.tmp 67) 22 (by rfl) (w.heap.size + 1) 9 _ 1 16 Tryz.underlying22 info_Str rfl (by omega) (by omega) (.slice A N c) N (cs strC (L3 ++ (dos.take i).flatMap (fun p : DoorM => [p.name, p.a, p.b]))) (by rfl) (Lib.hid (own_after HO.out (by repeat (first | exact Below.refl _ _ | exact one_box _ _ | refine below_drewN ?_ _ | refine below_drew ?_ | refine Below.alloc ?_ (by first | omega | (simp; done) | (simp; omega)) _)))) _ _ 3 3 [.string ⟨nm.toArray⟩, .string ⟨pa_.toArray⟩, .string ⟨pb.toArray⟩] (by rfl) (Lib.hid rfl) (by first | exact Lib.hid (litd_at2 _ _ _ _ _ (by simp) rfl) | exact Lib.hid (lit_at _ _ _ _ _ (by simp) rfl)) (by simp [Value.oneCell']) (by omega) (by first | omega | (simp; omega)) ?_; intro v' w4 hown hbel hg; obtain ⟨A', c', rfl, -, -⟩ := own_form hown.out; have HQ : Hid (Below (w.heap.size + 1) wr w4) := Lib.hid (below_two hbel.out (by repeat (first | exact Below.refl _ _ | exact one_box _ _ | refine below_drewN ?_ _ | refine below_drew ?_ | refine Below.alloc ?_ (by first | omega | (simp; done) | (simp; omega)) _)))) | fail)
          have OW := below_alive2 HB.out HK.out hbel.out (by repeat (first | exact Below.refl _ _ | exact one_box _ _ | refine below_drewN ?_ _ | refine below_drew ?_ | refine Below.alloc ?_ (by first | omega | (simp; done) | (simp; omega)) _))
          go_wp2
          go_roundw
          case rel => exact rw_more HAA.out (by omega) (by omega) rfl hown.out OW.1 OW.2
          case measure => simp [intOf]; omega
        · obtain rfl : n3 = i := by omega
          have hi1 : ¬ (n3 : Int) < (n3 : Int) := by omega
          have kk : wr.cell? ⟨w.heap.size, 3, none⟩ = some (.slice a3 n3 c3) := HK.out.cell 3
          have HST := Lib.hid (rw_start (bx := [.int .i64 hz, .slice a1 n1 c1, .slice a2 n2 c2, .slice a3 n3 c3, .slice a4 n4 c4, .slice a5 n5 c5, .slice a6 n6 c6]) (B3 + 200 * n3) (fun r : RouteM => r.name :: r.stops) ro n4 hN (rw_over HN3.out HO.out) HB.out HK.out)
          go_wp2
          obtain ⟨L4, hL4⟩ : ∃ L, L = L3 ++ dos.flatMap (fun p : DoorM => [p.name, p.a, p.b]) := ⟨_, rfl⟩
          obtain ⟨B4, hB4⟩ : ∃ B : Nat, B = B3 + 200 * n3 := ⟨_, rfl⟩
          have hNb4 : B4 ≤ 24060 := by omega
          rw [← hL4, ← hB4] at HST
          have HLN4 := Lib.hid hL4
          clear hL4 hB4 HO HB HK kk hi1 hN hlt hi
          go_loopw [3, 6] (fun v3 vi wr => RwRel w [.int .i64 hz, .slice a1 n1 c1, .slice a2 n2 c2, .slice a3 n3 c3, .slice a4 n4 c4, .slice a5 n5 c5, .slice a6 n6 c6] 9 strC L4 B4 (fun r : RouteM => r.name :: r.stops) ro n4 v3 vi wr) (fun _ v _ => n4 - (intOf v).toNat)
          case atStart => exact HST.out
          case round =>
            obtain ⟨i, N, c, A, rfl, rfl, hi, hN, HO, HB, HK⟩ := hrel
            by_cases hlt : i < n4
            · obtain ⟨a, ha'⟩ := at_in (k := i) ro HN4 hlt
              have hi1 : (i : Int) < (n4 : Int) := by omega
              have hs1 : w.heap.size + 1 ≤ wr.heap.size := HK.out.lt
              obtain ⟨ad, rfl, hS, sa, sc, ra, rc, ya, yc, x0, x1, x2, x3, hg⟩ := rts_at (H4.out.below HB.out) (H4'.out.keep (fun b hb => HB.out.block b hb)) ha'
              have hrl := HX.out a (List.mem_of_getElem? ha')
              have HAA := Lib.hid ha'
              clear ha'
              have hS2 : (ad.add (i * 4)).block < w.heap.size + 1 := by rw [block_of_add]; omega
              have kk : wr.cell? ⟨w.heap.size, 4, none⟩ = some (.slice (some ad) n4 c4) := HK.out.cell 4
              have hNi : N ≤ 100000 := by omega
              obtain ⟨r1, r2, r3⟩ := hrl
              have HS1 : Hid (∀ w', Below (w.heap.size + 1) wr w' → Rd w' (· < w.heap.size) sa (cs strC a.stops)) := Lib.hid (fun w' h => hg.hs.keep (fun b hb => h.block b (by omega)))
              have HS2 : Hid (∀ w', Below (w.heap.size + 1) wr w' → Rd w' (· < w.heap.size) ra (cs intC a.rides)) := Lib.hid (fun w' h => hg.hr.keep (fun b hb => h.block b (by omega)))
              have HS3 : Hid (∀ w', Below (w.heap.size + 1) wr w' → Rd w' (· < w.heap.size) ya (cs intC a.stays)) := Lib.hid (fun w' h => hg.hy.keep (fun b hb => h.block b (by omega)))
              have HC1 := Lib.hid (cs_each str_one a.stops)
              have HC2 := Lib.hid (cs_each int_one a.rides)
              have HC3 := Lib.hid (cs_each int_one a.stays)
              have HM1 : Hid ((cs strC a.stops).length = a.stops.length * 1) := Lib.hid (cs_length strC 1 (fun _ => rfl) _)
              have HM2 : Hid ((cs intC a.rides).length = a.rides.length * 1) := Lib.hid (cs_length intC 1 (fun _ => rfl) _)
              have HM3 : Hid ((cs intC a.stays).length = a.stays.length * 1) := Lib.hid (cs_length intC 1 (fun _ => rfl) _)
              clear hg
              generalize a.stops.length = m1 at *
              generalize a.rides.length = m2 at *
              generalize a.stays.length = m3 at *
              have KC : Hid (∀ w', Below (w.heap.size + 1) wr w' → w'.cell? (ad.add (i * 4)) = some (.string ⟨a.name.toArray⟩) ∧ w'.cell? ⟨(ad.add (i * 4)).block, (ad.add (i * 4)).off + 1, none⟩ = some (.slice sa m1 sc) ∧ w'.cell? ⟨w.heap.size, 4, none⟩ = some (.slice (some ad) n4 c4)) := Lib.hid (fun w' h => ⟨(cell_keep (p := (ad.add (i * 4))) h hS2).trans x0, (cell_keep (p := ⟨(ad.add (i * 4)).block, (ad.add (i * 4)).off + 1, none⟩) h hS2).trans x1, (cell_keep (p := ⟨w.heap.size, 4, none⟩) h (Nat.lt_succ_self _)).trans kk⟩)
              go_wp2
              go_region_held_law (fun w' => w'.cell? (ad.add (i * 4)) = some (.string ⟨a.name.toArray⟩) ∧ w'.cell? ⟨(ad.add (i * 4)).block, (ad.add (i * 4)).off + 1, none⟩ = some (.slice sa m1 sc) ∧ w'.cell? ⟨w.heap.size, 4, none⟩ = some (.slice (some ad) n4 c4)) (first | exact KC.out _ HQ.out | exact KC.out _ HQ1.out | exact KC.out _ (by repeat (first | exact Below.refl _ _ | exact one_box _ _ | refine below_drewN ?_ _ | refine below_drew ?_ | refine Below.alloc ?_ (by first | omega | (simp; done) | (simp; omega)) _)) | go_keep) (first | (refine step_append_rd (by rfl) (.tmp 84) (.tmp 90) 22 (by rfl) (w.heap.size + 1) 9 _ 1 16 Tryz.underlying22 info_Str rfl (by omega) (by omega) (.slice A1 (N + 1) d1) (N + 1) (cs strC (L4 ++ (ro.take i).flatMap (fun r : RouteM => r.name :: r.stops)) ++ [.string ⟨a.name.toArray⟩]) (by rfl) hown1 _ sa m1 sc (cs strC a.stops) (by rfl) HM1 (Lib.hid (HS1.out _ HQ1.out)) HC1.out (by omega) (by have := HOW1.out.2.lt; omega) ?_; intro v' w5 hown hbel hg; obtain ⟨A', c', rfl, -, -⟩ := own_form hown.out; have HQ : Hid (Below (w.heap.size + 1) wr w5) := Lib.hid (below_two hbel.out HQ1.out)) | (refine step_append_rd (by rfl) (.tmp 76) (.tmp 83) 22 (by rfl) (w.heap.size + 1) 9 _ 1 16 Tryz.underlying22 info_Str rfl (by omega) (by omega) (.slice A N c) N (cs strC (L4 ++ (ro.take i).flatMap (fun r : RouteM => r.name :: r.stops))) (by rfl) (Lib.hid (own_after HO.out (by repeat (first | exact Below.refl _ _ | exact one_box _ _ | refine below_drewN ?_ _ | refine below_drew ?_ | refine Below.alloc ?_ (by first | omega | (simp; done) | (simp; omega)) _)))) _ _ 1 1 [.string ⟨a.name.toArray⟩] (by rfl) (Lib.hid rfl) (by first | exact Lib.hid (litd_at2 _ _ _ _ _ (by simp) rfl) | exact Lib.hid (lit_at _ _ _ _ _ (by simp) rfl)) (by simp [Value.oneCell']) (by omega) (by first | omega | (simp; omega)) ?_; intro v' w4 hown1 hbel1 hg1; obtain ⟨A1, d1, rfl, -, -⟩ := own_form hown1.out; have HQ1 : Hid (Below (w.heap.size + 1) wr w4) := Lib.hid (below_two hbel1.out (by repeat (first | exact Below.refl _ _ | exact one_box _ _ | refine below_drewN ?_ _ | refine below_drew ?_ | refine Below.alloc ?_ (by first | omega | (simp; done) | (simp; omega)) _))); have HOW1 := Lib.hid (below_alive2 HB.out HK.out hbel1.out (by repeat (first | exact Below.refl _ _ | exact one_box _ _ | refine below_drewN ?_ _ | refine below_drew ?_ | refine Below.alloc ?_ (by first | omega | (simp; done) | (simp; omega)) _)))) | fail)
              have OW : Below w.heap.size w w5 ∧ Blk w5 w.heap.size 29 [.int .i64 hz, .slice a1 n1 c1, .slice a2 n2 c2, .slice a3 n3 c3, .slice (some ad) n4 c4, .slice a5 n5 c5, .slice a6 n6 c6] := ⟨HOW1.out.1.trans (hbel.out.mono (by omega)), HOW1.out.2.below hbel.out (by omega)⟩
              have hownF := hown.out
              rw [List.append_assoc, Nat.add_assoc] at hownF
              go_wp2
              rw [Nat.add_assoc]
              go_roundw
              case rel => exact rw_more HAA.out (by omega) (by omega) (by rfl) hownF OW.1 OW.2
              case measure => simp [intOf]; omega
            · obtain rfl : n4 = i := by omega
              have hi1 : ¬ (n4 : Int) < (n4 : Int) := by omega
              have kk : wr.cell? ⟨w.heap.size, 4, none⟩ = some (.slice a4 n4 c4) := HK.out.cell 4
              have HST := Lib.hid (rw_start (bx := [.int .i64 hz, .slice a1 n1 c1, .slice a2 n2 c2, .slice a3 n3 c3, .slice a4 n4 c4, .slice a5 n5 c5, .slice a6 n6 c6]) (B4 + 200 * n4) (fun p : TripM => [p.name, p.route]) tr n5 hN (rw_over HN4.out HO.out) HB.out HK.out)
              go_wp2
              obtain ⟨L5, hL5⟩ : ∃ L, L = L4 ++ ro.flatMap (fun r : RouteM => r.name :: r.stops) := ⟨_, rfl⟩
              obtain ⟨B5, hB5⟩ : ∃ B : Nat, B = B4 + 200 * n4 := ⟨_, rfl⟩
              have hNb5 : B5 ≤ 36060 := by omega
              rw [← hL5, ← hB5] at HST
              have HLN5 := Lib.hid hL5
              clear hL5 hB5 HO HB HK kk hi1 hN hlt hi
              go_loopw [3, 7] (fun v3 vi wr => RwRel w [.int .i64 hz, .slice a1 n1 c1, .slice a2 n2 c2, .slice a3 n3 c3, .slice a4 n4 c4, .slice a5 n5 c5, .slice a6 n6 c6] 9 strC L5 B5 (fun p : TripM => [p.name, p.route]) tr n5 v3 vi wr) (fun _ v _ => n5 - (intOf v).toNat)
              case atStart => exact HST.out
              case round =>
                obtain ⟨i, N, c, A, rfl, rfl, hi, hN, HO, HB, HK⟩ := hrel
                by_cases hlt : i < n5
                · obtain ⟨a, ha'⟩ := at_in (k := i) tr HN5 hlt
                  have hi1 : (i : Int) < (n5 : Int) := by omega
                  have hs1 : w.heap.size + 1 ≤ wr.heap.size := HK.out.lt
                  obtain ⟨ad, rfl, hS, x0, xs⟩ := rd_at 5 (fun _ => rfl) (by omega) (H5.out.below HB.out) ha'
                  have HAA := Lib.hid ha'
                  clear ha'
                  obtain ⟨nm, rt, tf, te, tu⟩ := a
                  have hS2 : (ad.add (i * 5)).block < w.heap.size + 1 := by rw [block_of_add]; omega
                  have x0 : wr.cell? (ad.add (i * 5)) = some (.string ⟨nm.toArray⟩) := x0
                  have x1 : wr.cell? ⟨(ad.add (i * 5)).block, (ad.add (i * 5)).off + 1, none⟩ = some (.string ⟨rt.toArray⟩) := (xs 1 (by omega)).resolve_right (by decide)
                  have kk : wr.cell? ⟨w.heap.size, 5, none⟩ = some (.slice (some ad) n5 c5) := HK.out.cell 5
                  have hNi : N ≤ 100000 := by omega
                  clear xs
                  have KC : Hid (∀ w', Below (w.heap.size + 1) wr w' → w'.cell? (ad.add (i * 5)) = some (.string ⟨nm.toArray⟩) ∧ w'.cell? ⟨(ad.add (i * 5)).block, (ad.add (i * 5)).off + 1, none⟩ = some (.string ⟨rt.toArray⟩) ∧ w'.cell? ⟨w.heap.size, 5, none⟩ = some (.slice (some ad) n5 c5)) := Lib.hid (fun w' h => ⟨(cell_keep (p := (ad.add (i * 5))) h hS2).trans x0, (cell_keep (p := ⟨(ad.add (i * 5)).block, (ad.add (i * 5)).off + 1, none⟩) h hS2).trans x1, (cell_keep (p := ⟨w.heap.size, 5, none⟩) h (Nat.lt_succ_self _)).trans kk⟩)
                  go_wp2
                  go_region_held_law (fun w' => w'.cell? (ad.add (i * 5)) = some (.string ⟨nm.toArray⟩) ∧ w'.cell? ⟨(ad.add (i * 5)).block, (ad.add (i * 5)).off + 1, none⟩ = some (.string ⟨rt.toArray⟩) ∧ w'.cell? ⟨w.heap.size, 5, none⟩ = some (.slice (some ad) n5 c5)) (first | exact KC.out _ HQ.out | exact KC.out _ (by repeat (first | exact Below.refl _ _ | exact one_box _ _ | refine below_drewN ?_ _ | refine below_drew ?_ | refine Below.alloc ?_ (by first | omega | (simp; done) | (simp; omega)) _)) | go_keep) (first | (refine step_append_rd (by rfl) (.tmp 99) (.tmp 112) 22 (by rfl) (w.heap.size + 1) 9 _ 1 16 Tryz.underlying22 info_Str rfl (by omega) (by omega) (.slice A N c) N (cs strC (L5 ++ (tr.take i).flatMap (fun p : TripM => [p.name, p.route]))) (by rfl) (Lib.hid (own_after HO.out (by repeat (first | exact Below.refl _ _ | exact one_box _ _ | refine below_drewN ?_ _ | refine below_drew ?_ | refine Below.alloc ?_ (by first | omega | (simp; done) | (simp; omega)) _)))) _ _ 2 2 [.string ⟨nm.toArray⟩, .string ⟨rt.toArray⟩] (by rfl) (Lib.hid rfl) (by first | exact Lib.hid (litd_at2 _ _ _ _ _ (by simp) rfl) | exact Lib.hid (lit_at _ _ _ _ _ (by simp) rfl)) (by simp [Value.oneCell']) (by omega) (by first | omega | (simp; omega)) ?_; intro v' w4 hown hbel hg; obtain ⟨A', c', rfl, -, -⟩ := own_form hown.out; have HQ : Hid (Below (w.heap.size + 1) wr w4) := Lib.hid (below_two hbel.out (by repeat (first | exact Below.refl _ _ | exact one_box _ _ | refine below_drewN ?_ _ | refine below_drew ?_ | refine Below.alloc ?_ (by first | omega | (simp; done) | (simp; omega)) _)))) | fail)
                  have OW := below_alive2 HB.out HK.out hbel.out (by repeat (first | exact Below.refl _ _ | exact one_box _ _ | refine below_drewN ?_ _ | refine below_drew ?_ | refine Below.alloc ?_ (by first | omega | (simp; done) | (simp; omega)) _))
                  go_wp2
                  go_roundw
                  case rel => exact rw_more HAA.out (by omega) (by omega) rfl hown.out OW.1 OW.2
                  case measure => simp [intOf]; omega
                · obtain rfl : n5 = i := by omega
                  have hi1 : ¬ (n5 : Int) < (n5 : Int) := by omega
                  have kk : wr.cell? ⟨w.heap.size, 5, none⟩ = some (.slice a5 n5 c5) := HK.out.cell 5
                  have HST := Lib.hid (rw_start (bx := [.int .i64 hz, .slice a1 n1 c1, .slice a2 n2 c2, .slice a3 n3 c3, .slice a4 n4 c4, .slice a5 n5 c5, .slice a6 n6 c6]) (B5 + 200 * n5) (fun p : HazM => [p.name, p.at_]) ha n6 hN (rw_over HN5.out HO.out) HB.out HK.out)
                  go_wp2
                  obtain ⟨L6, hL6⟩ : ∃ L, L = L5 ++ tr.flatMap (fun p : TripM => [p.name, p.route]) := ⟨_, rfl⟩
                  obtain ⟨B6, hB6⟩ : ∃ B : Nat, B = B5 + 200 * n5 := ⟨_, rfl⟩
                  have hNb6 : B6 ≤ 48060 := by omega
                  rw [← hL6, ← hB6] at HST
                  have HLN6 := Lib.hid hL6
                  clear hL6 hB6 HO HB HK kk hi1 hN hlt hi
                  go_loopw [3, 8] (fun v3 vi wr => RwRel w [.int .i64 hz, .slice a1 n1 c1, .slice a2 n2 c2, .slice a3 n3 c3, .slice a4 n4 c4, .slice a5 n5 c5, .slice a6 n6 c6] 9 strC L6 B6 (fun p : HazM => [p.name, p.at_]) ha n6 v3 vi wr) (fun _ v _ => n6 - (intOf v).toNat)
                  case atStart => exact HST.out
                  case round =>
                    obtain ⟨i, N, c, A, rfl, rfl, hi, hN, HO, HB, HK⟩ := hrel
                    by_cases hlt : i < n6
                    · obtain ⟨a, ha'⟩ := at_in (k := i) ha HN6 hlt
                      have hi1 : (i : Int) < (n6 : Int) := by omega
                      have hs1 : w.heap.size + 1 ≤ wr.heap.size := HK.out.lt
                      obtain ⟨ad, rfl, hS, x0, xs⟩ := rd_at 5 (fun _ => rfl) (by omega) (H6.out.below HB.out) ha'
                      have HAA := Lib.hid ha'
                      clear ha'
                      obtain ⟨nm, on_, ⟨tf, te, tl⟩⟩ := a
                      have hS2 : (ad.add (i * 5)).block < w.heap.size + 1 := by rw [block_of_add]; omega
                      have x0 : wr.cell? (ad.add (i * 5)) = some (.string ⟨nm.toArray⟩) := x0
                      have x1 : wr.cell? ⟨(ad.add (i * 5)).block, (ad.add (i * 5)).off + 1, none⟩ = some (.string ⟨on_.toArray⟩) := (xs 1 (by omega)).resolve_right (by decide)
                      have kk : wr.cell? ⟨w.heap.size, 6, none⟩ = some (.slice (some ad) n6 c6) := HK.out.cell 6
                      have hNi : N ≤ 100000 := by omega
                      clear xs
                      have KC : Hid (∀ w', Below (w.heap.size + 1) wr w' → w'.cell? (ad.add (i * 5)) = some (.string ⟨nm.toArray⟩) ∧ w'.cell? ⟨(ad.add (i * 5)).block, (ad.add (i * 5)).off + 1, none⟩ = some (.string ⟨on_.toArray⟩) ∧ w'.cell? ⟨w.heap.size, 6, none⟩ = some (.slice (some ad) n6 c6)) := Lib.hid (fun w' h => ⟨(cell_keep (p := (ad.add (i * 5))) h hS2).trans x0, (cell_keep (p := ⟨(ad.add (i * 5)).block, (ad.add (i * 5)).off + 1, none⟩) h hS2).trans x1, (cell_keep (p := ⟨w.heap.size, 6, none⟩) h (Nat.lt_succ_self _)).trans kk⟩)
                      go_wp2
                      go_region_held_law (fun w' => w'.cell? (ad.add (i * 5)) = some (.string ⟨nm.toArray⟩) ∧ w'.cell? ⟨(ad.add (i * 5)).block, (ad.add (i * 5)).off + 1, none⟩ = some (.string ⟨on_.toArray⟩) ∧ w'.cell? ⟨w.heap.size, 6, none⟩ = some (.slice (some ad) n6 c6)) (first | exact KC.out _ HQ.out | exact KC.out _ (by repeat (first | exact Below.refl _ _ | exact one_box _ _ | refine below_drewN ?_ _ | refine below_drew ?_ | refine Below.alloc ?_ (by first | omega | (simp; done) | (simp; omega)) _)) | go_keep) (first | (refine step_append_rd (by rfl) (.tmp 121) (.tmp 134) 22 (by rfl) (w.heap.size + 1) 9 _ 1 16 Tryz.underlying22 info_Str rfl (by omega) (by omega) (.slice A N c) N (cs strC (L6 ++ (ha.take i).flatMap (fun p : HazM => [p.name, p.at_]))) (by rfl) (Lib.hid (own_after HO.out (by repeat (first | exact Below.refl _ _ | exact one_box _ _ | refine below_drewN ?_ _ | refine below_drew ?_ | refine Below.alloc ?_ (by first | omega | (simp; done) | (simp; omega)) _)))) _ _ 2 2 [.string ⟨nm.toArray⟩, .string ⟨on_.toArray⟩] (by rfl) (Lib.hid rfl) (by first | exact Lib.hid (litd_at2 _ _ _ _ _ (by simp) rfl) | exact Lib.hid (lit_at _ _ _ _ _ (by simp) rfl)) (by simp [Value.oneCell']) (by omega) (by first | omega | (simp; omega)) ?_; intro v' w4 hown hbel hg; obtain ⟨A', c', rfl, -, -⟩ := own_form hown.out; have HQ : Hid (Below (w.heap.size + 1) wr w4) := Lib.hid (below_two hbel.out (by repeat (first | exact Below.refl _ _ | exact one_box _ _ | refine below_drewN ?_ _ | refine below_drew ?_ | refine Below.alloc ?_ (by first | omega | (simp; done) | (simp; omega)) _)))) | fail)
                      have OW := below_alive2 HB.out HK.out hbel.out (by repeat (first | exact Below.refl _ _ | exact one_box _ _ | refine below_drewN ?_ _ | refine below_drew ?_ | refine Below.alloc ?_ (by first | omega | (simp; done) | (simp; omega)) _))
                      go_wp2
                      go_roundw
                      case rel => exact rw_more HAA.out (by omega) (by omega) rfl hown.out OW.1 OW.2
                      case measure => simp [intOf]; omega
                    · obtain rfl : n6 = i := by omega
                      have hi1 : ¬ (n6 : Int) < (n6 : Int) := by omega
                      have kk : wr.cell? ⟨w.heap.size, 6, none⟩ = some (.slice a6 n6 c6) := HK.out.cell 6
                      have HFIN := Lib.hid (rw_over HN6.out HO.out)
                      go_wp2
                      go_ret
                      obtain ⟨A', c', e', -, hrd⟩ := own_form HFIN.out
                      injection e' with e1 e2 e3
                      subst e1
                      subst e3
                      have hlen := HFIN.out.1
                      rw [cs_length strC 1 (fun _ => rfl)] at hlen
                      rw [HLN6.out, HLN5.out, HLN4.out, HLN3.out, HLN2.out] at hrd hlen
                      simp only [List.append_assoc] at hrd hlen
                      exact ⟨_, _, _, rfl, by omega, Lib.hid (by rw [Nat.mul_one, Nat.mul_one] at hlen; exact hlen.symm), Lib.hid (rd_old hrd), HB.out⟩
end Go.Proofs.YtcmlmfcnbmpajaaGreatDoor.Sh

