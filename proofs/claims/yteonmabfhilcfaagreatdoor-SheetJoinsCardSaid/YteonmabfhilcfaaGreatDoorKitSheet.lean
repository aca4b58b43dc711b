/- The kit's lines of a sheet, proved by walking its text. Conditions: the sheet may be. -/
import Derived.Test.YteonmabfhilcfaaGreatDoorKitLines
import Derived.Deep.RegionHeldLaw
namespace Go.Proofs.YteonmabfhilcfaaGreatDoor.Sh
open Go.ChangeShapes Go.WideShapes Go.ChangeAt Go.RowKit
open Lx
set_option linter.unusedVariables false
set_option linter.unusedSimpArgs false

theorem when_len {k : List UInt8} {t : TimesM} (h : timesB t = true) (hk : k.length ≤ 20) : (sp (whenT k t)).length ≤ 100 := by
  simp only [timesB, List.all_cons, List.all_nil, Bool.and_true, Bool.and_eq_true] at h
  have h1 := dec_short h.1
  have h2 := dec_short h.2.1
  have h3 := dec_short h.2.2
  rw [sp_when]
  simp only [List.length_append, List.length_cons, List.length_nil]
  omega
theorem litd_at (w : World) (n : Nat) (l : Array Value) (t : TypeId) (xs : List Value) (hn : n = w.heap.size) (h : xs.toArray = l) : Rd (w.alloc (.cells l t)).drew (· < (w.alloc (.cells l t)).heap.size) (some ⟨n, 0, none⟩) xs := lit_at w n l t xs hn h
theorem below_alive {w wr W w4 : World} {t : TypeId} {l : List Value} (h1 : Below w.heap.size w wr) (h2 : Blk wr w.heap.size t l) (h3 : Below (w.heap.size + 1) W w4) (h4 : Below wr.heap.size wr W) : Below w.heap.size w w4 ∧ Blk w4 w.heap.size t l :=
  ⟨h1.trans ((h4.mono (by have := h2.lt; omega)).trans (h3.mono (by omega))), (h2.after h4).below h3 (by omega)⟩
theorem own_lit1 (w : World) (n : Nat) (e : TypeId) (u : Value) (hu : u.oneCell' = true) (hn : n ≤ w.heap.size) : (w.alloc (.cells #[u] e)).ownsRow n e 1 (.slice (some ⟨w.heap.size, 0, none⟩) 1 1) 1 [u] :=
  ⟨by simp, .inr ⟨w.heap.size, 1, #[u], rfl, hn, heap_alloc_new w _, by omega, by simp [maxLen], by simp, by simp⟩⟩
def lineOf (i : Item) : List UInt8 := lineB i.toks
/-- a sheet's lines -/
def linesT (x : SheetM) : List (List UInt8) := (sheetL x.horizon (itemsOf x)).map lineB
theorem lines_eq (x : SheetM) : linesT x = lineB (horT x.horizon) :: (x.stops.map (fun a => lineOf (.stop a)) ++ (x.paths.map (fun a => lineOf (.path a)) ++ (x.doors.map (fun a => lineOf (.door a)) ++ (x.routes.map (fun a => lineOf (.route a)) ++ (x.trips.map (fun a => lineOf (.trip a)) ++ x.hazards.map (fun a => lineOf (.haz a))))))) := by
  simp only [linesT, sheetL, itemsOf, List.map_cons, List.map_append, List.map_map, lineOf]
  rfl
/-- the row of lines so far -/
def LnRel {α : Type} (w : World) (bx : List Value) (L0 : List (List UInt8)) (N0 : Nat) (f : α → List UInt8) (l : List α) (n : Nat) (v3 vi : Value) (wr : World) : Prop :=
  ∃ (i c : Nat) (A : Option Addr), v3 = .slice A (N0 + i) c ∧ vi = .int .i64 i ∧ i ≤ n ∧ N0 + i ≤ c ∧ Hid (wr.ownsRow (w.heap.size + 1) 9 1 (.slice A (N0 + i) c) (N0 + i) (cs strC (L0 ++ (l.take i).map f))) ∧ Hid (Below w.heap.size w wr) ∧ Hid (Blk wr w.heap.size 29 bx)
theorem ln_start {α : Type} {w wr : World} {bx : List Value} {L0 : List (List UInt8)} {N0 c : Nat} {A : Option Addr} (f : α → List UInt8) (l : List α) (n : Nat) (hc : N0 ≤ c) (h : wr.ownsRow (w.heap.size + 1) 9 1 (.slice A N0 c) N0 (cs strC L0)) (hb : Below w.heap.size w wr) (hk : Blk wr w.heap.size 29 bx) :
    LnRel w bx L0 N0 f l n (.slice A N0 c) (.int .i64 0) wr := ⟨0, c, A, rfl, rfl, by omega, hc, by show World.ownsRow _ _ _ _ _ _ _; simpa using h, hb, hk⟩
theorem ln_more {α : Type} {w w' : World} {bx : List Value} {L0 : List (List UInt8)} {N0 c i : Nat} {A : Option Addr} {f : α → List UInt8} {l : List α} {n : Nat} {a : α} (ha : l[i]? = some a) (hi : i + 1 ≤ n) (hc : N0 + i + 1 ≤ c) {s : ByteArray} (hs : s = ⟨(f a).toArray⟩)
    (h : w'.ownsRow (w.heap.size + 1) 9 1 (.slice A (N0 + i + 1) c) (N0 + i + 1) (cs strC (L0 ++ (l.take i).map f) ++ [.string s])) (hb : Below w.heap.size w w') (hk : Blk w' w.heap.size 29 bx) :
    LnRel w bx L0 N0 f l n (.slice A (N0 + i + 1) c) (.int .i64 ((i : Int) + 1)) w' := by
  refine ⟨i + 1, c, A, rfl, by simp, hi, hc, ?_, hb, hk⟩
  have e : l.take (i + 1) = l.take i ++ [a] := by rw [List.take_add_one, ha]; rfl
  show World.ownsRow _ _ _ _ _ _ _
  rw [e, List.map_append, ← List.append_assoc, cs_append]
  subst hs
  exact h
theorem ln_over {α : Type} {w wr : World} {L0 : List (List UInt8)} {N0 c : Nat} {A : Option Addr} {f : α → List UInt8} {l : List α} {n : Nat} (hn : n = l.length) (h : wr.ownsRow (w.heap.size + 1) 9 1 (.slice A (N0 + n) c) (N0 + n) (cs strC (L0 ++ (l.take n).map f))) :
    wr.ownsRow (w.heap.size + 1) 9 1 (.slice A (N0 + n) c) (N0 + n) (cs strC (L0 ++ l.map f)) := by
  subst hn
  rwa [List.take_length] at h
/-- what the kit's lines answer -/
def LnPost (w : World) (L : List (List UInt8)) (e : Ending) (w' : World) : Prop :=
  ∃ (A : Option Addr) (c n : Nat), e = .returned (.slice A n c) ∧ n ≤ c ∧ Hid (n = L.length) ∧ Hid (Rd w' (fun b => w.heap.size ≤ b ∧ b < w'.heap.size) A (cs strC L)) ∧ Below w.heap.size w w'
set_option maxRecDepth 100000 in
set_option maxHeartbeats 20000000 in
theorem lines_any (x : SheetM) (p : ShA) (w : World) (h : Sh w (· < w.heap.size) x p) (hx : May x) : Calls Tryz.prog 15 #[shV x p] w (LnPost w (linesT x)) := by
  obtain ⟨cr, r4, r4'⟩ := h.r4
  have b1 := hx.n1
  have b2 := hx.n2
  have b3 := hx.n3
  have b4 := hx.n4
  have b5 := hx.n5
  have b6 := hx.n6
  rw [lines_eq]
  obtain ⟨hz, st, pa, dos, ro, tr, ha⟩ := x
  obtain ⟨a1, a2, a3, a4, a5, a6, c1, c2, c3, c4, c5, c6⟩ := p
  have HX := Lib.hid hx
  have H1 := Lib.hid h.r1
  have H2 := Lib.hid h.r2
  have H3 := Lib.hid h.r3
  have H4 := Lib.hid r4
  have H4' := Lib.hid r4'
  have H5 := Lib.hid h.r5
  have H6 := Lib.hid h.r6
  have C0 := Lib.hid (fun w' => digits_at hz hx.h w')
  have l0 := dec_short (n := hz) hx.h
  have HL0 : Hid ((⟨#[104, 111, 114, 105, 122, 111, 110, 32]⟩ : ByteArray) ++ ⟨(Lib.decDigits hz.toNat).toArray⟩ = ⟨(lineB (horT hz)).toArray⟩) := Lib.hid (bytes_eq (by simp [lineB, horT, sp, kT, nT, kHorizon]))
  dsimp only at b1 b2 b3 b4 b5 b6 HX H1 H2 H3 H4 H4' H5 H6 ⊢
  clear h r4 r4' hx
  show Calls _ _ #[.agg #[.int .i64 hz, .slice a1 st.length c1, .slice a2 pa.length c2, .slice a3 dos.length c3, .slice a4 ro.length c4, .slice a5 tr.length c5, .slice a6 ha.length c6]] _ _
  obtain ⟨n1, hn1⟩ : ∃ n, n = st.length := ⟨_, rfl⟩
  rw [← hn1] at b1 ⊢
  have HN1 := Lib.hid hn1
  clear hn1
  obtain ⟨n2, hn2⟩ : ∃ n, n = pa.length := ⟨_, rfl⟩
  rw [← hn2] at b2 ⊢
  have HN2 := Lib.hid hn2
  clear hn2
  obtain ⟨n3, hn3⟩ : ∃ n, n = dos.length := ⟨_, rfl⟩
  rw [← hn3] at b3 ⊢
  have HN3 := Lib.hid hn3
  clear hn3
  obtain ⟨n4, hn4⟩ : ∃ n, n = ro.length := ⟨_, rfl⟩
  rw [← hn4] at b4 ⊢
  have HN4 := Lib.hid hn4
  clear hn4
  obtain ⟨n5, hn5⟩ : ∃ n, n = tr.length := ⟨_, rfl⟩
  rw [← hn5] at b5 ⊢
  have HN5 := Lib.hid hn5
  clear hn5
  obtain ⟨n6, hn6⟩ : ∃ n, n = ha.length := ⟨_, rfl⟩
  rw [← hn6] at b6 ⊢
  have HN6 := Lib.hid hn6
  clear hn6
  have f0 : ¬ 9223372036854775807 < 8 + (Lib.decDigits hz.toNat).length := by omega
  go_enter Tryz.func15, Tryz.ntmps15
  go_wp2_with (first
    | (go_at_call 38; (with_reducible refine (C0.out _).mono ?_); rintro e' w1 ⟨rfl, rfl⟩)
    | fail)
  obtain ⟨L1, hL1⟩ : ∃ L, L = [lineB (horT hz)] := ⟨_, rfl⟩
  obtain ⟨N1, hN1⟩ : ∃ N : Nat, N = 1 := ⟨_, rfl⟩
  have HST : Hid (LnRel w [.int .i64 hz, .slice a1 n1 c1, .slice a2 n2 c2, .slice a3 n3 c3, .slice a4 n4 c4, .slice a5 n5 c5, .slice a6 n6 c6] L1 N1 (fun a => lineOf (.stop a)) st n1 (.slice (some ⟨w.heap.size + 1, 0, none⟩) 1 1) (.int .i64 0) ((w.alloc (.cells [.int .i64 hz, .slice a1 n1 c1, .slice a2 n2 c2, .slice a3 n3 c3, .slice a4 n4 c4, .slice a5 n5 c5, .slice a6 n6 c6].toArray 29)).alloc (.cells #[.string ((⟨#[104, 111, 114, 105, 122, 111, 110, 32]⟩ : ByteArray) ++ ⟨(Lib.decDigits hz.toNat).toArray⟩)] 9))) := by
    subst hL1
    subst hN1
    rw [HL0.out]
    have := own_lit1 (w.alloc (.cells [.int .i64 hz, .slice a1 n1 c1, .slice a2 n2 c2, .slice a3 n3 c3, .slice a4 n4 c4, .slice a5 n5 c5, .slice a6 n6 c6].toArray 29)) (w.heap.size + 1) 9 (.string ⟨(lineB (horT hz)).toArray⟩) rfl (by simp)
    rw [World.size_alloc] at this
    exact ln_start _ _ _ (Nat.le_refl _) this (two_box _ _ _) ((Blk.new w _ _).alloc _)
  have HLN1 := Lib.hid hL1
  have hNb1 : N1 ≤ 1 := by omega
  clear C0 HL0 l0 f0 hL1 hN1
  go_loopw [3, 4] (fun v3 vi wr => LnRel w [.int .i64 hz, .slice a1 n1 c1, .slice a2 n2 c2, .slice a3 n3 c3, .slice a4 n4 c4, .slice a5 n5 c5, .slice a6 n6 c6] L1 N1 (fun a => lineOf (.stop a)) st n1 v3 vi wr) (fun _ v _ => n1 - (intOf v).toNat)
  case atStart => exact HST.out
  case round =>
    obtain ⟨i, c, A, rfl, rfl, hi, hcap, HO, HB, HK⟩ := hrel
    by_cases hlt : i < n1
    · obtain ⟨a, ha'⟩ := at_in (k := i) st HN1 hlt
      have hi1 : (i : Int) < (n1 : Int) := by omega
      have hs1 : w.heap.size + 1 ≤ wr.heap.size := HK.out.lt
      obtain ⟨ad, rfl, hS, x0, -⟩ := rd_at 1 (fun _ => rfl) (by omega) (rd_later H1.out HB.out) ha'
      have x1 : wr.cell? (ad.add (i * 1)) = some (.string ⟨a.toArray⟩) := x0
      rw [Nat.mul_one] at x1
      have kk : wr.cell? ⟨w.heap.size, 1, none⟩ = some (.slice (some ad) n1 c1) := HK.out.cell 1
      have la : a.length ≤ 24 := name_len (List.all_eq_true.1 HX.out.a1 _ (List.mem_of_getElem? ha'))
      have f1 : ¬ 9223372036854775807 < 5 + a.length := by omega
      have HAA := Lib.hid ha'
      have hNi : N1 + i ≤ 3000 := by omega
      have HEQ : Hid ((⟨#[115, 116, 111, 112, 32]⟩ : ByteArray) ++ ⟨a.toArray⟩ = ⟨(lineOf (.stop a)).toArray⟩) := Lib.hid (bytes_eq (by simp [lineOf, lineB, Item.toks, Item.rest, Item.key, sp, kT, wT, kStop]))
      clear x0 ha'
      go_wp2_with (at_builtin; refine wpList_append_rd rfl (.tmp 26) (.tmp 33) 22 rfl (w.heap.size + 1) 9 _ 1 16 Tryz.underlying22 info_Str rfl (by omega) (by omega) (.slice A (N1 + i) c) (N1 + i) (cs strC (L1 ++ (st.take i).map (fun a => lineOf (.stop a)))) rfl (own_after HO.out (one_box _ _)) _ _ 1 1 [.string ((⟨#[115, 116, 111, 112, 32]⟩ : ByteArray) ++ ⟨a.toArray⟩)] rfl rfl (lit_at _ _ _ _ _ (by simp) rfl) (by simp [Value.oneCell']) (by omega) (by simp; omega) ?_; intro v' w4 hown hbel; obtain ⟨A', c', rfl, hcap', -⟩ := own_form hown.out)
      go_roundw
      case rel => exact ln_more HAA.out (by omega) hcap' HEQ.out hown.out (HB.out.trans ((Below.alloc (Below.refl _ _) (by omega) _).trans (hbel.out.mono (by omega)))) ((HK.out.alloc _).below hbel.out (by omega))
      case measure => simp [intOf]; omega
    · obtain rfl : n1 = i := by omega
      have hi1 : ¬ (n1 : Int) < (n1 : Int) := by omega
      have kk : wr.cell? ⟨w.heap.size, 1, none⟩ = some (.slice a1 n1 c1) := HK.out.cell 1
      have HST := Lib.hid (ln_start (bx := [.int .i64 hz, .slice a1 n1 c1, .slice a2 n2 c2, .slice a3 n3 c3, .slice a4 n4 c4, .slice a5 n5 c5, .slice a6 n6 c6]) (fun a => lineOf (.path a)) pa n2 hcap (ln_over HN1.out HO.out) HB.out HK.out)
      go_wp2
      obtain ⟨L2, hL2⟩ : ∃ L, L = L1 ++ st.map (fun a => lineOf (.stop a)) := ⟨_, rfl⟩
      obtain ⟨N2, hN2⟩ : ∃ N : Nat, N = N1 + n1 := ⟨_, rfl⟩
      have hNb2 : N2 ≤ 257 := by omega
      rw [← hL2, ← hN2] at HST
      rw [← hN2]
      have HLN2 := Lib.hid hL2
      clear hL2 hN2 HO HB HK kk hi1 hcap hlt hi
      go_loopw [3, 5] (fun v3 vi wr => LnRel w [.int .i64 hz, .slice a1 n1 c1, .slice a2 n2 c2, .slice a3 n3 c3, .slice a4 n4 c4, .slice a5 n5 c5, .slice a6 n6 c6] L2 N2 (fun a => lineOf (.path a)) pa n2 v3 vi wr) (fun _ v _ => n2 - (intOf v).toNat)
      case atStart => exact HST.out
      case round =>
        obtain ⟨i, c, A, rfl, rfl, hi, hcap, HO, HB, HK⟩ := hrel
        by_cases hlt : i < n2
        · obtain ⟨a, ha'⟩ := at_in (k := i) pa HN2 hlt
          have hi1 : (i : Int) < (n2 : Int) := by omega
          have hs1 : w.heap.size + 1 ≤ wr.heap.size := HK.out.lt
          have hv : Item.Ok (.path a) := ⟨List.all_eq_true.1 HX.out.a2 _ (List.mem_of_getElem? ha'), List.all_eq_true.1 HX.out.b2 _ (List.mem_of_getElem? ha')⟩
          obtain ⟨ad, rfl, hS, x0, xs⟩ := rd_at 4 (fun _ => rfl) (by omega) (rd_later H2.out HB.out) ha'
          have HAA := Lib.hid ha'
          clear ha'
          obtain ⟨nm, pa_, pb, ln⟩ := a
          have x1 : wr.cell? (ad.add (i * 4)) = some (.string ⟨nm.toArray⟩) := x0
          have x2 : wr.cell? ⟨(ad.add (i * 4)).block, (ad.add (i * 4)).off + 1, none⟩ = some (.string ⟨pa_.toArray⟩) := (xs 1 (by omega)).resolve_right (by decide)
          have x3 : wr.cell? ⟨(ad.add (i * 4)).block, (ad.add (i * 4)).off + 2, none⟩ = some (.string ⟨pb.toArray⟩) := (xs 2 (by omega)).resolve_right (by decide)
          have x4 : wr.cell? ⟨(ad.add (i * 4)).block, (ad.add (i * 4)).off + 3, none⟩ = some (.int .i64 ln) := (xs 3 (by omega)).resolve_right (by decide)
          have kk : wr.cell? ⟨w.heap.size, 2, none⟩ = some (.slice (some ad) n2 c2) := HK.out.cell 2
          have hNi : N2 + i ≤ 4000 := by omega
          obtain ⟨hv1, hv2⟩ := hv
          simp only [path_name, List.all_cons, List.all_nil, Bool.and_true, Bool.and_eq_true] at hv1
          simp only [path_tick, List.all_cons, List.all_nil, Bool.and_true, Bool.and_eq_true] at hv2
          have q_nm := name_len hv1.1
          have q_pa_ := name_len hv1.2.1
          have q_pb := name_len hv1.2.2
          have D_ln := Lib.hid (fun w' => digits_at ln hv2 w')
          have q_ln := dec_short (n := ln) hv2
          have HEQ : Hid ((⟨#[112, 97, 116, 104, 32]⟩ : ByteArray) ++ (⟨nm.toArray⟩ : ByteArray) ++ (⟨#[32]⟩ : ByteArray) ++ (⟨pa_.toArray⟩ : ByteArray) ++ (⟨#[32]⟩ : ByteArray) ++ (⟨pb.toArray⟩ : ByteArray) ++ (⟨#[32]⟩ : ByteArray) ++ (⟨(Lib.decDigits ln.toNat).toArray⟩ : ByteArray) = ⟨(lineOf (.path ⟨nm, pa_, pb, ln⟩)).toArray⟩) := Lib.hid (bytes_eq (by simp [lineOf, lineB, Item.toks, Item.rest, Item.key, sp, kT, wT, nT, whenT, kPath]))
          generalize Lib.decDigits ln.toNat = E_ln at D_ln q_ln HEQ
          have g1 : ¬ 9223372036854775807 < 5 + nm.length := by omega
          have g2 : ¬ 9223372036854775807 < 5 + nm.length + 1 := by omega
          have g3 : ¬ 9223372036854775807 < 5 + nm.length + 1 + pa_.length := by omega
          have g4 : ¬ 9223372036854775807 < 5 + nm.length + 1 + pa_.length + 1 := by omega
          have g5 : ¬ 9223372036854775807 < 5 + nm.length + 1 + pa_.length + 1 + pb.length := by omega
          have g6 : ¬ 9223372036854775807 < 5 + nm.length + 1 + pa_.length + 1 + pb.length + 1 := by omega
          have g7 : ¬ 9223372036854775807 < 5 + nm.length + 1 + pa_.length + 1 + pb.length + 1 + E_ln.length := by omega
          clear x0 xs hv1 hv2
          have HW1 : Hid (Blk (wr.alloc (.cells #[.string ⟨nm.toArray⟩, .string ⟨pa_.toArray⟩, .string ⟨pb.toArray⟩, .int .i64 ln] 58)) wr.heap.size 58 [.string ⟨nm.toArray⟩, .string ⟨pa_.toArray⟩, .string ⟨pb.toArray⟩, .int .i64 ln]) := Lib.hid (Blk.new wr _ _)
          have KC : Hid (∀ w', Below (wr.heap.size + 1) (wr.alloc (.cells #[.string ⟨nm.toArray⟩, .string ⟨pa_.toArray⟩, .string ⟨pb.toArray⟩, .int .i64 ln] 58)) w' → w'.cell? ⟨wr.heap.size, 0, none⟩ = some (.string ⟨nm.toArray⟩) ∧ w'.cell? ⟨wr.heap.size, 1, none⟩ = some (.string ⟨pa_.toArray⟩) ∧ w'.cell? ⟨wr.heap.size, 2, none⟩ = some (.string ⟨pb.toArray⟩) ∧ w'.cell? ⟨wr.heap.size, 3, none⟩ = some (.int .i64 ln)) := Lib.hid (fun w' h => by
            have kb := HW1.out.below h (by omega)
            exact ⟨kb.cell 0, kb.cell 1, kb.cell 2, kb.cell 3⟩)
          go_wp2
          go_region_held_law (fun w' => w'.cell? ⟨wr.heap.size, 0, none⟩ = some (.string ⟨nm.toArray⟩) ∧ w'.cell? ⟨wr.heap.size, 1, none⟩ = some (.string ⟨pa_.toArray⟩) ∧ w'.cell? ⟨wr.heap.size, 2, none⟩ = some (.string ⟨pb.toArray⟩) ∧ w'.cell? ⟨wr.heap.size, 3, none⟩ = some (.int .i64 ln)) (first | exact ⟨KS.out.cell 0, KS.out.cell 1, KS.out.cell 2, KS.out.cell 3⟩ | exact KC.out _ (by (repeat (first | exact Below.refl _ _ | exact one_box _ _ | refine below_drewN ?_ _ | refine below_drew ?_ | refine Below.alloc ?_ (by simp; try omega) _))) | go_keep) (first | (refine step_append_rd (by rfl) (.tmp 47) (.tmp 64) 22 (by rfl) (w.heap.size + 1) 9 _ 1 16 Tryz.underlying22 info_Str rfl (by omega) (by omega) (.slice A (N2 + i) c) (N2 + i) (cs strC (L2 ++ (pa.take i).map (fun a => lineOf (.path a)))) (by rfl) (Lib.hid (own_after HO.out (by repeat (first | exact Below.refl _ _ | exact one_box _ _ | refine below_drewN ?_ _ | refine below_drew ?_ | refine Below.alloc ?_ (by simp; try omega) _)))) _ _ 1 1 [.string ((⟨#[112, 97, 116, 104, 32]⟩ : ByteArray) ++ (⟨nm.toArray⟩ : ByteArray) ++ (⟨#[32]⟩ : ByteArray) ++ (⟨pa_.toArray⟩ : ByteArray) ++ (⟨#[32]⟩ : ByteArray) ++ (⟨pb.toArray⟩ : ByteArray) ++ (⟨#[32]⟩ : ByteArray) ++ (⟨E_ln.toArray⟩ : ByteArray))] (by rfl) (Lib.hid rfl) (by first | exact Lib.hid (litd_at _ _ _ _ _ (by simp) rfl) | exact Lib.hid (lit_at _ _ _ _ _ (by simp) rfl)) (by simp [Value.oneCell']) (by omega) (by first | omega | (simp; omega)) ?_; intro v' w4 hown hbel hg; obtain ⟨A', c', rfl, hcap', -⟩ := own_form hown.out; have KS : Hid (Blk w4 wr.heap.size 58 [.string ⟨nm.toArray⟩, .string ⟨pa_.toArray⟩, .string ⟨pb.toArray⟩, .int .i64 ln]) := Lib.hid (Blk.grown (HW1.out.below (B := wr.heap.size + 1) (by (repeat (first | exact Below.refl _ _ | exact one_box _ _ | refine below_drewN ?_ _ | refine below_drew ?_ | refine Below.alloc ?_ (by simp; try omega) _))) (by omega)) hg.out (fun e => by have := (HO.out.lt _ e.symm).2; omega))) | (go_simp; go_at_call 38; (with_reducible refine (D_ln.out _).mono ?_); rintro e' w3 ⟨rfl, rfl⟩) | fail)
          have OW := below_alive HB.out HK.out hbel.out (by repeat (first | exact Below.refl _ _ | exact one_box _ _ | refine below_drewN ?_ _ | refine below_drew ?_ | refine Below.alloc ?_ (by simp; try omega) _))
          go_wp2
          go_roundw
          case rel => exact ln_more HAA.out (by omega) hcap' HEQ.out hown.out OW.1 OW.2
          case measure => simp [intOf]; omega
        · obtain rfl : n2 = i := by omega
          have hi1 : ¬ (n2 : Int) < (n2 : Int) := by omega
          have kk : wr.cell? ⟨w.heap.size, 2, none⟩ = some (.slice a2 n2 c2) := HK.out.cell 2
          have HST := Lib.hid (ln_start (bx := [.int .i64 hz, .slice a1 n1 c1, .slice a2 n2 c2, .slice a3 n3 c3, .slice a4 n4 c4, .slice a5 n5 c5, .slice a6 n6 c6]) (fun a => lineOf (.door a)) dos n3 hcap (ln_over HN2.out HO.out) HB.out HK.out)
          go_wp2
          obtain ⟨L3, hL3⟩ : ∃ L, L = L2 ++ pa.map (fun a => lineOf (.path a)) := ⟨_, rfl⟩
          obtain ⟨N3, hN3⟩ : ∃ N : Nat, N = N2 + n2 := ⟨_, rfl⟩
          have hNb3 : N3 ≤ 1281 := by omega
          rw [← hL3, ← hN3] at HST
          rw [← hN3]
          have HLN3 := Lib.hid hL3
          clear hL3 hN3 HO HB HK kk hi1 hcap hlt hi
          go_loopw [3, 7] (fun v3 vi wr => LnRel w [.int .i64 hz, .slice a1 n1 c1, .slice a2 n2 c2, .slice a3 n3 c3, .slice a4 n4 c4, .slice a5 n5 c5, .slice a6 n6 c6] L3 N3 (fun a => lineOf (.door a)) dos n3 v3 vi wr) (fun _ v _ => n3 - (intOf v).toNat)
          case atStart => exact HST.out
          case round =>
            obtain ⟨i, c, A, rfl, rfl, hi, hcap, HO, HB, HK⟩ := hrel
            by_cases hlt : i < n3
            · obtain ⟨a, ha'⟩ := at_in (k := i) dos HN3 hlt
              have hi1 : (i : Int) < (n3 : Int) := by omega
              have hs1 : w.heap.size + 1 ≤ wr.heap.size := HK.out.lt
              have hv : Item.Ok (.door a) := ⟨List.all_eq_true.1 HX.out.a3 _ (List.mem_of_getElem? ha'), List.all_eq_true.1 HX.out.b3 _ (List.mem_of_getElem? ha')⟩
              obtain ⟨ad, rfl, hS, x0, xs⟩ := rd_at 7 (fun _ => rfl) (by omega) (rd_later H3.out HB.out) ha'
              have HAA := Lib.hid ha'
              clear ha'
              obtain ⟨nm, pa_, pb, ln, ⟨tf, te, tl⟩⟩ := a
              have x1 : wr.cell? (ad.add (i * 7)) = some (.string ⟨nm.toArray⟩) := x0
              have x2 : wr.cell? ⟨(ad.add (i * 7)).block, (ad.add (i * 7)).off + 1, none⟩ = some (.string ⟨pa_.toArray⟩) := (xs 1 (by omega)).resolve_right (by decide)
              have x3 : wr.cell? ⟨(ad.add (i * 7)).block, (ad.add (i * 7)).off + 2, none⟩ = some (.string ⟨pb.toArray⟩) := (xs 2 (by omega)).resolve_right (by decide)
              have x4 : wr.cell? ⟨(ad.add (i * 7)).block, (ad.add (i * 7)).off + 3, none⟩ = some (.int .i64 ln) := (xs 3 (by omega)).resolve_right (by decide)
              have x5 : wr.cell? ⟨(ad.add (i * 7)).block, (ad.add (i * 7)).off + 4, none⟩ = some (.int .i64 tf) := (xs 4 (by omega)).resolve_right (by decide)
              have x6 : wr.cell? ⟨(ad.add (i * 7)).block, (ad.add (i * 7)).off + 5, none⟩ = some (.int .i64 te) := (xs 5 (by omega)).resolve_right (by decide)
              have x7 : wr.cell? ⟨(ad.add (i * 7)).block, (ad.add (i * 7)).off + 6, none⟩ = some (.int .i64 tl) := (xs 6 (by omega)).resolve_right (by decide)
              have kk : wr.cell? ⟨w.heap.size, 3, none⟩ = some (.slice (some ad) n3 c3) := HK.out.cell 3
              have hNi : N3 + i ≤ 4000 := by omega
              obtain ⟨hv1, hv2⟩ := hv
              simp only [door_name, List.all_cons, List.all_nil, Bool.and_true, Bool.and_eq_true] at hv1
              simp only [door_tick, Bool.and_eq_true] at hv2
              have q_nm := name_len hv1.1
              have q_pa_ := name_len hv1.2.1
              have q_pb := name_len hv1.2.2
              have D_ln := Lib.hid (fun w' => digits_at ln hv2.1 w')
              have q_ln := dec_short (n := ln) hv2.1
              have WH : Hid (∀ w', Calls Tryz.prog 39 #[.agg #[.int .i64 tf, .int .i64 te, .int .i64 tl], .string ⟨#[111, 112, 101, 110]⟩] w' fun e w'' => e = .returned (.string ⟨(sp (whenT kOpen ⟨tf, te, tl⟩)).toArray⟩) ∧ Below w'.heap.size w' w'') := Lib.hid (fun w' => when_any ⟨tf, te, tl⟩ kOpen w' hv2.2 (by decide))
              have q_w := when_len (k := kOpen) hv2.2 (by decide)
              have HEQ : Hid ((⟨#[100, 111, 111, 114, 32]⟩ : ByteArray) ++ (⟨nm.toArray⟩ : ByteArray) ++ (⟨#[32]⟩ : ByteArray) ++ (⟨pa_.toArray⟩ : ByteArray) ++ (⟨#[32]⟩ : ByteArray) ++ (⟨pb.toArray⟩ : ByteArray) ++ (⟨#[32]⟩ : ByteArray) ++ (⟨(Lib.decDigits ln.toNat).toArray⟩ : ByteArray) ++ (⟨(sp (whenT kOpen ⟨tf, te, tl⟩)).toArray⟩ : ByteArray) = ⟨(lineOf (.door ⟨nm, pa_, pb, ln, ⟨tf, te, tl⟩⟩)).toArray⟩) := Lib.hid (bytes_eq (by simp [lineOf, lineB, Item.toks, Item.rest, Item.key, sp, kT, wT, nT, whenT, kDoor]))
              generalize Lib.decDigits ln.toNat = E_ln at D_ln q_ln HEQ
              generalize sp (whenT kOpen ⟨tf, te, tl⟩) = WW at WH q_w HEQ
              have g1 : ¬ 9223372036854775807 < 5 + nm.length := by omega
              have g2 : ¬ 9223372036854775807 < 5 + nm.length + 1 := by omega
              have g3 : ¬ 9223372036854775807 < 5 + nm.length + 1 + pa_.length := by omega
              have g4 : ¬ 9223372036854775807 < 5 + nm.length + 1 + pa_.length + 1 := by omega
              have g5 : ¬ 9223372036854775807 < 5 + nm.length + 1 + pa_.length + 1 + pb.length := by omega
              have g6 : ¬ 9223372036854775807 < 5 + nm.length + 1 + pa_.length + 1 + pb.length + 1 := by omega
              have g7 : ¬ 9223372036854775807 < 5 + nm.length + 1 + pa_.length + 1 + pb.length + 1 + E_ln.length := by omega
              have g8 : ¬ 9223372036854775807 < 5 + nm.length + 1 + pa_.length + 1 + pb.length + 1 + E_ln.length + WW.length := by omega
              clear x0 xs hv1 hv2
              have HW1 : Hid (Blk (wr.alloc (.cells #[.string ⟨nm.toArray⟩, .string ⟨pa_.toArray⟩, .string ⟨pb.toArray⟩, .int .i64 ln, .int .i64 tf, .int .i64 te, .int .i64 tl] 41)) wr.heap.size 41 [.string ⟨nm.toArray⟩, .string ⟨pa_.toArray⟩, .string ⟨pb.toArray⟩, .int .i64 ln, .int .i64 tf, .int .i64 te, .int .i64 tl]) := Lib.hid (Blk.new wr _ _)
              have KC : Hid (∀ w', Below (wr.heap.size + 1) (wr.alloc (.cells #[.string ⟨nm.toArray⟩, .string ⟨pa_.toArray⟩, .string ⟨pb.toArray⟩, .int .i64 ln, .int .i64 tf, .int .i64 te, .int .i64 tl] 41)) w' → w'.cell? ⟨wr.heap.size, 0, none⟩ = some (.string ⟨nm.toArray⟩) ∧ w'.cell? ⟨wr.heap.size, 1, none⟩ = some (.string ⟨pa_.toArray⟩) ∧ w'.cell? ⟨wr.heap.size, 2, none⟩ = some (.string ⟨pb.toArray⟩) ∧ w'.cell? ⟨wr.heap.size, 3, none⟩ = some (.int .i64 ln) ∧ w'.cell? ⟨wr.heap.size, 4, none⟩ = some (.int .i64 tf) ∧ w'.cell? ⟨wr.heap.size, 5, none⟩ = some (.int .i64 te) ∧ w'.cell? ⟨wr.heap.size, 6, none⟩ = some (.int .i64 tl)) := Lib.hid (fun w' h => by
                have kb := HW1.out.below h (by omega)
                exact ⟨kb.cell 0, kb.cell 1, kb.cell 2, kb.cell 3, kb.cell 4, kb.cell 5, kb.cell 6⟩)
              go_wp2
              go_region_held_law (fun w' => w'.cell? ⟨wr.heap.size, 0, none⟩ = some (.string ⟨nm.toArray⟩) ∧ w'.cell? ⟨wr.heap.size, 1, none⟩ = some (.string ⟨pa_.toArray⟩) ∧ w'.cell? ⟨wr.heap.size, 2, none⟩ = some (.string ⟨pb.toArray⟩) ∧ w'.cell? ⟨wr.heap.size, 3, none⟩ = some (.int .i64 ln) ∧ w'.cell? ⟨wr.heap.size, 4, none⟩ = some (.int .i64 tf) ∧ w'.cell? ⟨wr.heap.size, 5, none⟩ = some (.int .i64 te) ∧ w'.cell? ⟨wr.heap.size, 6, none⟩ = some (.int .i64 tl)) (first | exact ⟨KS.out.cell 0, KS.out.cell 1, KS.out.cell 2, KS.out.cell 3, KS.out.cell 4, KS.out.cell 5, KS.out.cell 6⟩ | exact KC.out _ QK.out | exact KC.out _ (QK.out.alloc (by have := QK.out.size; simp at this; omega) _) | exact KC.out _ (by (repeat (first | exact Below.refl _ _ | exact one_box _ _ | refine below_drewN ?_ _ | refine below_drew ?_ | refine Below.alloc ?_ (by simp; try omega) _))) | go_keep) (first | (refine step_append_rd (by rfl) (.tmp 78) (.tmp 99) 22 (by rfl) (w.heap.size + 1) 9 _ 1 16 Tryz.underlying22 info_Str rfl (by omega) (by omega) (.slice A (N3 + i) c) (N3 + i) (cs strC (L3 ++ (dos.take i).map (fun a => lineOf (.door a)))) (by rfl) (Lib.hid (own_after HO.out (by first | exact keep_trans QW.out (by repeat (first | exact Below.refl _ _ | exact one_box _ _ | refine below_drewN ?_ _ | refine below_drew ?_)) | exact keep_trans QW.out (one_box _ _) | (repeat (first | exact Below.refl _ _ | exact one_box _ _ | refine below_drewN ?_ _ | refine below_drew ?_ | refine Below.alloc ?_ (by simp; try omega) _))))) _ _ 1 1 [.string ((⟨#[100, 111, 111, 114, 32]⟩ : ByteArray) ++ (⟨nm.toArray⟩ : ByteArray) ++ (⟨#[32]⟩ : ByteArray) ++ (⟨pa_.toArray⟩ : ByteArray) ++ (⟨#[32]⟩ : ByteArray) ++ (⟨pb.toArray⟩ : ByteArray) ++ (⟨#[32]⟩ : ByteArray) ++ (⟨E_ln.toArray⟩ : ByteArray) ++ (⟨WW.toArray⟩ : ByteArray))] (by rfl) (Lib.hid rfl) (by first | exact Lib.hid (litd_at _ _ _ _ _ (by simp) rfl) | exact Lib.hid (lit_at _ _ _ _ _ (by simp) rfl)) (by simp [Value.oneCell']) (by omega) (by first | omega | (simp; omega) | (have := QW.out.size; simp; omega)) ?_; intro v' w4 hown hbel hg; obtain ⟨A', c', rfl, hcap', -⟩ := own_form hown.out; have KS : Hid (Blk w4 wr.heap.size 41 [.string ⟨nm.toArray⟩, .string ⟨pa_.toArray⟩, .string ⟨pb.toArray⟩, .int .i64 ln, .int .i64 tf, .int .i64 te, .int .i64 tl]) := Lib.hid (Blk.grown (by first | exact (HW1.out.below QK.out (by omega)).alloc _ | exact HW1.out.below (B := wr.heap.size + 1) (by (repeat (first | exact Below.refl _ _ | exact one_box _ _ | refine below_drewN ?_ _ | refine below_drew ?_ | refine Below.alloc ?_ (by simp; try omega) _))) (by omega)) hg.out (fun e => by have := (HO.out.lt _ e.symm).2; omega))) | (go_simp; go_at_call 39; (with_reducible refine (WH.out _).mono ?_); rintro e' w3 ⟨rfl, hbw⟩; have QW : Hid (Below wr.heap.size wr w3) := Lib.hid (keep_trans (show Below wr.heap.size wr _ from (by (repeat (first | exact Below.refl _ _ | exact one_box _ _ | refine below_drewN ?_ _ | refine below_drew ?_ | refine Below.alloc ?_ (by simp; try omega) _)))) hbw); have QK : Hid (Below (wr.heap.size + 1) (wr.alloc (.cells #[.string ⟨nm.toArray⟩, .string ⟨pa_.toArray⟩, .string ⟨pb.toArray⟩, .int .i64 ln, .int .i64 tf, .int .i64 te, .int .i64 tl] 41)) w3) := Lib.hid (below_then (show Below (wr.heap.size + 1) (wr.alloc (.cells #[.string ⟨nm.toArray⟩, .string ⟨pa_.toArray⟩, .string ⟨pb.toArray⟩, .int .i64 ln, .int .i64 tf, .int .i64 te, .int .i64 tl] 41)) _ from (by (repeat (first | exact Below.refl _ _ | exact one_box _ _ | refine below_drewN ?_ _ | refine below_drew ?_ | refine Below.alloc ?_ (by simp; try omega) _)))) hbw (by simp)); clear hbw) | (go_simp; go_at_call 38; (with_reducible refine (D_ln.out _).mono ?_); rintro e' w3 ⟨rfl, rfl⟩) | fail)
              have OW := below_alive HB.out HK.out hbel.out (by first | exact keep_trans QW.out (by repeat (first | exact Below.refl _ _ | exact one_box _ _ | refine below_drewN ?_ _ | refine below_drew ?_)) | exact keep_trans QW.out (one_box _ _) | (repeat (first | exact Below.refl _ _ | exact one_box _ _ | refine below_drewN ?_ _ | refine below_drew ?_ | refine Below.alloc ?_ (by simp; try omega) _)))
              go_wp2
              go_roundw
              case rel => exact ln_more HAA.out (by omega) hcap' HEQ.out hown.out OW.1 OW.2
              case measure => simp [intOf]; omega
            · obtain rfl : n3 = i := by omega
              have hi1 : ¬ (n3 : Int) < (n3 : Int) := by omega
              have kk : wr.cell? ⟨w.heap.size, 3, none⟩ = some (.slice a3 n3 c3) := HK.out.cell 3
              have HST := Lib.hid (ln_start (bx := [.int .i64 hz, .slice a1 n1 c1, .slice a2 n2 c2, .slice a3 n3 c3, .slice a4 n4 c4, .slice a5 n5 c5, .slice a6 n6 c6]) (fun a => lineOf (.route a)) ro n4 hcap (ln_over HN3.out HO.out) HB.out HK.out)
              go_wp2
              obtain ⟨L4, hL4⟩ : ∃ L, L = L3 ++ dos.map (fun a => lineOf (.door a)) := ⟨_, rfl⟩
              obtain ⟨N4, hN4⟩ : ∃ N : Nat, N = N3 + n3 := ⟨_, rfl⟩
              have hNb4 : N4 ≤ 1537 := by omega
              rw [← hL4, ← hN4] at HST
              rw [← hN4]
              have HLN4 := Lib.hid hL4
              clear hL4 hN4 HO HB HK kk hi1 hcap hlt hi
              go_loopw [3, 9] (fun v3 vi wr => LnRel w [.int .i64 hz, .slice a1 n1 c1, .slice a2 n2 c2, .slice a3 n3 c3, .slice a4 n4 c4, .slice a5 n5 c5, .slice a6 n6 c6] L4 N4 (fun a => lineOf (.route a)) ro n4 v3 vi wr) (fun _ v _ => n4 - (intOf v).toNat)
              case atStart => exact HST.out
              case round =>
                obtain ⟨i, c, A, rfl, rfl, hi, hcap, HO, HB, HK⟩ := hrel
                by_cases hlt : i < n4
                · obtain ⟨a, ha'⟩ := at_in (k := i) ro HN4 hlt
                  have hi1 : (i : Int) < (n4 : Int) := by omega
                  have hs1 : w.heap.size + 1 ≤ wr.heap.size := HK.out.lt
                  obtain ⟨ad, rfl, hS, sa, sc, ra, rc, ya, yc, x0, x1, x2, x3, hg⟩ := rts_at (rd_later H4.out HB.out) (H4'.out.later HB.out) ha'
                  have hvn : route_name a = true := List.all_eq_true.1 HX.out.a4 _ (List.mem_of_getElem? ha')
                  have hvt : route_tick a = true := List.all_eq_true.1 HX.out.b4 _ (List.mem_of_getElem? ha')
                  have hvc : route_count a = true := List.all_eq_true.1 HX.out.d4 _ (List.mem_of_getElem? ha')
                  have HAA := Lib.hid ha'
                  clear ha'
                  have AL : Hid (Calls Tryz.prog 40 #[.agg #[.string ⟨a.name.toArray⟩, .slice sa a.stops.length sc, .slice ra a.rides.length rc, .slice ya a.stays.length yc]] wr fun e w' => e = .returned (.string ⟨(lineOf (.route a)).toArray⟩) ∧ Below wr.heap.size wr w') := Lib.hid (along_any a sa ra ya sc rc yc wr hg hvn hvt hvc)
                  have kk : wr.cell? ⟨w.heap.size, 4, none⟩ = some (.slice (some ad) n4 c4) := HK.out.cell 4
                  have hNi : N4 + i ≤ 4000 := by omega
                  clear hg hvn hvt hvc
                  generalize a.stops.length = m1 at *
                  generalize a.rides.length = m2 at *
                  generalize a.stays.length = m3 at *
                  go_wp2_with (first | (go_at_call 40; (with_reducible refine AL.out.mono ?_); rintro e' w3 ⟨rfl, hb3⟩; have QW := Lib.hid hb3; clear hb3) | (at_builtin; refine wpList_append_rd rfl (.tmp 108) (.tmp 115) 22 rfl (w.heap.size + 1) 9 _ 1 16 Tryz.underlying22 info_Str rfl (by omega) (by omega) (.slice A (N4 + i) c) (N4 + i) (cs strC (L4 ++ (ro.take i).map (fun a => lineOf (.route a)))) rfl (own_after HO.out (keep_trans QW.out (one_box _ _))) _ _ 1 1 [.string ⟨(lineOf (.route a)).toArray⟩] rfl rfl (lit_at _ _ _ _ _ (by simp) rfl) (by simp [Value.oneCell']) (by omega) (by have := QW.out.size; simp; omega) ?_; intro v' w4 hown hbel; obtain ⟨A', c', rfl, hcap', -⟩ := own_form hown.out) | fail)
                  have OW := below_alive HB.out HK.out hbel.out (keep_trans QW.out (one_box _ _))
                  go_roundw
                  case rel => exact ln_more HAA.out (by omega) hcap' rfl hown.out OW.1 OW.2
                  case measure => simp [intOf]; omega
                · obtain rfl : n4 = i := by omega
                  have hi1 : ¬ (n4 : Int) < (n4 : Int) := by omega
                  have kk : wr.cell? ⟨w.heap.size, 4, none⟩ = some (.slice a4 n4 c4) := HK.out.cell 4
                  have HST := Lib.hid (ln_start (bx := [.int .i64 hz, .slice a1 n1 c1, .slice a2 n2 c2, .slice a3 n3 c3, .slice a4 n4 c4, .slice a5 n5 c5, .slice a6 n6 c6]) (fun a => lineOf (.trip a)) tr n5 hcap (ln_over HN4.out HO.out) HB.out HK.out)
                  go_wp2
                  obtain ⟨L5, hL5⟩ : ∃ L, L = L4 ++ ro.map (fun a => lineOf (.route a)) := ⟨_, rfl⟩
                  obtain ⟨N5, hN5⟩ : ∃ N : Nat, N = N4 + n4 := ⟨_, rfl⟩
                  have hNb5 : N5 ≤ 1793 := by omega
                  rw [← hL5, ← hN5] at HST
                  rw [← hN5]
                  have HLN5 := Lib.hid hL5
                  clear hL5 hN5 HO HB HK kk hi1 hcap hlt hi
                  go_loopw [3, 10] (fun v3 vi wr => LnRel w [.int .i64 hz, .slice a1 n1 c1, .slice a2 n2 c2, .slice a3 n3 c3, .slice a4 n4 c4, .slice a5 n5 c5, .slice a6 n6 c6] L5 N5 (fun a => lineOf (.trip a)) tr n5 v3 vi wr) (fun _ v _ => n5 - (intOf v).toNat)
                  case atStart => exact HST.out
                  case round =>
                    obtain ⟨i, c, A, rfl, rfl, hi, hcap, HO, HB, HK⟩ := hrel
                    by_cases hlt : i < n5
                    · obtain ⟨a, ha'⟩ := at_in (k := i) tr HN5 hlt
                      have hi1 : (i : Int) < (n5 : Int) := by omega
                      have hs1 : w.heap.size + 1 ≤ wr.heap.size := HK.out.lt
                      have hv : Item.Ok (.trip a) := ⟨List.all_eq_true.1 HX.out.a5 _ (List.mem_of_getElem? ha'), List.all_eq_true.1 HX.out.b5 _ (List.mem_of_getElem? ha')⟩
                      obtain ⟨ad, rfl, hS, x0, xs⟩ := rd_at 5 (fun _ => rfl) (by omega) (rd_later H5.out HB.out) ha'
                      have HAA := Lib.hid ha'
                      clear ha'
                      obtain ⟨nm, rt, tf, te, tu⟩ := a
                      have x1 : wr.cell? (ad.add (i * 5)) = some (.string ⟨nm.toArray⟩) := x0
                      have x2 : wr.cell? ⟨(ad.add (i * 5)).block, (ad.add (i * 5)).off + 1, none⟩ = some (.string ⟨rt.toArray⟩) := (xs 1 (by omega)).resolve_right (by decide)
                      have x3 : wr.cell? ⟨(ad.add (i * 5)).block, (ad.add (i * 5)).off + 2, none⟩ = some (.int .i64 tf) := (xs 2 (by omega)).resolve_right (by decide)
                      have x4 : wr.cell? ⟨(ad.add (i * 5)).block, (ad.add (i * 5)).off + 3, none⟩ = some (.int .i64 te) := (xs 3 (by omega)).resolve_right (by decide)
                      have x5 : wr.cell? ⟨(ad.add (i * 5)).block, (ad.add (i * 5)).off + 4, none⟩ = some (.int .i64 tu) := (xs 4 (by omega)).resolve_right (by decide)
                      have kk : wr.cell? ⟨w.heap.size, 5, none⟩ = some (.slice (some ad) n5 c5) := HK.out.cell 5
                      have hNi : N5 + i ≤ 4000 := by omega
                      obtain ⟨hv1, hv2⟩ := hv
                      simp only [trip_name, List.all_cons, List.all_nil, Bool.and_true, Bool.and_eq_true] at hv1
                      simp only [trip_tick, List.all_cons, List.all_nil, Bool.and_true, Bool.and_eq_true] at hv2
                      have q_nm := name_len hv1.1
                      have q_rt := name_len hv1.2
                      have D_tf := Lib.hid (fun w' => digits_at tf hv2.1 w')
                      have q_tf := dec_short (n := tf) hv2.1
                      have D_te := Lib.hid (fun w' => digits_at te hv2.2.1 w')
                      have q_te := dec_short (n := te) hv2.2.1
                      have D_tu := Lib.hid (fun w' => digits_at tu hv2.2.2 w')
                      have q_tu := dec_short (n := tu) hv2.2.2
                      have HEQ : Hid ((⟨#[116, 114, 105, 112, 32]⟩ : ByteArray) ++ (⟨nm.toArray⟩ : ByteArray) ++ (⟨#[32, 111, 102, 32]⟩ : ByteArray) ++ (⟨rt.toArray⟩ : ByteArray) ++ (⟨#[32, 102, 114, 111, 109, 32]⟩ : ByteArray) ++ (⟨(Lib.decDigits tf.toNat).toArray⟩ : ByteArray) ++ (⟨#[32, 101, 118, 101, 114, 121, 32]⟩ : ByteArray) ++ (⟨(Lib.decDigits te.toNat).toArray⟩ : ByteArray) ++ (⟨#[32, 117, 110, 116, 105, 108, 32]⟩ : ByteArray) ++ (⟨(Lib.decDigits tu.toNat).toArray⟩ : ByteArray) = ⟨(lineOf (.trip ⟨nm, rt, tf, te, tu⟩)).toArray⟩) := Lib.hid (bytes_eq (by simp [lineOf, lineB, Item.toks, Item.rest, Item.key, sp, kT, wT, nT, whenT, kTrip, kOf, kFrom, kEvery, kUntil]))
                      generalize Lib.decDigits tf.toNat = E_tf at D_tf q_tf HEQ
                      generalize Lib.decDigits te.toNat = E_te at D_te q_te HEQ
                      generalize Lib.decDigits tu.toNat = E_tu at D_tu q_tu HEQ
                      have g1 : ¬ 9223372036854775807 < 5 + nm.length := by omega
                      have g2 : ¬ 9223372036854775807 < 5 + nm.length + 4 := by omega
                      have g3 : ¬ 9223372036854775807 < 5 + nm.length + 4 + rt.length := by omega
                      have g4 : ¬ 9223372036854775807 < 5 + nm.length + 4 + rt.length + 6 := by omega
                      have g5 : ¬ 9223372036854775807 < 5 + nm.length + 4 + rt.length + 6 + E_tf.length := by omega
                      have g6 : ¬ 9223372036854775807 < 5 + nm.length + 4 + rt.length + 6 + E_tf.length + 7 := by omega
                      have g7 : ¬ 9223372036854775807 < 5 + nm.length + 4 + rt.length + 6 + E_tf.length + 7 + E_te.length := by omega
                      have g8 : ¬ 9223372036854775807 < 5 + nm.length + 4 + rt.length + 6 + E_tf.length + 7 + E_te.length + 7 := by omega
                      have g9 : ¬ 9223372036854775807 < 5 + nm.length + 4 + rt.length + 6 + E_tf.length + 7 + E_te.length + 7 + E_tu.length := by omega
                      clear x0 xs hv1 hv2
                      have HW1 : Hid (Blk (wr.alloc (.cells #[.string ⟨nm.toArray⟩, .string ⟨rt.toArray⟩, .int .i64 tf, .int .i64 te, .int .i64 tu] 43)) wr.heap.size 43 [.string ⟨nm.toArray⟩, .string ⟨rt.toArray⟩, .int .i64 tf, .int .i64 te, .int .i64 tu]) := Lib.hid (Blk.new wr _ _)
                      have KC : Hid (∀ w', Below (wr.heap.size + 1) (wr.alloc (.cells #[.string ⟨nm.toArray⟩, .string ⟨rt.toArray⟩, .int .i64 tf, .int .i64 te, .int .i64 tu] 43)) w' → w'.cell? ⟨wr.heap.size, 0, none⟩ = some (.string ⟨nm.toArray⟩) ∧ w'.cell? ⟨wr.heap.size, 1, none⟩ = some (.string ⟨rt.toArray⟩) ∧ w'.cell? ⟨wr.heap.size, 2, none⟩ = some (.int .i64 tf) ∧ w'.cell? ⟨wr.heap.size, 3, none⟩ = some (.int .i64 te) ∧ w'.cell? ⟨wr.heap.size, 4, none⟩ = some (.int .i64 tu)) := Lib.hid (fun w' h => by
                        have kb := HW1.out.below h (by omega)
                        exact ⟨kb.cell 0, kb.cell 1, kb.cell 2, kb.cell 3, kb.cell 4⟩)
                      go_wp2
                      go_region_held_law (fun w' => w'.cell? ⟨wr.heap.size, 0, none⟩ = some (.string ⟨nm.toArray⟩) ∧ w'.cell? ⟨wr.heap.size, 1, none⟩ = some (.string ⟨rt.toArray⟩) ∧ w'.cell? ⟨wr.heap.size, 2, none⟩ = some (.int .i64 tf) ∧ w'.cell? ⟨wr.heap.size, 3, none⟩ = some (.int .i64 te) ∧ w'.cell? ⟨wr.heap.size, 4, none⟩ = some (.int .i64 tu)) (first | exact ⟨KS.out.cell 0, KS.out.cell 1, KS.out.cell 2, KS.out.cell 3, KS.out.cell 4⟩ | exact KC.out _ (by (repeat (first | exact Below.refl _ _ | exact one_box _ _ | refine below_drewN ?_ _ | refine below_drew ?_ | refine Below.alloc ?_ (by simp; try omega) _))) | go_keep) (first | (refine step_append_rd (by rfl) (.tmp 129) (.tmp 152) 22 (by rfl) (w.heap.size + 1) 9 _ 1 16 Tryz.underlying22 info_Str rfl (by omega) (by omega) (.slice A (N5 + i) c) (N5 + i) (cs strC (L5 ++ (tr.take i).map (fun a => lineOf (.trip a)))) (by rfl) (Lib.hid (own_after HO.out (by repeat (first | exact Below.refl _ _ | exact one_box _ _ | refine below_drewN ?_ _ | refine below_drew ?_ | refine Below.alloc ?_ (by simp; try omega) _)))) _ _ 1 1 [.string ((⟨#[116, 114, 105, 112, 32]⟩ : ByteArray) ++ (⟨nm.toArray⟩ : ByteArray) ++ (⟨#[32, 111, 102, 32]⟩ : ByteArray) ++ (⟨rt.toArray⟩ : ByteArray) ++ (⟨#[32, 102, 114, 111, 109, 32]⟩ : ByteArray) ++ (⟨E_tf.toArray⟩ : ByteArray) ++ (⟨#[32, 101, 118, 101, 114, 121, 32]⟩ : ByteArray) ++ (⟨E_te.toArray⟩ : ByteArray) ++ (⟨#[32, 117, 110, 116, 105, 108, 32]⟩ : ByteArray) ++ (⟨E_tu.toArray⟩ : ByteArray))] (by rfl) (Lib.hid rfl) (by first | exact Lib.hid (litd_at _ _ _ _ _ (by simp) rfl) | exact Lib.hid (lit_at _ _ _ _ _ (by simp) rfl)) (by simp [Value.oneCell']) (by omega) (by first | omega | (simp; omega)) ?_; intro v' w4 hown hbel hg; obtain ⟨A', c', rfl, hcap', -⟩ := own_form hown.out; have KS : Hid (Blk w4 wr.heap.size 43 [.string ⟨nm.toArray⟩, .string ⟨rt.toArray⟩, .int .i64 tf, .int .i64 te, .int .i64 tu]) := Lib.hid (Blk.grown (HW1.out.below (B := wr.heap.size + 1) (by (repeat (first | exact Below.refl _ _ | exact one_box _ _ | refine below_drewN ?_ _ | refine below_drew ?_ | refine Below.alloc ?_ (by simp; try omega) _))) (by omega)) hg.out (fun e => by have := (HO.out.lt _ e.symm).2; omega))) | (go_simp; go_at_call 38; (with_reducible refine (D_tf.out _).mono ?_); rintro e' w3 ⟨rfl, rfl⟩) | (go_simp; go_at_call 38; (with_reducible refine (D_te.out _).mono ?_); rintro e' w3 ⟨rfl, rfl⟩) | (go_simp; go_at_call 38; (with_reducible refine (D_tu.out _).mono ?_); rintro e' w3 ⟨rfl, rfl⟩) | fail)
                      have OW := below_alive HB.out HK.out hbel.out (by repeat (first | exact Below.refl _ _ | exact one_box _ _ | refine below_drewN ?_ _ | refine below_drew ?_ | refine Below.alloc ?_ (by simp; try omega) _))
                      go_wp2
                      go_roundw
                      case rel => exact ln_more HAA.out (by omega) hcap' HEQ.out hown.out OW.1 OW.2
                      case measure => simp [intOf]; omega
                    · obtain rfl : n5 = i := by omega
                      have hi1 : ¬ (n5 : Int) < (n5 : Int) := by omega
                      have kk : wr.cell? ⟨w.heap.size, 5, none⟩ = some (.slice a5 n5 c5) := HK.out.cell 5
                      have HST := Lib.hid (ln_start (bx := [.int .i64 hz, .slice a1 n1 c1, .slice a2 n2 c2, .slice a3 n3 c3, .slice a4 n4 c4, .slice a5 n5 c5, .slice a6 n6 c6]) (fun a => lineOf (.haz a)) ha n6 hcap (ln_over HN5.out HO.out) HB.out HK.out)
                      go_wp2
                      obtain ⟨L6, hL6⟩ : ∃ L, L = L5 ++ tr.map (fun a => lineOf (.trip a)) := ⟨_, rfl⟩
                      obtain ⟨N6, hN6⟩ : ∃ N : Nat, N = N5 + n5 := ⟨_, rfl⟩
                      have hNb6 : N6 ≤ 2817 := by omega
                      rw [← hL6, ← hN6] at HST
                      rw [← hN6]
                      have HLN6 := Lib.hid hL6
                      clear hL6 hN6 HO HB HK kk hi1 hcap hlt hi
                      go_loopw [3, 12] (fun v3 vi wr => LnRel w [.int .i64 hz, .slice a1 n1 c1, .slice a2 n2 c2, .slice a3 n3 c3, .slice a4 n4 c4, .slice a5 n5 c5, .slice a6 n6 c6] L6 N6 (fun a => lineOf (.haz a)) ha n6 v3 vi wr) (fun _ v _ => n6 - (intOf v).toNat)
                      case atStart => exact HST.out
                      case round =>
                        obtain ⟨i, c, A, rfl, rfl, hi, hcap, HO, HB, HK⟩ := hrel
                        by_cases hlt : i < n6
                        · obtain ⟨a, ha'⟩ := at_in (k := i) ha HN6 hlt
                          have hi1 : (i : Int) < (n6 : Int) := by omega
                          have hs1 : w.heap.size + 1 ≤ wr.heap.size := HK.out.lt
                          have hv : Item.Ok (.haz a) := ⟨List.all_eq_true.1 HX.out.a6 _ (List.mem_of_getElem? ha'), List.all_eq_true.1 HX.out.b6 _ (List.mem_of_getElem? ha')⟩
                          obtain ⟨ad, rfl, hS, x0, xs⟩ := rd_at 5 (fun _ => rfl) (by omega) (rd_later H6.out HB.out) ha'
                          have HAA := Lib.hid ha'
                          clear ha'
                          obtain ⟨nm, on_, ⟨tf, te, tl⟩⟩ := a
                          have x1 : wr.cell? (ad.add (i * 5)) = some (.string ⟨nm.toArray⟩) := x0
                          have x2 : wr.cell? ⟨(ad.add (i * 5)).block, (ad.add (i * 5)).off + 1, none⟩ = some (.string ⟨on_.toArray⟩) := (xs 1 (by omega)).resolve_right (by decide)
                          have x3 : wr.cell? ⟨(ad.add (i * 5)).block, (ad.add (i * 5)).off + 2, none⟩ = some (.int .i64 tf) := (xs 2 (by omega)).resolve_right (by decide)
                          have x4 : wr.cell? ⟨(ad.add (i * 5)).block, (ad.add (i * 5)).off + 3, none⟩ = some (.int .i64 te) := (xs 3 (by omega)).resolve_right (by decide)
                          have x5 : wr.cell? ⟨(ad.add (i * 5)).block, (ad.add (i * 5)).off + 4, none⟩ = some (.int .i64 tl) := (xs 4 (by omega)).resolve_right (by decide)
                          have kk : wr.cell? ⟨w.heap.size, 6, none⟩ = some (.slice (some ad) n6 c6) := HK.out.cell 6
                          have hNi : N6 + i ≤ 4000 := by omega
                          obtain ⟨hv1, hv2⟩ := hv
                          simp only [haz_name, List.all_cons, List.all_nil, Bool.and_true, Bool.and_eq_true] at hv1
                          simp only [haz_tick, Bool.and_eq_true] at hv2
                          have q_nm := name_len hv1.1
                          have q_on_ := name_len hv1.2
                          have WH : Hid (∀ w', Calls Tryz.prog 39 #[.agg #[.int .i64 tf, .int .i64 te, .int .i64 tl], .string ⟨#[99, 108, 111, 115, 101, 100]⟩] w' fun e w'' => e = .returned (.string ⟨(sp (whenT kClosed ⟨tf, te, tl⟩)).toArray⟩) ∧ Below w'.heap.size w' w'') := Lib.hid (fun w' => when_any ⟨tf, te, tl⟩ kClosed w' hv2 (by decide))
                          have q_w := when_len (k := kClosed) hv2 (by decide)
                          have HEQ : Hid ((⟨#[104, 97, 122, 97, 114, 100, 32]⟩ : ByteArray) ++ (⟨nm.toArray⟩ : ByteArray) ++ (⟨#[32, 111, 110, 32]⟩ : ByteArray) ++ (⟨on_.toArray⟩ : ByteArray) ++ (⟨(sp (whenT kClosed ⟨tf, te, tl⟩)).toArray⟩ : ByteArray) = ⟨(lineOf (.haz ⟨nm, on_, ⟨tf, te, tl⟩⟩)).toArray⟩) := Lib.hid (bytes_eq (by simp [lineOf, lineB, Item.toks, Item.rest, Item.key, sp, kT, wT, nT, whenT, kHazard, kOn]))
                          generalize sp (whenT kClosed ⟨tf, te, tl⟩) = WW at WH q_w HEQ
                          have g1 : ¬ 9223372036854775807 < 7 + nm.length := by omega
                          have g2 : ¬ 9223372036854775807 < 7 + nm.length + 4 := by omega
                          have g3 : ¬ 9223372036854775807 < 7 + nm.length + 4 + on_.length := by omega
                          have g4 : ¬ 9223372036854775807 < 7 + nm.length + 4 + on_.length + WW.length := by omega
                          clear x0 xs hv1 hv2
                          have HW1 : Hid (Blk (wr.alloc (.cells #[.string ⟨nm.toArray⟩, .string ⟨on_.toArray⟩, .int .i64 tf, .int .i64 te, .int .i64 tl] 45)) wr.heap.size 45 [.string ⟨nm.toArray⟩, .string ⟨on_.toArray⟩, .int .i64 tf, .int .i64 te, .int .i64 tl]) := Lib.hid (Blk.new wr _ _)
                          have KC : Hid (∀ w', Below (wr.heap.size + 1) (wr.alloc (.cells #[.string ⟨nm.toArray⟩, .string ⟨on_.toArray⟩, .int .i64 tf, .int .i64 te, .int .i64 tl] 45)) w' → w'.cell? ⟨wr.heap.size, 0, none⟩ = some (.string ⟨nm.toArray⟩) ∧ w'.cell? ⟨wr.heap.size, 1, none⟩ = some (.string ⟨on_.toArray⟩) ∧ w'.cell? ⟨wr.heap.size, 2, none⟩ = some (.int .i64 tf) ∧ w'.cell? ⟨wr.heap.size, 3, none⟩ = some (.int .i64 te) ∧ w'.cell? ⟨wr.heap.size, 4, none⟩ = some (.int .i64 tl)) := Lib.hid (fun w' h => by
                            have kb := HW1.out.below h (by omega)
                            exact ⟨kb.cell 0, kb.cell 1, kb.cell 2, kb.cell 3, kb.cell 4⟩)
                          go_wp2
                          go_region_held_law (fun w' => w'.cell? ⟨wr.heap.size, 0, none⟩ = some (.string ⟨nm.toArray⟩) ∧ w'.cell? ⟨wr.heap.size, 1, none⟩ = some (.string ⟨on_.toArray⟩) ∧ w'.cell? ⟨wr.heap.size, 2, none⟩ = some (.int .i64 tf) ∧ w'.cell? ⟨wr.heap.size, 3, none⟩ = some (.int .i64 te) ∧ w'.cell? ⟨wr.heap.size, 4, none⟩ = some (.int .i64 tl)) (first | exact ⟨KS.out.cell 0, KS.out.cell 1, KS.out.cell 2, KS.out.cell 3, KS.out.cell 4⟩ | exact KC.out _ QK.out | exact KC.out _ (QK.out.alloc (by have := QK.out.size; simp at this; omega) _) | exact KC.out _ (by (repeat (first | exact Below.refl _ _ | exact one_box _ _ | refine below_drewN ?_ _ | refine below_drew ?_ | refine Below.alloc ?_ (by simp; try omega) _))) | go_keep) (first | (refine step_append_rd (by rfl) (.tmp 166) (.tmp 178) 22 (by rfl) (w.heap.size + 1) 9 _ 1 16 Tryz.underlying22 info_Str rfl (by omega) (by omega) (.slice A (N6 + i) c) (N6 + i) (cs strC (L6 ++ (ha.take i).map (fun a => lineOf (.haz a)))) (by rfl) (Lib.hid (own_after HO.out (by first | exact keep_trans QW.out (by repeat (first | exact Below.refl _ _ | exact one_box _ _ | refine below_drewN ?_ _ | refine below_drew ?_)) | exact keep_trans QW.out (one_box _ _) | (repeat (first | exact Below.refl _ _ | exact one_box _ _ | refine below_drewN ?_ _ | refine below_drew ?_ | refine Below.alloc ?_ (by simp; try omega) _))))) _ _ 1 1 [.string ((⟨#[104, 97, 122, 97, 114, 100, 32]⟩ : ByteArray) ++ (⟨nm.toArray⟩ : ByteArray) ++ (⟨#[32, 111, 110, 32]⟩ : ByteArray) ++ (⟨on_.toArray⟩ : ByteArray) ++ (⟨WW.toArray⟩ : ByteArray))] (by rfl) (Lib.hid rfl) (by first | exact Lib.hid (litd_at _ _ _ _ _ (by simp) rfl) | exact Lib.hid (lit_at _ _ _ _ _ (by simp) rfl)) (by simp [Value.oneCell']) (by omega) (by first | omega | (simp; omega) | (have := QW.out.size; simp; omega)) ?_; intro v' w4 hown hbel hg; obtain ⟨A', c', rfl, hcap', -⟩ := own_form hown.out; have KS : Hid (Blk w4 wr.heap.size 45 [.string ⟨nm.toArray⟩, .string ⟨on_.toArray⟩, .int .i64 tf, .int .i64 te, .int .i64 tl]) := Lib.hid (Blk.grown (by first | exact (HW1.out.below QK.out (by omega)).alloc _ | exact HW1.out.below (B := wr.heap.size + 1) (by (repeat (first | exact Below.refl _ _ | exact one_box _ _ | refine below_drewN ?_ _ | refine below_drew ?_ | refine Below.alloc ?_ (by simp; try omega) _))) (by omega)) hg.out (fun e => by have := (HO.out.lt _ e.symm).2; omega))) | (go_simp; go_at_call 39; (with_reducible refine (WH.out _).mono ?_); rintro e' w3 ⟨rfl, hbw⟩; have QW : Hid (Below wr.heap.size wr w3) := Lib.hid (keep_trans (show Below wr.heap.size wr _ from (by (repeat (first | exact Below.refl _ _ | exact one_box _ _ | refine below_drewN ?_ _ | refine below_drew ?_ | refine Below.alloc ?_ (by simp; try omega) _)))) hbw); have QK : Hid (Below (wr.heap.size + 1) (wr.alloc (.cells #[.string ⟨nm.toArray⟩, .string ⟨on_.toArray⟩, .int .i64 tf, .int .i64 te, .int .i64 tl] 45)) w3) := Lib.hid (below_then (show Below (wr.heap.size + 1) (wr.alloc (.cells #[.string ⟨nm.toArray⟩, .string ⟨on_.toArray⟩, .int .i64 tf, .int .i64 te, .int .i64 tl] 45)) _ from (by (repeat (first | exact Below.refl _ _ | exact one_box _ _ | refine below_drewN ?_ _ | refine below_drew ?_ | refine Below.alloc ?_ (by simp; try omega) _)))) hbw (by simp)); clear hbw) | fail)
                          have OW := below_alive HB.out HK.out hbel.out (by first | exact keep_trans QW.out (by repeat (first | exact Below.refl _ _ | exact one_box _ _ | refine below_drewN ?_ _ | refine below_drew ?_)) | exact keep_trans QW.out (one_box _ _) | (repeat (first | exact Below.refl _ _ | exact one_box _ _ | refine below_drewN ?_ _ | refine below_drew ?_ | refine Below.alloc ?_ (by simp; try omega) _)))
                          go_wp2
                          go_roundw
                          case rel => exact ln_more HAA.out (by omega) hcap' HEQ.out hown.out OW.1 OW.2
                          case measure => simp [intOf]; omega
                        · obtain rfl : n6 = i := by omega
                          have hi1 : ¬ (n6 : Int) < (n6 : Int) := by omega
                          have kk : wr.cell? ⟨w.heap.size, 6, none⟩ = some (.slice a6 n6 c6) := HK.out.cell 6
                          have HFIN := Lib.hid (ln_over HN6.out HO.out)
                          go_wp2
                          go_ret
                          obtain ⟨A', c', e', -, hrd⟩ := own_form HFIN.out
                          injection e' with e1 e2 e3
                          subst e1
                          subst e3
                          have hlen := HFIN.out.1
                          rw [cs_length strC 1 (fun _ => rfl)] at hlen
                          have hfin : L6 ++ ha.map (fun a => lineOf (.haz a)) = lineB (horT hz) :: (st.map (fun a => lineOf (.stop a)) ++ (pa.map (fun a => lineOf (.path a)) ++ (dos.map (fun a => lineOf (.door a)) ++ (ro.map (fun a => lineOf (.route a)) ++ (tr.map (fun a => lineOf (.trip a)) ++ ha.map (fun a => lineOf (.haz a))))))) := by
                            rw [HLN6.out, HLN5.out, HLN4.out, HLN3.out, HLN2.out, HLN1.out]
                            simp
                          rw [hfin] at hrd hlen
                          exact ⟨_, _, _, rfl, hcap, Lib.hid (by rw [Nat.mul_one, Nat.mul_one] at hlen; exact hlen.symm), Lib.hid (hrd.more fun b hb => ⟨by have := hb.1; omega, hb.2⟩), HB.out⟩
end Go.Proofs.YteonmabfhilcfaaGreatDoor.Sh
