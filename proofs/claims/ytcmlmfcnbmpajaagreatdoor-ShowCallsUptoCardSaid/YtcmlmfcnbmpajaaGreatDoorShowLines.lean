/- Package show's Lines and Text: of a sheet that may be its lines, group by group, and the lines with an end behind each; of another one Check's error; proved by walking their text. Conditions: the library's table holds what start-up lays (Env); the sheet is not beyond all bounds. -/
import Derived.Test.YtcmlmfcnbmpajaaGreatDoorShowTell
import Derived.Test.YtcmlmfcnbmpajaaGreatDoorShowMath
import Derived.Laws.EntriesVeiled
import Derived.Laws.Rows
namespace Go.Proofs.YtcmlmfcnbmpajaaGreatDoor.Sw
open Go.ChangeShapes Go.WideShapes Go.ChangeAt Go.RowKit
open Lx Sh
set_option linter.unusedVariables false
set_option linter.unusedSimpArgs false

def TellPost (w : World) (B t : Nat) (q : List Value) (L : List (List UInt8)) (e : Ending) (w' : World) : Prop := e = .returned (.tuple #[]) ∧ TellAt w' B t q L ∧ Below B w w'
abbrev shQ (x : SheetM) (p : ShA) : List Value := [.int .i64 x.horizon, .slice p.a1 x.stops.length p.c1, .slice p.a2 x.paths.length p.c2, .slice p.a3 x.doors.length p.c3, .slice p.a4 x.routes.length p.c4, .slice p.a5 x.trips.length p.c5, .slice p.a6 x.hazards.length p.c6]
/-- what a group's method asks -/
structure Tl (w : World) (B t : Nat) (x : SheetM) (p : ShA) (L : List (List UInt8)) : Prop where
  sh : Sh w (· < B) x p
  may : May x
  env : ∀ w', Below B w w' → Tk.Env w'
  tell : TellAt w B t (shQ x p) L
  bt : B ≤ t
  bw : B ≤ w.heap.size
  len : L.length ≤ 4000
theorem TellAt.cell {w : World} {B t : Nat} {q : List Value} {L : List (List UInt8)} (h : TellAt w B t q L) {i : Nat} (hi : i < q.length) : w.cell? ⟨t, i, none⟩ = q[i]? := by
  obtain ⟨v, h1, _⟩ := h
  rw [h1.cell, List.getElem?_append_left hi]

set_option maxRecDepth 100000 in
set_option maxHeartbeats 2000000 in
theorem stops_tell {w : World} {B t : Nat} {x : SheetM} {p : ShA} {L : List (List UInt8)} (h : Tl w B t x p L) :
    Calls Tryz.prog 41 #[.pointer (some ⟨t, 0, none⟩)] w (TellPost w B t (shQ x p) (L ++ x.stops.map stopX)) := by
  have hn : x.stops.length ≤ 1000000 := by have := h.may.n1; omega
  have HC := Lib.hid (tell_str w B t (shQ x p) rfl L p.a1 x.stops.length p.c1 x.stops stopX (Lib.hid rfl) hn (by have := h.len; omega) h.sh.r1 h.tell h.bt h.bw (fun a ha w' hb => stop_any a w' (by rw [stop_line]; have := line_short (i := .stop a) (List.all_eq_true.1 h.may.a1 a ha); omega)))
  have c1 : w.cell? ⟨t, 1, none⟩ = some (.slice p.a1 x.stops.length p.c1) := h.tell.cell (by show 1 < 7; decide)
  clear h hn
  go_enter Tryz.func41, Tryz.ntmps41
  go_wp2_with (go_at_call 75; (with_reducible refine HC.out.mono ?_); rintro e w1 ⟨rfl, h1, h2⟩)
  go_end0
  exact ⟨rfl, h1, h2⟩

set_option maxRecDepth 100000 in
set_option maxHeartbeats 2000000 in
theorem paths_tell {w : World} {B t : Nat} {x : SheetM} {p : ShA} {L : List (List UInt8)} (h : Tl w B t x p L) :
    Calls Tryz.prog 42 #[.pointer (some ⟨t, 0, none⟩)] w (TellPost w B t (shQ x p) (L ++ x.paths.map pathX)) := by
  have hn : x.paths.length ≤ 1000000 := by have := h.may.n2; omega
  have HC := Lib.hid (tell_path w B t (shQ x p) rfl L p.a2 x.paths.length p.c2 x.paths pathX (Lib.hid rfl) hn (by have := h.len; omega) h.sh.r2 h.tell h.bt h.bw (fun a ha w' hb => path_any a w' (h.env w' hb) (i64_tick (by have := List.all_eq_true.1 h.may.b2 a ha; simpa [path_tick] using this)) (by rw [path_line (List.all_eq_true.1 h.may.b2 a ha)]; have := line_short (i := .path a) ⟨List.all_eq_true.1 h.may.a2 a ha, List.all_eq_true.1 h.may.b2 a ha⟩; omega)))
  have c1 : w.cell? ⟨t, 2, none⟩ = some (.slice p.a2 x.paths.length p.c2) := h.tell.cell (by show 2 < 7; decide)
  clear h hn
  go_enter Tryz.func42, Tryz.ntmps42
  go_wp2_with (go_at_call 77; (with_reducible refine HC.out.mono ?_); rintro e w1 ⟨rfl, h1, h2⟩)
  go_end0
  exact ⟨rfl, h1, h2⟩

set_option maxRecDepth 100000 in
set_option maxHeartbeats 2000000 in
theorem doors_tell {w : World} {B t : Nat} {x : SheetM} {p : ShA} {L : List (List UInt8)} (h : Tl w B t x p L) :
    Calls Tryz.prog 43 #[.pointer (some ⟨t, 0, none⟩)] w (TellPost w B t (shQ x p) (L ++ x.doors.map doorX)) := by
  have hn : x.doors.length ≤ 1000000 := by have := h.may.n3; omega
  have HC := Lib.hid (tell_door w B t (shQ x p) rfl L p.a3 x.doors.length p.c3 x.doors doorX (Lib.hid rfl) hn (by have := h.len; omega) h.sh.r3 h.tell h.bt h.bw (fun a ha w' hb => by
    have hk := List.all_eq_true.1 h.may.b3 a ha
    have hk2 := hk
    simp only [door_tick, timesB, List.all_cons, List.all_nil, Bool.and_true, Bool.and_eq_true] at hk2
    exact door_any a w' (h.env w' hb) (i64_tick hk2.1) ⟨i64_tick hk2.2.1, i64_tick hk2.2.2.1, i64_tick hk2.2.2.2⟩ (by rw [door_line hk]; have := line_short (i := .door a) ⟨List.all_eq_true.1 h.may.a3 a ha, hk⟩; omega)))
  have c1 : w.cell? ⟨t, 3, none⟩ = some (.slice p.a3 x.doors.length p.c3) := h.tell.cell (by show 3 < 7; decide)
  clear h hn
  go_enter Tryz.func43, Tryz.ntmps43
  go_wp2_with (go_at_call 78; (with_reducible refine HC.out.mono ?_); rintro e w1 ⟨rfl, h1, h2⟩)
  go_end0
  exact ⟨rfl, h1, h2⟩

set_option maxRecDepth 100000 in
set_option maxHeartbeats 2000000 in
theorem routes_tell {w : World} {B t : Nat} {x : SheetM} {p : ShA} {L : List (List UInt8)} (h : Tl w B t x p L) :
    Calls Tryz.prog 44 #[.pointer (some ⟨t, 0, none⟩)] w (TellPost w B t (shQ x p) (L ++ x.routes.map routeX)) := by
  have hn : x.routes.length ≤ 1000000 := by have := h.may.n4; omega
  obtain ⟨cl, hr4, hrt⟩ := h.sh.r4
  have HC := Lib.hid (tell_route w B t (shQ x p) rfl L p.a4 x.routes.length p.c4 x.routes cl routeX (Lib.hid rfl) hn (by have := h.len; omega) hr4 hrt h.tell h.bt h.bw (fun a ha w' sa sc ra rc ya yc hb hr => by
    have hk := List.all_eq_true.1 h.may.b4 a ha
    have hc := List.all_eq_true.1 h.may.d4 a ha
    have hk2 := hk
    simp only [route_tick, Bool.and_eq_true] at hk2
    obtain ⟨c1, c2, c3, c4⟩ := count_of hc
    exact route_any a sa ra ya sc rc yc w' hr ⟨by omega, by omega, by omega⟩ (h.env w' hb) (fun d hd => i64_tick (List.all_eq_true.1 hk2.1 d hd)) (fun d hd => i64_tick (List.all_eq_true.1 hk2.2 d hd)) (by rw [route_line hk hc]; have := line_short (i := .route a) ⟨List.all_eq_true.1 h.may.a4 a ha, hk, hc⟩; omega)))
  have c1 : w.cell? ⟨t, 4, none⟩ = some (.slice p.a4 x.routes.length p.c4) := h.tell.cell (by show 4 < 7; decide)
  clear h hn hr4 hrt
  go_enter Tryz.func44, Tryz.ntmps44
  go_wp2_with (go_at_call 79; (with_reducible refine HC.out.mono ?_); rintro e w1 ⟨rfl, h1, h2⟩)
  go_end0
  exact ⟨rfl, h1, h2⟩

set_option maxRecDepth 100000 in
set_option maxHeartbeats 2000000 in
theorem trips_tell {w : World} {B t : Nat} {x : SheetM} {p : ShA} {L : List (List UInt8)} (h : Tl w B t x p L) :
    Calls Tryz.prog 45 #[.pointer (some ⟨t, 0, none⟩)] w (TellPost w B t (shQ x p) (L ++ x.trips.map tripX)) := by
  have hn : x.trips.length ≤ 1000000 := by have := h.may.n5; omega
  have HC := Lib.hid (tell_trip w B t (shQ x p) rfl L p.a5 x.trips.length p.c5 x.trips tripX (Lib.hid rfl) hn (by have := h.len; omega) h.sh.r5 h.tell h.bt h.bw (fun a ha w' hb => by
    have hk := List.all_eq_true.1 h.may.b5 a ha
    have hk2 := hk
    simp only [trip_tick, List.all_cons, List.all_nil, Bool.and_true, Bool.and_eq_true] at hk2
    exact trip_any a w' (h.env w' hb) ⟨i64_tick hk2.1, i64_tick hk2.2.1, i64_tick hk2.2.2⟩ (by rw [trip_line hk]; have := line_short (i := .trip a) ⟨List.all_eq_true.1 h.may.a5 a ha, hk⟩; omega)))
  have c1 : w.cell? ⟨t, 5, none⟩ = some (.slice p.a5 x.trips.length p.c5) := h.tell.cell (by show 5 < 7; decide)
  clear h hn
  go_enter Tryz.func45, Tryz.ntmps45
  go_wp2_with (go_at_call 80; (with_reducible refine HC.out.mono ?_); rintro e w1 ⟨rfl, h1, h2⟩)
  go_end0
  exact ⟨rfl, h1, h2⟩

set_option maxRecDepth 100000 in
set_option maxHeartbeats 2000000 in
theorem hazards_tell {w : World} {B t : Nat} {x : SheetM} {p : ShA} {L : List (List UInt8)} (h : Tl w B t x p L) :
    Calls Tryz.prog 46 #[.pointer (some ⟨t, 0, none⟩)] w (TellPost w B t (shQ x p) (L ++ x.hazards.map hazX)) := by
  have hn : x.hazards.length ≤ 1000000 := by have := h.may.n6; omega
  have HC := Lib.hid (tell_haz w B t (shQ x p) rfl L p.a6 x.hazards.length p.c6 x.hazards hazX (Lib.hid rfl) hn (by have := h.len; omega) h.sh.r6 h.tell h.bt h.bw (fun a ha w' hb => by
    have hk := List.all_eq_true.1 h.may.b6 a ha
    have hk2 := hk
    simp only [haz_tick, timesB, List.all_cons, List.all_nil, Bool.and_true, Bool.and_eq_true] at hk2
    exact haz_any a w' (h.env w' hb) ⟨i64_tick hk2.1, i64_tick hk2.2.1, i64_tick hk2.2.2⟩ (by rw [haz_line hk]; have := line_short (i := .haz a) ⟨List.all_eq_true.1 h.may.a6 a ha, hk⟩; omega)))
  have c1 : w.cell? ⟨t, 6, none⟩ = some (.slice p.a6 x.hazards.length p.c6) := h.tell.cell (by show 6 < 7; decide)
  clear h hn
  go_enter Tryz.func46, Tryz.ntmps46
  go_wp2_with (go_at_call 81; (with_reducible refine HC.out.mono ?_); rintro e w1 ⟨rfl, h1, h2⟩)
  go_end0
  exact ⟨rfl, h1, h2⟩

set_option maxRecDepth 100000 in
set_option maxHeartbeats 8000000 in
theorem horizon_tell {w : World} {B t : Nat} {x : SheetM} {p : ShA} {L : List (List UInt8)} (h : Tl w B t x p L) :
    Calls Tryz.prog 40 #[.pointer (some ⟨t, 0, none⟩)] w (TellPost w B t (shQ x p) (L ++ [horX x.horizon])) := by
  have HT := Lib.hid h.tell
  have c0 : ∀ o, (w.alloc o).cell? ⟨t, 0, none⟩ = some (.int .i64 x.horizon) := fun o => (h.tell.after (one_box w o)).cell (by show 0 < 7; decide)
  have hB := h.bw
  have hBt := h.bt
  have HE := Lib.hid h.env
  have HI := Lib.hid (i64_tick h.may.h)
  have HLEN : Hid ((joinW [] [kHorizon, Lib.itoa x.horizon]).length ≤ 140737488355328) := Lib.hid (by
    have e : horX x.horizon = _ := hor_line h.may.h
    have h0 := lines_short h.may (lineB (horT x.horizon)) (List.mem_of_getElem? (line_zero x))
    rw [← e] at h0
    show (horX x.horizon).length ≤ _
    omega)
  have HXX : Hid (horX x.horizon = joinW [] [kHorizon, Lib.itoa x.horizon]) := Lib.hid rfl
  have hL := h.len
  clear h
  obtain ⟨hz, hhz⟩ : ∃ hz, hz = x.horizon := ⟨_, rfl⟩
  rw [← hhz] at c0 HI HLEN HXX
  rw [← hhz, HXX.out]
  obtain ⟨q, hq⟩ : ∃ q, q = shQ x p := ⟨_, rfl⟩
  have HQ : Hid (q.length = 7) := Lib.hid (by rw [hq]; rfl)
  rw [← hq] at HT ⊢
  clear hq hhz HXX
  obtain ⟨N, hNL⟩ : ∃ N, N = L.length := ⟨_, rfl⟩
  have HNL := Lib.hid hNL
  rw [← hNL] at hL
  clear hNL
  obtain ⟨i0, hi0, hz0, hz1, hz2⟩ := info_parts info_Str
  go_enter Tryz.func40, Tryz.ntmps40
  go_upto_region 1 with (fail)
  obtain ⟨U, hU⟩ : ∃ U, U = w.alloc (.cells #[.pointer none, .slice none 0 0] 90) := ⟨_, rfl⟩
  have HU0 : Hid (Below w.heap.size w U) := Lib.hid (by rw [hU]; exact one_box _ _)
  have KL : Hid (LineAt U 90 w.heap.size w.heap.size []) := Lib.hid (by rw [hU]; exact LineAt.new w _ _)
  have HBU : Hid (w.heap.size ≤ U.heap.size) := Lib.hid HU0.out.size
  have cU : U.cell? ⟨t, 0, none⟩ = some (.int .i64 hz) := by rw [hU]; exact c0 _
  rw [← hU]
  clear hU c0
  have HCU : Hid (LCh U w.heap.size w.heap.size U) := Lib.hid (LCh.refl _ _ _)
  have CD : Hid (∀ w', LCh U w.heap.size w.heap.size w' → LineAt w' 90 w.heap.size w.heap.size [] → Calls Tryz.prog 49 #[.int .i64 hz] w' (fun e w2 => e = .returned (.string ⟨(Lib.itoa hz).toArray⟩) ∧ LineAt w2 90 w.heap.size w.heap.size [] ∧ LCh U w.heap.size w.heap.size w2)) :=
    Lib.hid (fun w' hc hl => digits_on hz (HE.out w (Below.refl _ _)) HI.out HU0.out (Nat.le_refl _) (Nat.le_refl _) hc hl)
  generalize Lib.itoa hz = D at *
  go_upto_region 2 with (first
    | (go_at_call 48; (with_reducible refine (put_on [kHorizon, D] #[.string ⟨#[104, 111, 114, 105, 122, 111, 110]⟩, .string ⟨D.toArray⟩] 2 rfl rfl (by decide) HCd.out HLd.out HBU.out HLEN.out).mono ?_); rintro e' w2 ⟨rfl, h1, h2⟩; have HL2 := Lib.hid h1; have HC2 := Lib.hid h2; clear h1 h2)
    | (go_at_call 49; (with_reducible refine (CD.out _ HCU.out KL.out).mono ?_); rintro e' w1 ⟨rfl, h1, h2⟩; have HLd := Lib.hid h1; have HCd := Lib.hid h2; clear h1 h2)
    | fail)
  have HN : Hid (joinW [] [kHorizon, D] ≠ []) := Lib.hid (joinW_ne (by decide) _)
  generalize joinW [] [kHorizon, D] = J at *
  obtain ⟨W, hW⟩ : ∃ W, W = w2 := ⟨_, rfl⟩
  have HBW : Hid (Below B w W) := Lib.hid (by rw [hW]; exact (HU0.out.mono hB).trans ((HC2.out.below HBU.out (Nat.le_refl _) (Nat.le_refl _)).mono hB))
  have HWW : Hid (Below w.heap.size w W) := Lib.hid (by rw [hW]; exact HU0.out.trans (HC2.out.below HBU.out (Nat.le_refl _) (Nat.le_refl _)))
  have HL3 : Hid (LineAt W 90 w.heap.size w.heap.size J) := Lib.hid (by rw [hW]; exact HL2.out)
  have hszw : w.heap.size ≤ W.heap.size := by rw [hW]; exact Nat.le_trans HBU.out (Ch.size HC2.out)
  rw [← hW]
  clear hW
  have hszW : B ≤ W.heap.size := Nat.le_trans hB hszw
  obtain ⟨v, hv1, hv2⟩ := HT.out
  rw [← HNL.out] at hv2
  obtain ⟨Av, cv, rfl, hvc, -⟩ := own_form hv2
  have HOLD : Hid (∀ w3, Below w.heap.size W w3 → Blk w3 t 86 (q ++ [.slice Av N cv]) ∧ w3.ownsRow B 9 1 (.slice Av N cv) N (cs strC L)) := Lib.hid (fun w3 h3 => by
    have h4 : Below w.heap.size w w3 := HWW.out.trans h3
    exact ⟨hv1.after h4, own_after hv2 h4⟩)
  have K1 := Lib.hid (hv1.after HWW.out)
  have k1 : W.cell? ⟨t, 7, none⟩ = some (.slice Av N cv) := by rw [K1.out.cell]; exact q_last HQ.out _
  have k1' : ∀ o, (W.alloc o).cell? ⟨t, 7, none⟩ = some (.slice Av N cv) := fun o => by rw [(K1.out.alloc o).cell]; exact q_last HQ.out _
  clear hv1 hv2
  have CS : Hid (∀ w', Below W.heap.size W w' → Calls Tryz.prog 32 #[.pointer (some ⟨w.heap.size, 0, none⟩)] w' (StrPost w' w.heap.size J)) := Lib.hid (fun w' hb => string_some 90 btL w.heap.size w.heap.size J w' (HL3.out.after hb) HN.out)
  go_region_law (first
    | (refine step_append_lies _ (by rfl) (.tmp 15) (.tmp 18) 22 (by rfl) B 9 i0 _ 1 16 Tryz.underlying22 hi0 hz0 hz1 hz2 rfl (by omega) (.slice Av N cv) N (cs strC L) (by rfl) (O3.out.alloc _)
        ⟨w3.heap.size, 0, none⟩ 1 1 [.string ⟨J.toArray⟩] (by rfl) (by rfl) (World.news_of_block (cs := #[.string ⟨J.toArray⟩]) (t := 9) (fr := (0, 0)) (heap_alloc_new w3 _)) (by simp [Value.oneCell'])
        (by omega) (by unfold maxLen; omega) (by omega) (by have := HB3.out.size; simp; omega) (w3.heap.size + 1) (by simp) ?_; intro gg cap w4 hown4 hgrow hat hgl; have KB := Lib.hid (Blk.grown (K3.out.alloc _) hgrow (fun e => own_ne_blk O3.out K3.out (by decide) t e.symm rfl)); have k4 : w4.cell? ⟨t, 7, none⟩ = some (.slice Av N cv) := (by rw [KB.out.cell]; exact q_last HQ.out _); have f4 : w4.frozen? ⟨t, 7, none⟩ = false := KB.out.frozen 7)
    | (go_simp; go_at_call 32; refine (CS.out _ (by first | exact Below.refl _ _ | exact below_drew (Below.refl _ _) | exact below_drewN (Below.refl _ _) _)).mono ?_; rintro e w3 ⟨rfl, hb3⟩; have HB3 : Hid (Below w.heap.size W w3) := Lib.hid (by first | exact hb3 | exact Below.trans (below_drew (Below.refl _ _)) hb3 | exact Below.trans (below_drewN (Below.refl _ _) _) hb3); have K3 := Lib.hid (HOLD.out _ HB3.out).1; have O3 := Lib.hid (HOLD.out _ HB3.out).2; have k3 : w3.cell? ⟨t, 7, none⟩ = some (.slice Av N cv) := (by rw [K3.out.cell]; exact q_last HQ.out _); have k3' : ∀ o, (w3.alloc o).cell? ⟨t, 7, none⟩ = some (.slice Av N cv) := (fun o => by rw [(K3.out.alloc o).cell]; exact q_last HQ.out _))
    | fail)
  all_goals
    have HFIN := Lib.hid (tell_fin HQ.out K3.out (HNL.out ▸ O3.out) (HB3.out.mono hB) hBt hszW HNL.out hown4 hgrow)
    go_wp2_with fail
    go_end0
    exact ⟨rfl, HFIN.out.1, HBW.out.trans HFIN.out.2⟩


def LinesPost (w : World) (L : List (List UInt8)) (e : Ending) (w' : World) : Prop :=
  ∃ A n c, n = L.length ∧ e = .returned (.tuple #[.slice A n c, .int .i64 0]) ∧ n ≤ c ∧ Rd w' (fun b => w.heap.size ≤ b ∧ b < w'.heap.size) A (cs strC L) ∧ Below w.heap.size w w'
set_option maxRecDepth 100000 in
set_option maxHeartbeats 2000000 in
theorem lines_no (x : SheetM) (p : ShA) (w : World) (h : Sh w (· < w.heap.size) x p) (hf : ShFew x) (hc : checkM x ≠ 0) :
    Calls Tryz.prog 12 #[shV x p] w fun e w' => e = .returned (.tuple #[.slice none 0 0, .int .i64 (checkM x)]) ∧ Below w.heap.size w w' := by
  have HC := Lib.hid (scheck_any x p)
  have HH := Lib.hid h
  have HF := Lib.hid hf
  have hc2 : ((checkM x : Int) == 0) = false := by simpa using hc
  have hc3 : ((checkM x : Int) != 0) = true := by simpa using hc
  have hc4 : ¬ checkM x = 0 := hc
  clear h hf hc
  generalize checkM x = C at *
  go_enter Tryz.func12, Tryz.ntmps12
  go_wp2_with (go_at_call 39; refine (HC.out _ (HH.out.later (one_box _ _)) HF.out).mono ?_; rintro e w1 ⟨rfl, hb⟩)
  go_ret2
  exact ⟨rfl, keep_trans (one_box _ _) hb⟩
set_option maxRecDepth 100000 in
set_option maxHeartbeats 8000000 in
theorem lines_ok (x : SheetM) (p : ShA) (w : World) (h : Sh w (· < w.heap.size) x p) (hx : May x) (hE : Tk.Env w) :
    Calls Tryz.prog 12 #[shV x p] w (LinesPost w (preX x 7)) := by
  have HC := Lib.hid (fun w' (hb : Below w.heap.size w w') => may_check hx p w' (h.later hb))
  have HH := Lib.hid h
  have HX := Lib.hid hx
  have HE := Lib.hid hE
  clear h hx hE
  go_enter Tryz.func12, Tryz.ntmps12
  go_upto_region 5 with (first
    | (go_at_call 39; refine (HC.out _ (one_box _ _)).mono ?_; rintro e w1 ⟨rfl, hb⟩; have HB1 := Lib.hid hb; have KS : Hid (Blk w1 w.heap.size 29 (shQ x p)) := Lib.hid ((Blk.new w 29 (shQ x p)).after hb); have z0 : w1.cell? ⟨w.heap.size, 0, none⟩ = some (.int .i64 x.horizon) := KS.out.cell 0; have z1 : w1.cell? ⟨w.heap.size, 1, none⟩ = some (.slice p.a1 x.stops.length p.c1) := KS.out.cell 1; have z2 : w1.cell? ⟨w.heap.size, 2, none⟩ = some (.slice p.a2 x.paths.length p.c2) := KS.out.cell 2; have z3 : w1.cell? ⟨w.heap.size, 3, none⟩ = some (.slice p.a3 x.doors.length p.c3) := KS.out.cell 3; have z4 : w1.cell? ⟨w.heap.size, 4, none⟩ = some (.slice p.a4 x.routes.length p.c4) := KS.out.cell 4; have z5 : w1.cell? ⟨w.heap.size, 5, none⟩ = some (.slice p.a5 x.trips.length p.c5) := KS.out.cell 5; have z6 : w1.cell? ⟨w.heap.size, 6, none⟩ = some (.slice p.a6 x.hazards.length p.c6) := KS.out.cell 6; clear hb)
    | fail)
  obtain ⟨t, ht⟩ : ∃ t, t = w1.heap.size := ⟨_, rfl⟩
  obtain ⟨W, hW⟩ : ∃ W, W = w1.alloc (.cells #[.int .i64 x.horizon, .slice p.a1 x.stops.length p.c1, .slice p.a2 x.paths.length p.c2, .slice p.a3 x.doors.length p.c3, .slice p.a4 x.routes.length p.c4, .slice p.a5 x.trips.length p.c5, .slice p.a6 x.hazards.length p.c6, .slice none 0 0] 86) := ⟨_, rfl⟩
  have HW1 : Hid (Below w.heap.size w W) := Lib.hid (by rw [hW]; exact keep_trans (one_box _ _) (keep_trans HB1.out (one_box _ _)))
  have HT0 : Hid (TellAt W w.heap.size t (shQ x p) []) := Lib.hid (by rw [hW, ht]; exact ⟨.slice none 0 0, Blk.new w1 _ _, World.ownsRow_nil _ _ _ _⟩)
  have htw : w.heap.size ≤ t := by have := KS.out.lt; omega
  rw [← hW, ← ht]
  clear hW ht z0 z1 z2 z3 z4 z5 z6
  clear KS HB1
  go_wp2_with fail
  have j0 : ∀ w', (Instr.index 87 (.agg #[.func (.func 40) #[.pointer (some ⟨t, 0, none⟩)] #[], .func (.func 41) #[.pointer (some ⟨t, 0, none⟩)] #[], .func (.func 42) #[.pointer (some ⟨t, 0, none⟩)] #[], .func (.func 43) #[.pointer (some ⟨t, 0, none⟩)] #[], .func (.func 44) #[.pointer (some ⟨t, 0, none⟩)] #[], .func (.func 45) #[.pointer (some ⟨t, 0, none⟩)] #[], .func (.func 46) #[.pointer (some ⟨t, 0, none⟩)] #[]]) (.int .i64 0)).run Tryz.prog w' = .ok (.func (.func 40) #[.pointer (some ⟨t, 0, none⟩)] #[]) w' := fun _ => rfl
  have j1 : ∀ w', (Instr.index 87 (.agg #[.func (.func 40) #[.pointer (some ⟨t, 0, none⟩)] #[], .func (.func 41) #[.pointer (some ⟨t, 0, none⟩)] #[], .func (.func 42) #[.pointer (some ⟨t, 0, none⟩)] #[], .func (.func 43) #[.pointer (some ⟨t, 0, none⟩)] #[], .func (.func 44) #[.pointer (some ⟨t, 0, none⟩)] #[], .func (.func 45) #[.pointer (some ⟨t, 0, none⟩)] #[], .func (.func 46) #[.pointer (some ⟨t, 0, none⟩)] #[]]) (.int .i64 1)).run Tryz.prog w' = .ok (.func (.func 41) #[.pointer (some ⟨t, 0, none⟩)] #[]) w' := fun _ => rfl
  have j2 : ∀ w', (Instr.index 87 (.agg #[.func (.func 40) #[.pointer (some ⟨t, 0, none⟩)] #[], .func (.func 41) #[.pointer (some ⟨t, 0, none⟩)] #[], .func (.func 42) #[.pointer (some ⟨t, 0, none⟩)] #[], .func (.func 43) #[.pointer (some ⟨t, 0, none⟩)] #[], .func (.func 44) #[.pointer (some ⟨t, 0, none⟩)] #[], .func (.func 45) #[.pointer (some ⟨t, 0, none⟩)] #[], .func (.func 46) #[.pointer (some ⟨t, 0, none⟩)] #[]]) (.int .i64 2)).run Tryz.prog w' = .ok (.func (.func 42) #[.pointer (some ⟨t, 0, none⟩)] #[]) w' := fun _ => rfl
  have j3 : ∀ w', (Instr.index 87 (.agg #[.func (.func 40) #[.pointer (some ⟨t, 0, none⟩)] #[], .func (.func 41) #[.pointer (some ⟨t, 0, none⟩)] #[], .func (.func 42) #[.pointer (some ⟨t, 0, none⟩)] #[], .func (.func 43) #[.pointer (some ⟨t, 0, none⟩)] #[], .func (.func 44) #[.pointer (some ⟨t, 0, none⟩)] #[], .func (.func 45) #[.pointer (some ⟨t, 0, none⟩)] #[], .func (.func 46) #[.pointer (some ⟨t, 0, none⟩)] #[]]) (.int .i64 3)).run Tryz.prog w' = .ok (.func (.func 43) #[.pointer (some ⟨t, 0, none⟩)] #[]) w' := fun _ => rfl
  have j4 : ∀ w', (Instr.index 87 (.agg #[.func (.func 40) #[.pointer (some ⟨t, 0, none⟩)] #[], .func (.func 41) #[.pointer (some ⟨t, 0, none⟩)] #[], .func (.func 42) #[.pointer (some ⟨t, 0, none⟩)] #[], .func (.func 43) #[.pointer (some ⟨t, 0, none⟩)] #[], .func (.func 44) #[.pointer (some ⟨t, 0, none⟩)] #[], .func (.func 45) #[.pointer (some ⟨t, 0, none⟩)] #[], .func (.func 46) #[.pointer (some ⟨t, 0, none⟩)] #[]]) (.int .i64 4)).run Tryz.prog w' = .ok (.func (.func 44) #[.pointer (some ⟨t, 0, none⟩)] #[]) w' := fun _ => rfl
  have j5 : ∀ w', (Instr.index 87 (.agg #[.func (.func 40) #[.pointer (some ⟨t, 0, none⟩)] #[], .func (.func 41) #[.pointer (some ⟨t, 0, none⟩)] #[], .func (.func 42) #[.pointer (some ⟨t, 0, none⟩)] #[], .func (.func 43) #[.pointer (some ⟨t, 0, none⟩)] #[], .func (.func 44) #[.pointer (some ⟨t, 0, none⟩)] #[], .func (.func 45) #[.pointer (some ⟨t, 0, none⟩)] #[], .func (.func 46) #[.pointer (some ⟨t, 0, none⟩)] #[]]) (.int .i64 5)).run Tryz.prog w' = .ok (.func (.func 45) #[.pointer (some ⟨t, 0, none⟩)] #[]) w' := fun _ => rfl
  have j6 : ∀ w', (Instr.index 87 (.agg #[.func (.func 40) #[.pointer (some ⟨t, 0, none⟩)] #[], .func (.func 41) #[.pointer (some ⟨t, 0, none⟩)] #[], .func (.func 42) #[.pointer (some ⟨t, 0, none⟩)] #[], .func (.func 43) #[.pointer (some ⟨t, 0, none⟩)] #[], .func (.func 44) #[.pointer (some ⟨t, 0, none⟩)] #[], .func (.func 45) #[.pointer (some ⟨t, 0, none⟩)] #[], .func (.func 46) #[.pointer (some ⟨t, 0, none⟩)] #[]]) (.int .i64 6)).run Tryz.prog w' = .ok (.func (.func 46) #[.pointer (some ⟨t, 0, none⟩)] #[]) w' := fun _ => rfl
  go_loopw [33] (fun v wr => ∃ k : Nat, v = .int .i64 (k : Int) ∧ k ≤ 7 ∧ Hid (TellAt wr w.heap.size t (shQ x p) (preX x k)) ∧ Hid (Below w.heap.size w wr)) (fun v _ => 7 - (intOf v).toNat)
  case atStart => exact ⟨0, rfl, by omega, Lib.hid (HT0.out.after (one_box _ _)), Lib.hid (keep_trans HW1.out (one_box _ _))⟩
  case round =>
    obtain ⟨k, rfl, hk, HP, HB⟩ := hrel
    by_cases hlt : k < 7
    · have hk7 : k = 0 ∨ k = 1 ∨ k = 2 ∨ k = 3 ∨ k = 4 ∨ k = 5 ∨ k = 6 := by omega
      clear hlt hk
      rcases hk7 with rfl | rfl | rfl | rfl | rfl | rfl | rfl
      · have HTL : Hid (Tl wr w.heap.size t x p (preX x 0)) := Lib.hid ⟨HH.out.below HB.out, HX.out, fun w' hb => HE.out.on (HB.out.trans hb), HP.out, htw, HB.out.size, preX_len HX.out 0 (by omega)⟩
        go_wp2_with (first
          | (go_at_call 40; (with_reducible refine (horizon_tell HTL.out).mono ?_); rintro e w2 ⟨rfl, h1, h2⟩; have H1 := Lib.hid h1; have H2 := Lib.hid h2; clear h1 h2)
          | fail)
        go_roundw
        case rel => exact ⟨1, rfl, by omega, Lib.hid (by rw [show 1 = 0 + 1 from rfl, preX_succ]; exact H1.out), Lib.hid (HB.out.trans H2.out)⟩
        case measure => simp [intOf]
      · have HTL : Hid (Tl wr w.heap.size t x p (preX x 1)) := Lib.hid ⟨HH.out.below HB.out, HX.out, fun w' hb => HE.out.on (HB.out.trans hb), HP.out, htw, HB.out.size, preX_len HX.out 1 (by omega)⟩
        go_wp2_with (first
          | (go_at_call 41; (with_reducible refine (stops_tell HTL.out).mono ?_); rintro e w2 ⟨rfl, h1, h2⟩; have H1 := Lib.hid h1; have H2 := Lib.hid h2; clear h1 h2)
          | fail)
        go_roundw
        case rel => exact ⟨2, rfl, by omega, Lib.hid (by rw [show 2 = 1 + 1 from rfl, preX_succ]; exact H1.out), Lib.hid (HB.out.trans H2.out)⟩
        case measure => simp [intOf]
      · have HTL : Hid (Tl wr w.heap.size t x p (preX x 2)) := Lib.hid ⟨HH.out.below HB.out, HX.out, fun w' hb => HE.out.on (HB.out.trans hb), HP.out, htw, HB.out.size, preX_len HX.out 2 (by omega)⟩
        go_wp2_with (first
          | (go_at_call 42; (with_reducible refine (paths_tell HTL.out).mono ?_); rintro e w2 ⟨rfl, h1, h2⟩; have H1 := Lib.hid h1; have H2 := Lib.hid h2; clear h1 h2)
          | fail)
        go_roundw
        case rel => exact ⟨3, rfl, by omega, Lib.hid (by rw [show 3 = 2 + 1 from rfl, preX_succ]; exact H1.out), Lib.hid (HB.out.trans H2.out)⟩
        case measure => simp [intOf]
      · have HTL : Hid (Tl wr w.heap.size t x p (preX x 3)) := Lib.hid ⟨HH.out.below HB.out, HX.out, fun w' hb => HE.out.on (HB.out.trans hb), HP.out, htw, HB.out.size, preX_len HX.out 3 (by omega)⟩
        go_wp2_with (first
          | (go_at_call 43; (with_reducible refine (doors_tell HTL.out).mono ?_); rintro e w2 ⟨rfl, h1, h2⟩; have H1 := Lib.hid h1; have H2 := Lib.hid h2; clear h1 h2)
          | fail)
        go_roundw
        case rel => exact ⟨4, rfl, by omega, Lib.hid (by rw [show 4 = 3 + 1 from rfl, preX_succ]; exact H1.out), Lib.hid (HB.out.trans H2.out)⟩
        case measure => simp [intOf]
      · have HTL : Hid (Tl wr w.heap.size t x p (preX x 4)) := Lib.hid ⟨HH.out.below HB.out, HX.out, fun w' hb => HE.out.on (HB.out.trans hb), HP.out, htw, HB.out.size, preX_len HX.out 4 (by omega)⟩
        go_wp2_with (first
          | (go_at_call 44; (with_reducible refine (routes_tell HTL.out).mono ?_); rintro e w2 ⟨rfl, h1, h2⟩; have H1 := Lib.hid h1; have H2 := Lib.hid h2; clear h1 h2)
          | fail)
        go_roundw
        case rel => exact ⟨5, rfl, by omega, Lib.hid (by rw [show 5 = 4 + 1 from rfl, preX_succ]; exact H1.out), Lib.hid (HB.out.trans H2.out)⟩
        case measure => simp [intOf]
      · have HTL : Hid (Tl wr w.heap.size t x p (preX x 5)) := Lib.hid ⟨HH.out.below HB.out, HX.out, fun w' hb => HE.out.on (HB.out.trans hb), HP.out, htw, HB.out.size, preX_len HX.out 5 (by omega)⟩
        go_wp2_with (first
          | (go_at_call 45; (with_reducible refine (trips_tell HTL.out).mono ?_); rintro e w2 ⟨rfl, h1, h2⟩; have H1 := Lib.hid h1; have H2 := Lib.hid h2; clear h1 h2)
          | fail)
        go_roundw
        case rel => exact ⟨6, rfl, by omega, Lib.hid (by rw [show 6 = 5 + 1 from rfl, preX_succ]; exact H1.out), Lib.hid (HB.out.trans H2.out)⟩
        case measure => simp [intOf]
      · have HTL : Hid (Tl wr w.heap.size t x p (preX x 6)) := Lib.hid ⟨HH.out.below HB.out, HX.out, fun w' hb => HE.out.on (HB.out.trans hb), HP.out, htw, HB.out.size, preX_len HX.out 6 (by omega)⟩
        go_wp2_with (first
          | (go_at_call 46; (with_reducible refine (hazards_tell HTL.out).mono ?_); rintro e w2 ⟨rfl, h1, h2⟩; have H1 := Lib.hid h1; have H2 := Lib.hid h2; clear h1 h2)
          | fail)
        go_roundw
        case rel => exact ⟨7, rfl, by omega, Lib.hid (by rw [show 7 = 6 + 1 from rfl, preX_succ]; exact H1.out), Lib.hid (HB.out.trans H2.out)⟩
        case measure => simp [intOf]
    · obtain rfl : k = 7 := by omega
      obtain ⟨v, hv1, hv2⟩ := HP.out
      have k7 : wr.cell? ⟨t, 7, none⟩ = some v := by rw [hv1.cell]; exact q_last rfl _
      have HLN := Lib.hid (preX_len HX.out 7 (by omega))
      have HO := Lib.hid hv2
      obtain ⟨A, c, rfl, hnc, hrd⟩ := own_form hv2
      have HRD := Lib.hid hrd
      clear hv1 hv2 hrd
      obtain ⟨n, hn⟩ : ∃ n, n = (preX x 7).length := ⟨_, rfl⟩
      rw [← hn] at k7 hnc
      have HN := Lib.hid hn
      clear hn hlt hk
      go_wp2
      go_ret2
      exact ⟨A, n, c, HN.out, rfl, hnc, HRD.out, HB.out⟩

theorem lines_may (x : SheetM) (p : ShA) (w : World) (h : Sh w (· < w.heap.size) x p) (hx : May x) (hE : Tk.Env w) :
    Calls Tryz.prog 12 #[shV x p] w (LinesPost w (linesT x)) := preX_lines hx ▸ lines_ok x p w h hx hE
set_option maxRecDepth 100000 in
set_option maxHeartbeats 2000000 in
theorem text_no (x : SheetM) (p : ShA) (w : World) (h : Sh w (· < w.heap.size) x p) (hf : ShFew x) (hc : checkM x ≠ 0) :
    Calls Tryz.prog 9 #[shV x p] w fun e w' => e = .returned (.tuple #[.string ⟨#[]⟩, .int .i64 (checkM x)]) ∧ Below w.heap.size w w' := by
  have HC := Lib.hid (fun w' (hb : Below w.heap.size w w') => lines_no x p w' (h.later hb) hf hc)
  have hc2 : ((checkM x : Int) == 0) = false := by simpa using hc
  have hc3 : ((checkM x : Int) != 0) = true := by simpa using hc
  have hc4 : ¬ checkM x = 0 := hc
  clear h hf hc
  generalize checkM x = C at *
  go_enter Tryz.func9, Tryz.ntmps9
  go_wp2_with (go_at_call 12; refine (HC.out _ (one_box _ _)).mono ?_; rintro e w1 ⟨rfl, hb⟩)
  go_ret2
  exact ⟨rfl, keep_trans (one_box _ _) hb⟩
theorem ends_ne {L : List (List UInt8)} (h : L ≠ []) : endsOf L ≠ [] := by
  cases L with
  | nil => exact absurd rfl h
  | cons a l => simp [endsOf]
set_option maxRecDepth 100000 in
set_option maxHeartbeats 4000000 in
theorem text_ok (x : SheetM) (p : ShA) (w : World) (h : Sh w (· < w.heap.size) x p) (hx : May x) (hE : Tk.Env w) :
    Calls Tryz.prog 9 #[shV x p] w fun e w' => e = .returned (.tuple #[.string ⟨(endsOf (linesT x)).toArray⟩, .int .i64 0]) ∧ Below w.heap.size w w' := by
  have HC := Lib.hid (fun w' (hb : Below w.heap.size w w') => lines_may x p w' (h.later hb) hx (hE.on hb))
  have HS := Lib.hid (ends_short (lines_short hx))
  have hLL : (linesT x).length ≤ 4000 := by rw [← preX_lines hx]; exact preX_len hx 7 (by omega)
  have HNE : Hid (endsOf (linesT x) ≠ []) := Lib.hid (ends_ne (by
    intro e
    have := line_zero x
    rw [e] at this; cases this))
  clear h hx hE
  generalize linesT x = L at *
  go_enter Tryz.func9, Tryz.ntmps9
  go_upto_region 5 with (first
    | (go_at_call 12; refine (HC.out _ (one_box _ _)).mono ?_; rintro e w1 ⟨A, n, c, hn, rfl, hnc, hrd, hb⟩; have HN := Lib.hid hn; have HRD := Lib.hid hrd; have HB1 := Lib.hid hb; clear hn hrd hb)
    | fail)
  obtain ⟨b, hbb⟩ : ∃ b, b = w1.heap.size := ⟨_, rfl⟩
  obtain ⟨W, hW⟩ : ∃ W, W = w1.alloc (.cells #[.pointer none, .slice none 0 0] 71) := ⟨_, rfl⟩
  have HW1 : Hid (Below w.heap.size w W) := Lib.hid (by rw [hW]; exact keep_trans (one_box _ _) (keep_trans HB1.out (one_box _ _)))
  have KL : Hid (LineAt W 71 b b []) := Lib.hid (by rw [hW, hbb]; exact LineAt.new w1 _ _)
  have HR : Hid (Rd W (· < b) A (cs strC L)) := Lib.hid (by rw [hW, hbb]; exact (HRD.out.more fun k hk => hk.2).keep fun k hk => Below.heap_alloc w1 _ k hk)
  have hbW : b ≤ W.heap.size := by rw [hW, hbb]; simp
  have hwb : w.heap.size ≤ b := by rw [hbb]; have := HB1.out.size; simp at this; omega
  rw [← hW, ← hbb]
  clear hW hbb HRD HB1
  have hN4 : n ≤ 4000 := by have := HN.out; omega
  go_wp2_with fail
  go_loopw [19] (fun v wr => ∃ k : Nat, v = .int .i64 (k : Int) ∧ k ≤ n ∧ Hid (LineAt wr 71 b b (endsOf (L.take k))) ∧ Hid (LCh W b b wr)) (fun v _ => n - (intOf v).toNat)
  case atStart => exact ⟨0, rfl, by omega, KL, Lib.hid (LCh.refl _ _ _)⟩
  case round =>
    obtain ⟨k, rfl, hk, HP, HB⟩ := hrel
    by_cases hlt : k < n
    · obtain ⟨a, ha⟩ := at_in L HN hlt
      obtain ⟨ad, rfl, -, h0, -⟩ := rd_at 1 (fun _ => rfl) (by omega) (HR.out.below (HB.out.below hbW (Nat.le_refl _) (Nat.le_refl _))) ha
      have a0 : wr.cell? (ad.add k) = some (.string ⟨a.toArray⟩) := by rw [Nat.mul_one] at h0; exact h0
      have hl1 := (HS.out (k + 1)).1
      have HM := Lib.hid (ends_more ha).1
      rw [HM.out] at hl1
      simp only [List.length_append, List.length_singleton] at hl1
      have HLA : Hid ((endsOf (L.take k)).length + a.length ≤ 140737488355328) := Lib.hid (by omega)
      have HLB : Hid ((endsOf (L.take k) ++ a).length + 1 ≤ 140737488355328) := Lib.hid (by rw [List.length_append]; omega)
      have hsz : b ≤ wr.heap.size := Nat.le_trans hbW (Ch.size HB.out)
      have hi : (k : Int) < (n : Int) := by omega
      clear ha h0 hl1
      generalize endsOf (L.take k) = T at *
      go_wp2_with (first
        | (go_at_call 31; (with_reducible refine (wnl_any 71 btB b b (T ++ a) _ H1.out HLB.out hs1).mono ?_); rintro e w3 ⟨rfl, h1, h2⟩; have H3 := Lib.hid h1; have H4 := Lib.hid h2; clear h1 h2)
        | (go_at_call 30; (with_reducible refine (wlist_any 71 btB b b T a _ HP.out HLA.out hsz).mono ?_); rintro e w2 ⟨rfl, h1, h2⟩; have hs1 : b ≤ w2.heap.size := Nat.le_trans hsz (Ch.size h2); have H1 := Lib.hid h1; have H2 := Lib.hid h2; clear h1 h2)
        | fail)
      go_roundw
      case rel => exact ⟨k + 1, by go_num, by omega, Lib.hid (by rw [HM.out, ← List.append_assoc]; exact H3.out), Lib.hid ((HB.out.trans H2.out).trans H4.out)⟩
      case measure => simp [intOf]; omega
    · have hi : ¬ (k : Int) < (n : Int) := by omega
      have HF : Hid (LineAt wr 71 b b (endsOf L)) := Lib.hid (by have := HP.out; rwa [List.take_of_length_le (by rw [← HN.out]; omega)] at this)
      go_wp2_with (first
        | (go_at_call 32; (with_reducible refine (string_some 71 btB b b _ _ HF.out HNE.out).mono ?_); rintro e' w10 ⟨rfl, hb⟩; have H3 := Lib.hid hb; clear hb)
        | fail)
      go_ret2
      exact ⟨rfl, HW1.out.trans (((HB.out.below hbW (Nat.le_refl _) (Nat.le_refl _)).trans H3.out).mono hwb)⟩
end Go.Proofs.YtcmlmfcnbmpajaaGreatDoor.Sw
