/- A text that is cut behind a line is read as its first lines; what is parsed may be: walked. Conditions: the library's variables hold what start-up lays. -/
import Derived.Test.YteonmabfhilcfaaGreatDoorSheetLives
import Derived.Test.YteonmabfhilcfaaGreatDoorSheetItems
namespace Go.Proofs.YteonmabfhilcfaaGreatDoor.Sh
open Go.ChangeShapes Go.WideShapes Go.ChangeAt Go.RowKit
open Lx
set_option linter.unusedVariables false
set_option linter.unusedSimpArgs false

theorem few_of (x : SheetM) (h : x.stops.length ≤ 1000000 ∧ x.paths.length ≤ 1000000 ∧ x.doors.length ≤ 1000000 ∧ x.routes.length ≤ 1000000 ∧ x.trips.length ≤ 1000000 ∧ x.hazards.length ≤ 1000000) (hr : ∀ r ∈ x.routes, Few r) : ShFew x := ⟨h.1, h.2.1, h.2.2.1, h.2.2.2.1, h.2.2.2.2.1, h.2.2.2.2.2, hr⟩
theorem May.shfew {x : SheetM} (h : May x) : ShFew x := by
  have h1 := h.n1; have h2 := h.n2; have h3 := h.n3; have h4 := h.n4; have h5 := h.n5; have h6 := h.n6
  refine few_of x ⟨by omega, by omega, by omega, by omega, by omega, by omega⟩ fun r hr => ?_
  obtain ⟨k1, k2, k3, k4⟩ := count_of (List.all_eq_true.1 h.d4 r hr)
  exact ⟨by omega, by omega, by omega⟩
theorem empty_sh (w : World) (S : Nat → Prop) : Sh w S emptyM ⟨none, none, none, none, none, none, 0, 0, 0, 0, 0, 0⟩ := ⟨Rd.none_, Rd.none_, Rd.none_, ⟨[], Rd.none_, rfl⟩, Rd.none_, Rd.none_⟩
set_option maxRecDepth 100000 in
set_option maxHeartbeats 2000000 in
theorem cuts_bad (s : ByteArray) (at_ : Int) (w : World) (hE : Tk.Env w) (hs : s.size ≤ 4000) (e l c : Int) (hp : parseT s = .bad e l c) (h3 : Bad3 e l c) :
    Calls Tryz.prog 5 #[.string s, .int .i64 at_] w fun e w' => e = .returned (.bool true) ∧ Below w.heap.size w w' := by
  have H := Lib.hid (lives_any w hE)
  have CP := Lib.hid (fun w' (h : Below w.heap.size w w') => parse_no hp w' (hE.on h))
  have CS := Lib.hid (fun w' => ssame_any emptyM ⟨none, none, none, none, none, none, 0, 0, 0, 0, 0, 0⟩ ⟨none, none, none, none, none, none, 0, 0, 0, 0, 0, 0⟩ w' (empty_sh _ _) (empty_sh _ _) empty_may.shfew)
  have hs2 : ¬ (4000 : Int) < (s.size : Int) := by omega
  obtain ⟨he, hl, hc⟩ := h3
  clear hE hp
  go_enter Tryz.func5, Tryz.ntmps5
  go_wp2_with (first
    | (go_at_call 10; refine H.out.mono ?_; rintro e' w1 ⟨rfl, hb⟩; have HB := Lib.hid hb; clear hb)
    | (go_at_call 9; (with_reducible refine (CP.out _ HB.out).mono ?_); rintro e' w2 ⟨rfl, hb⟩; have HB2 := Lib.hid (keep_trans HB.out hb); clear hb)
    | (go_at_call 18; refine (CS.out _).mono ?_; rintro e' w3 ⟨rfl, hb⟩; have HB3 := Lib.hid (keep_trans (keep_trans HB2.out (two_box _ _ _)) hb); have HK := Lib.hid ((Blk.new2 w2 _ 32 [.int .i64 e, .int .i64 l, .int .i64 c]).after hb); have k1 : w3.cell? ⟨w2.heap.size + 1, 1, none⟩ = some (.int .i64 l) := HK.out.cell 1; have k2 : w3.cell? ⟨w2.heap.size + 1, 2, none⟩ = some (.int .i64 c) := HK.out.cell 2; clear hb)
    | fail)
  go_ret
  exact ⟨rfl, HB3.out⟩
set_option maxHeartbeats 1000000 in
theorem cuts_long (s : ByteArray) (at_ : Int) (w : World) (hE : Tk.Env w) (hs : 4000 < s.size) :
    Calls Tryz.prog 5 #[.string s, .int .i64 at_] w fun e w' => e = .returned (.bool true) ∧ Below w.heap.size w w' := by
  have H := Lib.hid (lives_any w hE)
  have hs2 : (4000 : Int) < (s.size : Int) := by omega
  clear hE
  go_enter Tryz.func5, Tryz.ntmps5
  go_wp2_with (first
    | (go_at_call 10; refine H.out.mono ?_; rintro e' w1 ⟨rfl, hb⟩; have HB := Lib.hid hb; clear hb)
    | fail)
  go_ret
  exact ⟨rfl, HB.out⟩

theorem own_none' {w : World} {base e size : Nat} : w.ownsRow base e size (.slice none 0 0) 0 [] := ⟨by simp, .inl ⟨rfl, rfl⟩⟩
theorem info_int : (Tryz.prog.info? 3).map (fun i => (i.zero, i.size, i.bytes)) = some (some (.int .i64 0), 1, 8) := by kernel_rfl
/-- a line's end of s -/
def EndAt (s : ByteArray) (n : Nat) : Prop := ∃ h : n < s.size, s[n].toNat = 10
/-- the ends of the first i bytes -/
def EndRel (W : World) (s : ByteArray) (v7 v8 : Value) (wr : World) : Prop :=
  ∃ (i k c : Nat) (A : Option Addr), v7 = .slice A k c ∧ v8 = .int .i64 i ∧ i ≤ s.size ∧ k ≤ i ∧ Hid (∃ E : List Int, k = E.length ∧ (∀ x ∈ E, ∃ n : Nat, x = n ∧ EndAt s n) ∧ wr.ownsRow W.heap.size 3 1 (.slice A k c) k (cs intC E)) ∧ Hid (Below W.heap.size W wr)
theorem end_split {s : ByteArray} {n : Nat} (h : EndAt s n) : ∃ b, s.data.toList = (s.extract 0 n).data.toList ++ 10 :: b := by
  obtain ⟨hn, h10⟩ := h
  have hn' : n < s.data.toList.length := by rw [← Lib.size_eq s]; exact hn
  refine ⟨s.data.toList.drop (n + 1), ?_⟩
  have e1 : (s.extract 0 n).data.toList = s.data.toList.take n := by simp [ByteArray.data_extract]
  have e2 : s.data.toList[n] = 10 := by
    have : s[n] = s.data.toList[n] := by simp [ByteArray.getElem_eq_getElem_data]
    rw [← this]
    exact UInt8.toNat_inj.1 h10
  rw [e1, ← e2, ← List.drop_eq_getElem_cons hn', List.take_append_drop]
theorem extract_size {s : ByteArray} {n : Nat} (h : EndAt s n) : (s.extract 0 n).size ≤ s.size := by
  obtain ⟨hn, _⟩ := h
  simp
  omega
theorem pre_take {α : Type} {a b : List α} (h : a <+: b) : a = b.take a.length := List.prefix_iff_eq_take.1 h
/-- a row of which less is looked at -/
theorem rd_pre {α : Type} {f : α → List Value} {k : Nat} (hf : ∀ a, (f a).length = k) {w : World} {S : Nat → Prop} {A : Option Addr} {a b : List α} (h : Rd w S A (cs f b)) (hp : a <+: b) : Rd w S A (cs f a) := by
  rw [pre_take hp, cs_take f k hf]
  exact h.take _
/-- what Check says of a sheet that may be -/
theorem check_may {x : SheetM} (hx : May x) (p : ShA) (w : World) (h : Sh w (· < w.heap.size) x p) : Calls Tryz.prog 12 #[shV x p] w fun e w' => e = .returned (.int .i64 0) ∧ Below w.heap.size w w' := by
  have := scheck_any x p w h hx.shfew
  rwa [hx.check] at this
/-- the box of a sheet -/
abbrev shL (x : SheetM) (p : ShA) : List Value := [.int .i64 x.horizon, .slice p.a1 x.stops.length p.c1, .slice p.a2 x.paths.length p.c2, .slice p.a3 x.doors.length p.c3, .slice p.a4 x.routes.length p.c4, .slice p.a5 x.trips.length p.c5, .slice p.a6 x.hazards.length p.c6]
set_option maxRecDepth 100000 in
set_option maxHeartbeats 4000000 in
theorem cuts_ok (s : ByteArray) (at_ : Int) (w : World) (hE : Tk.Env w) (h0 : -9223372036854775808 ≤ at_) (h1 : at_ ≤ 9223372036854775807) (hs : s.size ≤ 4000) (x : SheetM) (hx : May x) (hp : parseT s = .ok x []) :
    Calls Tryz.prog 5 #[.string s, .int .i64 at_] w fun e w' => e = .returned (.bool true) ∧ Below w.heap.size w w' := by
  have H := Lib.hid (lives_any w hE)
  have HE := Lib.hid hE
  have HP := Lib.hid hp
  have HX := Lib.hid hx
  have CP : Hid (∀ w', Below w.heap.size w w' → Calls Tryz.prog 9 #[.string s] w' (ParsePost w' (.ok x []))) := Lib.hid (fun w' h => parse_ok hp w' (hE.on h))
  have hs2 : ¬ (4000 : Int) < (s.size : Int) := by omega
  clear hE hp hx
  go_enter Tryz.func5, Tryz.ntmps5
  go_wp2_with (first
    | (go_at_call 10; refine H.out.mono ?_; rintro e' w1 ⟨rfl, hb⟩; have HB := Lib.hid hb; clear hb)
    | (go_at_call 9; (with_reducible refine (CP.out _ HB.out).mono ?_); rintro e' w2 ⟨p, hcap, rfl, hsh, hb⟩; have HCAP := Lib.hid hcap; have HSH := Lib.hid hsh.old; have HB2 := Lib.hid (keep_trans HB.out hb); clear hb hsh hcap; dsimp only [shV])
    | (go_at_call 12; refine (check_may HX.out p _ (HSH.out.later (two_box w2 _ _))).mono ?_; rintro e' w3 ⟨rfl, hb⟩; have HB3 := Lib.hid (keep_trans HB2.out (keep_trans (two_box w2 _ _) hb)); have HSH3 := Lib.hid (HSH.out.later (keep_trans (two_box w2 _ _) hb)); have HK3 := Lib.hid (((Blk.new w2 29 (shL x p)).alloc _).after hb); clear hb)
    | fail)
  go_loopw [7, 8] (fun v7 v8 wr => EndRel w3 s v7 v8 wr) (fun _ v _ => s.size - (intOf v).toNat)
  case atStart => exact ⟨0, 0, 0, none, rfl, rfl, by omega, by omega, Lib.hid ⟨[], rfl, by simp, own_none'⟩, Lib.hid (Below.refl _ _)⟩
  case round =>
    obtain ⟨i, k, c, A, rfl, rfl, hi, hki, HEN, HBR⟩ := hrel
    by_cases hlt : i < s.size
    · have hii : (i : Int) < (s.size : Int) := by omega
      by_cases h10 : s[i].toNat = 10
      · have ht : ((s[i].toNat : Int) == 10) = true := by rw [beq_iff_eq]; omega
        have HX10 := Lib.hid h10
        obtain ⟨E, hk, hall, hO⟩ := HEN.out
        have HK := Lib.hid hk
        have HALL := Lib.hid hall
        have HO := Lib.hid hO
        clear h10 hk hall hO
        go_wp2_with (at_builtin; refine wpList_append_rd rfl (.tmp 50) (.tmp 52) 53 rfl w3.heap.size 3 _ 1 8 Tryz.underlying53 info_int rfl (by omega) (by omega) (.slice A k c) k (cs intC E) rfl (HO.out.alloc _) _ _ 1 1 [.int .i64 (i : Int)] rfl rfl (lit_at _ _ _ _ _ (by simp) rfl) (by simp [Value.oneCell']) (by omega) (by have := HBR.out.size; simp; omega) ?_; intro v' w4 hown hbel; obtain ⟨A', c', rfl, -, -⟩ := own_form hown.out)
        go_roundw
        case rel => exact ⟨i + 1, k + 1, c', A', rfl, by go_num, by omega, by omega, Lib.hid ⟨E ++ [(i : Int)], by simp [HK.out], by
            intro y hy
            rcases List.mem_append.1 hy with hy | hy
            · exact HALL.out y hy
            · rw [List.mem_singleton.1 hy]; exact ⟨i, rfl, hlt, HX10.out⟩, by rw [cs_append, cs_one]; exact hown.out⟩, Lib.hid ((HBR.out.alloc HBR.out.size _).trans hbel.out)⟩
        case measure => simp [intOf]; omega
      · have ht : ((s[i].toNat : Int) == 10) = false := by rw [beq_eq_false_iff_ne]; omega
        clear h10
        go_wp2
        go_roundw
        case rel => exact ⟨i + 1, k, c, A, rfl, by go_num, by omega, by omega, HEN, HBR⟩
        case measure => simp [intOf]; omega
    · obtain rfl : i = s.size := by omega
      have hii : ¬ (s.size : Int) < (s.size : Int) := by omega
      by_cases hk0 : k = 0
      · subst hk0
        go_wp2
        go_ret
        exact ⟨rfl, keep_trans HB3.out HBR.out⟩
      · obtain ⟨E, hk, hall, hO⟩ := HEN.out
        obtain ⟨A', c', e', -, hrd⟩ := own_form hO
        injection e' with e1 e2 e3
        subst e1
        subst e3
        have HK := Lib.hid hk
        have HALL := Lib.hid hall
        have HRD := Lib.hid (rd_old hrd)
        clear hk hall hO hrd
        have hk1 : k ≤ 4000 := by omega
        have hkb : ((k : Int) == 0) = false := by rw [beq_eq_false_iff_ne]; omega
        go_wp2_with fail
        go_at_call 16
        refine (pick_any at_ k _ h0 h1 (by omega) (by omega)).mono ?_
        rintro e' w4 ⟨r, rfl, hr, rfl⟩
        have hrk : (r : Int) < (k : Int) := hr.out
        obtain ⟨z, hz⟩ := at_in (k := r) E HK (by omega)
        obtain ⟨n, rfl, hn⟩ := HALL.out z (List.mem_of_getElem? hz)
        have HN := Lib.hid hn
        obtain ⟨ad, rfl, hS, u0, -⟩ := rd_at 1 (fun _ => rfl) (by omega) HRD.out hz
        have u1 : wr.cell? (ad.add (r * 1)) = some (.int .i64 (n : Int)) := u0
        rw [Nat.mul_one] at u1
        have hns : n ≤ s.size := Nat.le_of_lt hn.1
        have hns2 : (n : Int) ≤ (s.size : Int) := by omega
        clear u0 hz hr hn
        go_wp2_with fail
        have G4 : Below w.heap.size w wr := keep_trans HB3.out HBR.out
        have HKR := Lib.hid (HK3.out.after HBR.out)
        have HSHR := Lib.hid (HSH3.out.later HBR.out)
        go_at_call 9
        refine (parse_any (s.extract 0 n) _ (HE.out.on G4)).mono ?_
        intro e' w5 hpost
        obtain ⟨b, hb⟩ := end_split HN.out
        rcases parse_cut hb HP.out with hbad | ⟨y, hy, hext, hok⟩
        · rw [hbad] at hpost
          obtain ⟨rfl, hb5⟩ := hpost
          have G5 := Lib.hid (keep_trans G4 hb5)
          clear G4 hb5
          go_wp2_with (first
            | (go_at_call 11; refine (things_any emptyM ⟨none, none, none, none, none, none, 0, 0, 0, 0, 0, 0⟩ _ empty_may.shfew).mono ?_; rintro e' w6 ⟨rfl, hb⟩; have G6 := Lib.hid (keep_trans (keep_trans G5.out (two_box _ _ _)) hb); clear hb)
            | fail)
          go_ret
          exact ⟨rfl, G6.out⟩
        · rw [hok] at hpost
          obtain ⟨py, hcy, rfl, hsy, hb5⟩ := hpost
          have HSY := Lib.hid hsy.old
          have HKX := Lib.hid (HKR.out.after hb5)
          have HSX := Lib.hid (HSHR.out.later hb5)
          have G5 := Lib.hid (keep_trans G4 hb5)
          have HY := Lib.hid hy
          have HEXT := Lib.hid hext
          clear G4 hb5 hsy hcy hy hext
          dsimp only [shV]
          rw [← HEXT.out.h]
          obtain ⟨px1, px2, px3, px4, px5, px6, cx1, cx2, cx3, cx4, cx5, cx6⟩ := p
          obtain ⟨py1, py2, py3, py4, py5, py6, cy1, cy2, cy3, cy4, cy5, cy6⟩ := py
          obtain ⟨w6, hw6⟩ : ∃ w6, w6 = (w5.alloc (.cells #[.int .i64 x.horizon, .slice py1 y.stops.length cy1, .slice py2 y.paths.length cy2, .slice py3 y.doors.length cy3, .slice py4 y.routes.length cy4, .slice py5 y.trips.length cy5, .slice py6 y.hazards.length cy6] 29)).alloc (.cells #[.int .i64 0, .int .i64 0, .int .i64 0] 32) := ⟨_, rfl⟩
          have hb6 : Below w5.heap.size w5 w6 := by rw [hw6]; exact two_box _ _ _
          have T1 := Lib.hid (fun w' => things_any y ⟨py1, py2, py3, py4, py5, py6, cy1, cy2, cy3, cy4, cy5, cy6⟩ w' HY.out.shfew)
          have T2 := Lib.hid (fun w' => things_any x ⟨px1, px2, px3, px4, px5, px6, cx1, cx2, cx3, cx4, cx5, cx6⟩ w' HX.out.shfew)
          have S1 := Lib.hid (fun w' (h : Below w6.heap.size w6 w') => same_str w' py1 px1 y.stops.length cy1 cx1 y.stops (Lib.hid rfl) HY.out.shfew.l1 (rd_later HSY.out.r1 (keep_trans hb6 h)) (rd_pre (k := 1) (fun _ => rfl) (rd_later HSX.out.r1 (keep_trans hb6 h)) HEXT.out.s))
          have S2 := Lib.hid (fun w' (h : Below w6.heap.size w6 w') => same_path w' py2 px2 y.paths.length cy2 cx2 y.paths (Lib.hid rfl) HY.out.shfew.l2 (rd_later HSY.out.r2 (keep_trans hb6 h)) (rd_pre (k := 4) (fun _ => rfl) (rd_later HSX.out.r2 (keep_trans hb6 h)) HEXT.out.p))
          have S5 := Lib.hid (fun w' (h : Below w6.heap.size w6 w') => same_trip w' py5 px5 y.trips.length cy5 cx5 y.trips (Lib.hid rfl) HY.out.shfew.l5 (rd_later HSY.out.r5 (keep_trans hb6 h)) (rd_pre (k := 5) (fun _ => rfl) (rd_later HSX.out.r5 (keep_trans hb6 h)) HEXT.out.t))
          have KC : Hid (∀ w', Below w6.heap.size w6 w' → (w'.cell? ⟨w5.heap.size, 0, none⟩ = some (.int .i64 x.horizon) ∧ w'.cell? ⟨w5.heap.size, 1, none⟩ = some (.slice py1 y.stops.length cy1) ∧ w'.cell? ⟨w5.heap.size, 2, none⟩ = some (.slice py2 y.paths.length cy2) ∧ w'.cell? ⟨w5.heap.size, 3, none⟩ = some (.slice py3 y.doors.length cy3) ∧ w'.cell? ⟨w5.heap.size, 4, none⟩ = some (.slice py4 y.routes.length cy4) ∧ w'.cell? ⟨w5.heap.size, 5, none⟩ = some (.slice py5 y.trips.length cy5) ∧ w'.cell? ⟨w5.heap.size, 6, none⟩ = some (.slice py6 y.hazards.length cy6) ∧ w'.cell? ⟨w2.heap.size, 0, none⟩ = some (.int .i64 x.horizon) ∧ w'.cell? ⟨w2.heap.size, 1, none⟩ = some (.slice px1 x.stops.length cx1) ∧ w'.cell? ⟨w2.heap.size, 2, none⟩ = some (.slice px2 x.paths.length cx2) ∧ w'.cell? ⟨w2.heap.size, 3, none⟩ = some (.slice px3 x.doors.length cx3) ∧ w'.cell? ⟨w2.heap.size, 4, none⟩ = some (.slice px4 x.routes.length cx4) ∧ w'.cell? ⟨w2.heap.size, 5, none⟩ = some (.slice px5 x.trips.length cx5) ∧ w'.cell? ⟨w2.heap.size, 6, none⟩ = some (.slice px6 x.hazards.length cx6))) := by
            refine Lib.hid (fun w' h => ?_)
            have ky : Blk w' w5.heap.size 29 [.int .i64 x.horizon, .slice py1 y.stops.length cy1, .slice py2 y.paths.length cy2, .slice py3 y.doors.length cy3, .slice py4 y.routes.length cy4, .slice py5 y.trips.length cy5, .slice py6 y.hazards.length cy6] := by
              rw [hw6] at h
              exact ((Blk.new w5 _ _).alloc _).after h
            have kx := HKX.out.after (keep_trans hb6 h)
            exact ⟨ky.cell 0, ky.cell 1, ky.cell 2, ky.cell 3, ky.cell 4, ky.cell 5, ky.cell 6, kx.cell 0, kx.cell 1, kx.cell 2, kx.cell 3, kx.cell 4, kx.cell 5, kx.cell 6⟩
          have G6 := Lib.hid (keep_trans G5.out hb6)
          have hm1 := HEXT.out.s.length_le
          have hm2 := HEXT.out.p.length_le
          have hm5 := HEXT.out.t.length_le
          have hmm : y.stops.length + y.paths.length + y.doors.length + y.routes.length + y.trips.length + y.hazards.length ≤ x.stops.length + x.paths.length + x.doors.length + x.routes.length + x.trips.length + x.hazards.length := by
            have := HEXT.out.d.length_le
            have := HEXT.out.r.length_le
            have := HEXT.out.z.length_le
            omega
          obtain ⟨hc1, hc2, -, -, hc5, -⟩ := HCAP.out
          dsimp only at hc1 hc2 hc5
          dsimp only [shV] at T1 T2
          rw [← HEXT.out.h] at T1
          clear HSY HKX HSX HY HEXT HKR HSHR hok hb G5 HN HRD HEN HALL HBR hns hns2 u1 hrk hkb hk1 hk0 hki hi HK3 HSH3 HB3 HB2 HSH HCAP HB HX HP HE H CP h0 h1 hs
          generalize x.stops.length = n1 at *
          generalize y.stops.length = m1 at *
          generalize x.paths.length = n2 at *
          generalize y.paths.length = m2 at *
          generalize x.doors.length = n3 at *
          generalize y.doors.length = m3 at *
          generalize x.routes.length = n4 at *
          generalize y.routes.length = m4 at *
          generalize x.trips.length = n5 at *
          generalize y.trips.length = m5 at *
          generalize x.hazards.length = n6 at *
          generalize y.hazards.length = m6 at *
          generalize x.horizon = hz at *
          generalize hM : m1 + m2 + m3 + m4 + m5 + m6 = M at *
          generalize hN : n1 + n2 + n3 + n4 + n5 + n6 = N at *
          have hmn : (M : Int) ≤ (N : Int) := by omega
          have e1 : min (n1 : Int) (m1 : Int) = (m1 : Int) := by omega
          have e2 : min (n2 : Int) (m2 : Int) = (m2 : Int) := by omega
          have e5 : min (n5 : Int) (m5 : Int) = (m5 : Int) := by omega
          have i1 : (m1 : Int) ≤ (cx1 : Int) := by omega
          have i2 : (m2 : Int) ≤ (cx2 : Int) := by omega
          have i5 : (m5 : Int) ≤ (cx5 : Int) := by omega
          clear hM hN hmm hm1 hm2 hm5 hc1 hc2 hc5
          go_wp2_with fail
          rw [← hw6]
          clear hw6 hb6
          go_region_held3 (fun w' => w'.cell? ⟨w5.heap.size, 0, none⟩ = some (.int .i64 hz) ∧ w'.cell? ⟨w5.heap.size, 1, none⟩ = some (.slice py1 m1 cy1) ∧ w'.cell? ⟨w5.heap.size, 2, none⟩ = some (.slice py2 m2 cy2) ∧ w'.cell? ⟨w5.heap.size, 3, none⟩ = some (.slice py3 m3 cy3) ∧ w'.cell? ⟨w5.heap.size, 4, none⟩ = some (.slice py4 m4 cy4) ∧ w'.cell? ⟨w5.heap.size, 5, none⟩ = some (.slice py5 m5 cy5) ∧ w'.cell? ⟨w5.heap.size, 6, none⟩ = some (.slice py6 m6 cy6) ∧ w'.cell? ⟨w2.heap.size, 0, none⟩ = some (.int .i64 hz) ∧ w'.cell? ⟨w2.heap.size, 1, none⟩ = some (.slice px1 n1 cx1) ∧ w'.cell? ⟨w2.heap.size, 2, none⟩ = some (.slice px2 n2 cx2) ∧ w'.cell? ⟨w2.heap.size, 3, none⟩ = some (.slice px3 n3 cx3) ∧ w'.cell? ⟨w2.heap.size, 4, none⟩ = some (.slice px4 n4 cx4) ∧ w'.cell? ⟨w2.heap.size, 5, none⟩ = some (.slice px5 n5 cx5) ∧ w'.cell? ⟨w2.heap.size, 6, none⟩ = some (.slice px6 n6 cx6)) (first | exact KC.out _ Q5.out | exact KC.out _ Q4.out | exact KC.out _ Q3.out | exact KC.out _ Q2.out | exact KC.out _ Q1.out | exact KC.out _ (Below.refl _ _) | exact KC.out _ (below_drew (Below.refl _ _)) | exact KC.out _ (below_drewN (Below.refl _ _) _) | go_keep) (first | (go_at_call 21; (with_reducible refine (S2.out _ (by first | exact Q4.out | exact below_drew Q4.out | exact below_drewN Q4.out _)).mono ?_); rintro e' v5 ⟨rfl, hbv⟩; have Q5 := Lib.hid (keep_trans (show Below w6.heap.size w6 _ from (by first | exact Q4.out | exact below_drew Q4.out | exact below_drewN Q4.out _)) hbv); clear hbv) | (go_at_call 20; (with_reducible refine (S5.out _ (by first | exact Q3.out | exact below_drew Q3.out | exact below_drewN Q3.out _)).mono ?_); rintro e' v4 ⟨rfl, hbv⟩; have Q4 := Lib.hid (keep_trans (show Below w6.heap.size w6 _ from (by first | exact Q3.out | exact below_drew Q3.out | exact below_drewN Q3.out _)) hbv); clear hbv) | (go_at_call 19; (with_reducible refine (S1.out _ (by first | exact Q2.out | exact below_drew Q2.out | exact below_drewN Q2.out _)).mono ?_); rintro e' v3 ⟨rfl, hbv⟩; have Q3 := Lib.hid (keep_trans (show Below w6.heap.size w6 _ from (by first | exact Q2.out | exact below_drew Q2.out | exact below_drewN Q2.out _)) hbv); clear hbv) | (go_at_call 11; (with_reducible refine (T2.out _).mono ?_); rintro e' v2 ⟨rfl, hbv⟩; have Q2 := Lib.hid (keep_trans (show Below w6.heap.size w6 _ from (by first | exact Q1.out | exact below_drew Q1.out | exact below_drewN Q1.out _)) hbv); clear hbv) | (go_at_call 11; (with_reducible refine (T1.out _).mono ?_); rintro e' v1 ⟨rfl, hbv⟩; have Q1 := Lib.hid (keep_trans (show Below w6.heap.size w6 _ from (by first | exact Below.refl _ _ | exact below_drew (Below.refl _ _) | exact below_drewN (Below.refl _ _) _)) hbv); clear hbv) | fail)
          all_goals
            go_wp2
            go_ret
            exact ⟨rfl, keep_trans G6.out Q5.out⟩
theorem cuts_all (s : ByteArray) (at_ : Int) (w : World) (hE : Tk.Env w) (h0 : -9223372036854775808 ≤ at_) (h1 : at_ ≤ 9223372036854775807) :
    Calls Tryz.prog 5 #[.string s, .int .i64 at_] w fun e w' => e = .returned (.bool true) ∧ Below w.heap.size w w' := by
  by_cases hs : 4000 < s.size
  · exact cuts_long s at_ w hE hs
  · rcases parse_fine s with ⟨e, l, c, h3, hp⟩ | ⟨x, hx, hp⟩
    · exact cuts_bad s at_ w hE (by omega) e l c hp h3
    · exact cuts_ok s at_ w hE h0 h1 (by omega) x hx hp
end Go.Proofs.YteonmabfhilcfaaGreatDoor.Sh
