/- Package show's Route: what text it answers, whatever the route has, proved by walking its text. Conditions: the library's table holds what start-up lays (Env); not beyond all bounds; the line has at most 2^47 bytes. -/
import Derived.Test.YtcmlmfcnbmpajaaGreatDoorShowLine
import Derived.Test.YtcmlmfcnbmpajaaGreatDoorEachB
namespace Go.Proofs.YtcmlmfcnbmpajaaGreatDoor.Sw
open Go.ChangeShapes Go.WideShapes Go.ChangeAt Go.RowKit
open Lx Sh
set_option linter.unusedVariables false
set_option linter.unusedSimpArgs false

set_option maxHeartbeats 1000000 in
theorem has_yes (A : Option Addr) (n c : Nat) (j : Nat) (w : World) (h : j < n) (hn : n ≤ 1000000) :
    Calls Tryz.prog 52 #[.slice A n c, .int .i64 (j : Int)] w fun e w' => e = .returned (.bool true) ∧ w = w' := by
  have h1 : (j : Int) < (n : Int) := by omega
  have h2 : (0 : Int) ≤ (j : Int) := by omega
  go_enter Tryz.func52, Tryz.ntmps52
  go_wp2
  go_ret
  exact ⟨rfl, rfl⟩
set_option maxHeartbeats 1000000 in
theorem has_no (A : Option Addr) (n c : Nat) (j : Nat) (w : World) (h : n ≤ j) (hj : j ≤ 1000000) :
    Calls Tryz.prog 52 #[.slice A n c, .int .i64 (j : Int)] w fun e w' => e = .returned (.bool false) ∧ w = w' := by
  have h1 : ¬ (j : Int) < (n : Int) := by omega
  have h2 : (0 : Int) ≤ (j : Int) := by omega
  go_enter Tryz.func52, Tryz.ntmps52
  go_wp2
  go_ret
  exact ⟨rfl, rfl⟩
set_option maxHeartbeats 1000000 in
theorem has_neg (A : Option Addr) (n c : Nat) (w : World) :
    Calls Tryz.prog 52 #[.slice A n c, .int .i64 (-1)] w fun e w' => e = .returned (.bool false) ∧ w = w' := by
  go_enter Tryz.func52, Tryz.ntmps52
  go_wp2
  go_ret
  exact ⟨rfl, rfl⟩

/-- words behind each other from stop i on -/
def rideW (r : RouteM) (i : Nat) : List (List UInt8) := match i with
  | 0 => []
  | j + 1 => match r.rides[j]? with
    | none => []
    | some d => [Lib.itoa d]
def stayW (r : RouteM) (i : Nat) : List (List UInt8) := match i with
  | 0 => []
  | j + 1 => match r.stays[j]? with
    | none => []
    | some y => if 0 < y then [kStay, Lib.itoa y] else []
def legW (r : RouteM) (i : Nat) : List (List UInt8) := rideW r i ++ r.stops.getD i [] :: stayW r i
def preW (r : RouteM) (k : Nat) : List UInt8 := joinW [] ([kRoute, r.name] ++ (List.range k).flatMap (legW r))
def routeX (r : RouteM) : List UInt8 := preW r r.stops.length
theorem preW_zero (r : RouteM) : preW r 0 = joinW [] [kRoute, r.name] := rfl
theorem preW_succ (r : RouteM) (k : Nat) : preW r (k + 1) = joinW (preW r k) (legW r k) := by
  unfold preW
  rw [List.range_succ, List.flatMap_append, ← List.append_assoc, joinW_app]
  simp
theorem preW_le {r : RouteM} {i k : Nat} (h : i ≤ k) : (preW r i).length ≤ (preW r k).length := by
  induction k with
  | zero => obtain rfl : i = 0 := by omega
            exact Nat.le_refl _
  | succ k ih =>
    by_cases e : i = k + 1
    · subst e; exact Nat.le_refl _
    · refine Nat.le_trans (ih (by omega)) ?_
      rw [preW_succ]; exact joinW_le _ _
theorem preW_ne (r : RouteM) (k : Nat) : preW r k ≠ [] := by
  unfold preW; exact joinW_ne (by decide) _

/-- put of a new row of words, behind what has been done since W -/
def OnPost (W : World) (B b : Nat) (l : List UInt8) (e : Ending) (w' : World) : Prop := e = .returned (.tuple #[]) ∧ LineAt w' 90 B b l ∧ LCh W B b w'
theorem put_on {W w' : World} {B b : Nat} {l : List UInt8} (ws : List (List UInt8)) (a : Array Value) (n : Nat) (ha : a = (cs strC ws).toArray) (hn : n = ws.length) (hN : n ≤ 1000000) (hC : LCh W B b w') (hL : LineAt w' 90 B b l) (hB : B ≤ W.heap.size) (hlen : (joinW l ws).length ≤ 140737488355328) :
    Calls Tryz.prog 48 #[.pointer (some ⟨b, 0, none⟩), .slice (some ⟨w'.heap.size, 0, none⟩) n n] (w'.alloc (.cells a 9)) (OnPost W B b (joinW l ws)) := by
  have hs : W.heap.size ≤ w'.heap.size := Ch.size hC
  refine (put_any B b w'.heap.size n n l ws _ (hL.after (one_box _ _)) (Lib.hid hn) hN (lit_blk _ _ _ ha) (by have := hL.lt; omega) hlen (by simp; omega)).mono ?_
  rintro e w2 ⟨rfl, h1, h2⟩
  exact ⟨rfl, h1, (hC.after (one_box _ _)).trans h2⟩
theorem digits_on {w W w' : World} {B b : Nat} {l : List UInt8} (n : Int) (hE : Tk.Env w) (hi : I64 n) (h0 : Below w.heap.size w W) (hb : w.heap.size ≤ b) (hB : w.heap.size ≤ B) (hC : LCh W B b w') (hL : LineAt w' 90 B b l) :
    Calls Tryz.prog 49 #[.int .i64 n] w' (fun e w2 => e = .returned (.string ⟨(Lib.itoa n).toArray⟩) ∧ LineAt w2 90 B b l ∧ LCh W B b w2) := by
  refine (sdigits_any n w' (hE.on (h0.trans (hC.below h0.size hb hB))) hi).mono ?_
  rintro e w2 ⟨rfl, h⟩
  exact ⟨rfl, hL.after h, hC.after h⟩

theorem getD_of' {α : Type} {l : List α} {k : Nat} {a d : α} (h : l[k]? = some a) : l.getD k d = a := by rw [List.getD_eq_getElem?_getD, h]; rfl
theorem cell_row {w' : World} {rd : Addr} {l : List Int} {j : Nat} {d : Int} {S : Nat → Prop} (h : Rd w' S (some rd) (cs intC l)) (hd : l[j]? = some d) : w'.cell? (rd.add j) = some (.int .i64 d) := by
  obtain ⟨ad, e, -, h0, -⟩ := rd_at 1 (fun _ => rfl) (by omega) h hd
  cases e
  rw [Nat.mul_one] at h0
  exact h0
set_option maxRecDepth 100000 in
set_option maxHeartbeats 16000000 in
theorem route_any (r : RouteM) (sa ra ya : Option Addr) (sc rc yc : Nat) (w : World) (h : RtAt w (· < w.heap.size) r sa ra ya) (hf : Few r) (hE : Tk.Env w) (hri : ∀ d ∈ r.rides, I64 d) (hyi : ∀ d ∈ r.stays, I64 d) (hlen : (routeX r).length ≤ 140737488355328) :
    Calls Tryz.prog 19 #[rtV r sa ra ya sc rc yc] w (TextPost w (routeX r)) := by
  have HA := Lib.hid h
  have HE := Lib.hid hE
  have HRI := Lib.hid hri
  have HYI := Lib.hid hyi
  obtain ⟨f1, f2, f3⟩ := hf
  obtain ⟨ns, hns⟩ : ∃ n, n = r.stops.length := ⟨_, rfl⟩
  obtain ⟨nr, hnr⟩ : ∃ n, n = r.rides.length := ⟨_, rfl⟩
  obtain ⟨ny, hny⟩ : ∃ n, n = r.stays.length := ⟨_, rfl⟩
  have HNS := Lib.hid hns
  have HNR := Lib.hid hnr
  have HNY := Lib.hid hny
  have HX : Hid (routeX r = preW r ns) := Lib.hid (by rw [hns]; rfl)
  have HLE : Hid (∀ k, k ≤ ns → (preW r k).length ≤ 140737488355328) := Lib.hid (fun k hk => Nat.le_trans (preW_le (by rw [← hns]; exact hk)) hlen)
  have HP0 : Hid (preW r 0 = joinW [] [kRoute, r.name]) := Lib.hid (preW_zero r)
  have HPS : Hid (∀ k, preW r (k + 1) = joinW (preW r k) (rideW r k ++ r.stops.getD k [] :: stayW r k)) := Lib.hid (preW_succ r)
  have HPN : Hid (∀ k, preW r k ≠ []) := Lib.hid (preW_ne r)
  show Calls _ _ #[.agg #[.string ⟨r.name.toArray⟩, .slice sa r.stops.length sc, .slice ra r.rides.length rc, .slice ya r.stays.length yc]] _ _
  rw [← hns, ← hnr, ← hny]
  rw [← hns] at f1
  rw [← hnr] at f2
  rw [← hny] at f3
  obtain ⟨nm, hnm⟩ : ∃ nm, nm = r.name := ⟨_, rfl⟩
  rw [← hnm] at HP0 ⊢
  clear h hE hri hyi hlen hns hnr hny hnm
  go_enter Tryz.func19, Tryz.ntmps19
  go_upto_region 2 with (fail)
  obtain ⟨W, hW⟩ : ∃ W, W = (w.alloc (.cells #[.string ⟨nm.toArray⟩, .slice sa ns sc, .slice ra nr rc, .slice ya ny yc] 38)).alloc (.cells #[.pointer none, .slice none 0 0] 90) := ⟨_, rfl⟩
  have HW0 : Hid (Below w.heap.size w W) := Lib.hid (by rw [hW]; exact two_box _ _ _)
  have K0 : Hid (Blk W w.heap.size 38 [.string ⟨nm.toArray⟩, .slice sa ns sc, .slice ra nr rc, .slice ya ny yc]) := Lib.hid (by rw [hW]; exact (Blk.new w _ _).alloc _)
  have KL : Hid (LineAt W 90 w.heap.size (w.heap.size + 1) []) := Lib.hid (by rw [hW]; exact LineAt.new2 w _ _)
  rw [← hW]
  clear hW
  have HBW : Hid (w.heap.size ≤ W.heap.size) := Lib.hid HW0.out.size
  have x0 : W.cell? ⟨w.heap.size, 0, none⟩ = some (.string ⟨nm.toArray⟩) := K0.out.cell 0
  have HBR : Hid (∀ w', LCh W w.heap.size (w.heap.size + 1) w' → Below w.heap.size w w') := Lib.hid (fun w' hc => HW0.out.trans (LCh.below hc HBW.out (by omega) (Nat.le_refl _)))
  have KB : Hid (∀ w', LCh W w.heap.size (w.heap.size + 1) w' → w'.cell? ⟨w.heap.size, 1, none⟩ = some (.slice sa ns sc) ∧ w'.cell? ⟨w.heap.size, 2, none⟩ = some (.slice ra nr rc) ∧ w'.cell? ⟨w.heap.size, 3, none⟩ = some (.slice ya ny yc)) :=
    Lib.hid (fun w' hc => by have a := LCh.blk hc K0.out (by omega) (by decide); exact ⟨a.cell 1, a.cell 2, a.cell 3⟩)
  have HB0 : Hid ((joinW [] [kRoute, nm]).length ≤ 140737488355328) := Lib.hid (by rw [← HP0.out]; exact HLE.out 0 (by omega))
  have HCW : Hid (LCh W w.heap.size (w.heap.size + 1) W) := Lib.hid (LCh.refl _ _ _)
  go_wp2_with (first
    | (go_at_call 48; (with_reducible refine (put_on [kRoute, nm] #[.string ⟨#[114, 111, 117, 116, 101]⟩, .string ⟨nm.toArray⟩] 2 rfl rfl (by decide) HCW.out KL.out HBW.out HB0.out).mono ?_); rintro e' w1 ⟨rfl, h1, h2⟩; have HL1 := Lib.hid h1; have HC1 := Lib.hid h2; obtain ⟨b1, b2, b3⟩ := KB.out _ h2; clear h1 h2)
    | fail)
  clear b1 b2 b3
  go_loopw [14] (fun v wr => ∃ k : Nat, v = .int .i64 (k : Int) ∧ k ≤ ns ∧ Hid (LineAt wr 90 w.heap.size (w.heap.size + 1) (preW r k)) ∧ Hid (LCh W w.heap.size (w.heap.size + 1) wr)) (fun v _ => ns - (intOf v).toNat)
  case atStart => exact ⟨0, rfl, by omega, Lib.hid (HP0.out ▸ HL1.out), HC1⟩
  case round =>
    obtain ⟨k, rfl, hk, HL0, HC0⟩ := hrel
    by_cases hlt : k < ns
    · obtain ⟨s, hs⟩ := at_in (k := k) r.stops HNS hlt
      obtain ⟨sd, hsd, hsS, y0, -⟩ := rd_at 1 (fun _ => rfl) (by omega) (rd_later HA.out.hs (HBR.out _ HC0.out)) hs
      subst hsd
      have y1 : wr.cell? (sd.add (k * 1)) = some (.string ⟨s.toArray⟩) := y0
      rw [Nat.mul_one] at y1
      have hpk := HPS.out k
      rw [getD_of' hs] at hpk
      have hln := HLE.out (k + 1) (by omega)
      rw [hpk] at hln
      obtain ⟨b1, b2, b3⟩ := KB.out _ HC0.out
      clear b1 y0 hs
      have hi : (k : Int) < (ns : Int) := by omega
      rcases k with _ | j
      · rw [show ((0 : Nat) : Int) = 0 from rfl] at hi ⊢
        have ea : sd.add 0 = sd := by unfold Addr.add; rw [if_pos rfl]
        rw [ea] at y1
        clear ea
        have hf : preW r (0 + 1) = joinW (preW r 0) [s] := by rw [hpk]; rfl
        rw [← hpk, hf] at hln
        have HF := Lib.hid hf
        clear hpk hf
        generalize preW r 0 = T at *
        have KC := KB
        have HBp2 : Hid ((joinW T [s]).length ≤ 140737488355328) := Lib.hid (by first | exact hln | exact Nat.le_trans (joinW_le _ _) hln | exact Nat.le_trans (joinW_le _ _) (Nat.le_trans (joinW_le _ _) hln))
        clear hln
        go_wp2_with (first
          | (go_at_call 52; (with_reducible refine (has_neg _ _ _ _).mono ?_); rintro e' wz ⟨rfl, rfl⟩)
          | (go_at_call 48; (with_reducible refine (put_on [s] #[.string ⟨s.toArray⟩] 1 rfl rfl (by decide) HC0.out HL0.out HBW.out HBp2.out).mono ?_); rintro e' wp2 ⟨rfl, h1, h2⟩; have HLp2 := Lib.hid h1; have HCp2 := Lib.hid h2; obtain ⟨-, b2, b3⟩ := KC.out _ h2; clear h1 h2)
          | fail)
        go_roundw
        case rel => exact ⟨0 + 1, by go_num, by omega, Lib.hid (by rw [HF.out]; exact HLp2.out), HCp2⟩
        case measure => simp [intOf]; omega
      · by_cases hjr : j < nr
        · have ej : ((j + 1 : Nat) : Int) = (j : Int) + 1 := by omega
          rw [ej] at hi ⊢
          clear ej
          have ea : sd.add (j + 1) = ⟨sd.block, sd.off + (j + 1), none⟩ := by unfold Addr.add; rw [if_neg (by omega)]
          rw [ea] at y1
          clear ea
          have hj : j ≤ 1000000 := by omega
          obtain ⟨d, hd⟩ := at_in (k := j) r.rides HNR hjr
          have hd' := hd
          obtain ⟨rd, hrd, -, -, -⟩ := rd_at 1 (fun _ => rfl) (by omega) HA.out.hr hd
          subst hrd
          have hjr1 : (j : Int) < (nr : Int) := by omega
          by_cases hjy : j < ny
          · obtain ⟨y, hy⟩ := at_in (k := j) r.stays HNY hjy
            have hy' := hy
            obtain ⟨yd, hyd, -, -, -⟩ := rd_at 1 (fun _ => rfl) (by omega) HA.out.hy hy
            subst hyd
            have hjy1 : (j : Int) < (ny : Int) := by omega
            by_cases hpos : 0 < y
            · have hp1 : (0 : Int) < y := hpos
              have CR : Hid (∀ w', LCh W w.heap.size (w.heap.size + 1) w' → LineAt w' 90 w.heap.size (w.heap.size + 1) (preW r (j + 1)) → Calls Tryz.prog 49 #[.int .i64 d] w' (fun e w2 => e = .returned (.string ⟨(Lib.itoa d).toArray⟩) ∧ LineAt w2 90 w.heap.size (w.heap.size + 1) (preW r (j + 1)) ∧ LCh W w.heap.size (w.heap.size + 1) w2)) := Lib.hid (fun w' hc hl => digits_on d HE.out (HRI.out d (List.mem_of_getElem? hd)) HW0.out (by omega) (Nat.le_refl _) hc hl)
              have CY : Hid (∀ w', LCh W w.heap.size (w.heap.size + 1) w' → LineAt w' 90 w.heap.size (w.heap.size + 1) (joinW (joinW (preW r (j + 1)) [Lib.itoa d]) [s]) → Calls Tryz.prog 49 #[.int .i64 y] w' (fun e w2 => e = .returned (.string ⟨(Lib.itoa y).toArray⟩) ∧ LineAt w2 90 w.heap.size (w.heap.size + 1) (joinW (joinW (preW r (j + 1)) [Lib.itoa d]) [s]) ∧ LCh W w.heap.size (w.heap.size + 1) w2)) := Lib.hid (fun w' hc hl => digits_on y HE.out (HYI.out y (List.mem_of_getElem? hy)) HW0.out (by omega) (Nat.le_refl _) hc hl)
              have hf : preW r (j + 1 + 1) = joinW (joinW (joinW (preW r (j + 1)) [Lib.itoa d]) [s]) [kStay, Lib.itoa y] := by
                rw [hpk]
                simp only [rideW, stayW, hd', hy']
                rw [if_pos hpos]; rfl
              rw [← hpk, hf] at hln
              have HF := Lib.hid hf
              have KC : Hid (∀ w', LCh W w.heap.size (w.heap.size + 1) w' → w'.cell? ⟨w.heap.size, 2, none⟩ = some (.slice (some rd) nr rc) ∧ w'.cell? ⟨w.heap.size, 3, none⟩ = some (.slice (some yd) ny yc) ∧ w'.cell? (rd.add j) = some (.int .i64 d) ∧ w'.cell? (yd.add j) = some (.int .i64 y)) := Lib.hid (fun w' hc => by have x := KB.out w' hc; exact ⟨x.2.1, x.2.2, cell_row (rd_later HA.out.hr (HBR.out _ hc)) hd, cell_row (rd_later HA.out.hy (HBR.out _ hc)) hy⟩)
              clear b2 b3
              obtain ⟨b2, b3, b5, b6⟩ := KC.out _ HC0.out
              clear hpk hf
              clear hd hd'
              clear hy hy'
              generalize preW r (j + 1) = T at *
              generalize Lib.itoa d = D at *
              generalize Lib.itoa y = Y at *
              have HBp1 : Hid ((joinW T [D]).length ≤ 140737488355328) := Lib.hid (by first | exact hln | exact Nat.le_trans (joinW_le _ _) hln | exact Nat.le_trans (joinW_le _ _) (Nat.le_trans (joinW_le _ _) hln))
              have HBp2 : Hid ((joinW (joinW T [D]) [s]).length ≤ 140737488355328) := Lib.hid (by first | exact hln | exact Nat.le_trans (joinW_le _ _) hln | exact Nat.le_trans (joinW_le _ _) (Nat.le_trans (joinW_le _ _) hln))
              have HBp3 : Hid ((joinW (joinW (joinW T [D]) [s]) [kStay, Y]).length ≤ 140737488355328) := Lib.hid (by first | exact hln | exact Nat.le_trans (joinW_le _ _) hln | exact Nat.le_trans (joinW_le _ _) (Nat.le_trans (joinW_le _ _) hln))
              clear hln
              go_wp2_with (first
                | (go_at_call 52; (with_reducible refine (has_yes (some rd) nr rc j _ hjr f2).mono ?_); rintro e' wz ⟨rfl, rfl⟩)
                | (go_at_call 52; (with_reducible refine (has_yes (some yd) ny yc j _ hjy f3).mono ?_); rintro e' wz ⟨rfl, rfl⟩)
                | (go_at_call 48; (with_reducible refine (put_on [kStay, Y] #[.string ⟨#[115, 116, 97, 121]⟩, .string ⟨Y.toArray⟩] 2 rfl rfl (by decide) HCd2.out HLd2.out HBW.out HBp3.out).mono ?_); rintro e' wp3 ⟨rfl, h1, h2⟩; have HLp3 := Lib.hid h1; have HCp3 := Lib.hid h2; clear h1 h2)
                | (go_at_call 49; (with_reducible refine (CY.out _ HCp2.out HLp2.out).mono ?_); rintro e' wd2 ⟨rfl, h1, h2⟩; have HLd2 := Lib.hid h1; have HCd2 := Lib.hid h2; clear h1 h2)
                | (go_at_call 48; (with_reducible refine (put_on [s] #[.string ⟨s.toArray⟩] 1 rfl rfl (by decide) HCp1.out HLp1.out HBW.out HBp2.out).mono ?_); rintro e' wp2 ⟨rfl, h1, h2⟩; have HLp2 := Lib.hid h1; have HCp2 := Lib.hid h2; obtain ⟨b2, b3, b5, b6⟩ := KC.out _ h2; clear h1 h2)
                | (go_at_call 48; (with_reducible refine (put_on [D] #[.string ⟨D.toArray⟩] 1 rfl rfl (by decide) HCd1.out HLd1.out HBW.out HBp1.out).mono ?_); rintro e' wp1 ⟨rfl, h1, h2⟩; have HLp1 := Lib.hid h1; have HCp1 := Lib.hid h2; obtain ⟨b2, b3, b5, b6⟩ := KC.out _ h2; clear h1 h2)
                | (go_at_call 49; (with_reducible refine (CR.out _ HC0.out HL0.out).mono ?_); rintro e' wd1 ⟨rfl, h1, h2⟩; have HLd1 := Lib.hid h1; have HCd1 := Lib.hid h2; clear h1 h2)
                | fail)
              go_roundw
              case rel => exact ⟨j + 1 + 1, by go_num, by omega, Lib.hid (by rw [HF.out]; exact HLp3.out), HCp3⟩
              case measure => simp [intOf]; omega
            · have CR : Hid (∀ w', LCh W w.heap.size (w.heap.size + 1) w' → LineAt w' 90 w.heap.size (w.heap.size + 1) (preW r (j + 1)) → Calls Tryz.prog 49 #[.int .i64 d] w' (fun e w2 => e = .returned (.string ⟨(Lib.itoa d).toArray⟩) ∧ LineAt w2 90 w.heap.size (w.heap.size + 1) (preW r (j + 1)) ∧ LCh W w.heap.size (w.heap.size + 1) w2)) := Lib.hid (fun w' hc hl => digits_on d HE.out (HRI.out d (List.mem_of_getElem? hd)) HW0.out (by omega) (Nat.le_refl _) hc hl)
              have hf : preW r (j + 1 + 1) = joinW (joinW (preW r (j + 1)) [Lib.itoa d]) [s] := by
                rw [hpk]
                simp only [rideW, stayW, hd', hy']
                rw [if_neg hpos]; rfl
              rw [← hpk, hf] at hln
              have HF := Lib.hid hf
              have KC : Hid (∀ w', LCh W w.heap.size (w.heap.size + 1) w' → w'.cell? ⟨w.heap.size, 2, none⟩ = some (.slice (some rd) nr rc) ∧ w'.cell? ⟨w.heap.size, 3, none⟩ = some (.slice (some yd) ny yc) ∧ w'.cell? (rd.add j) = some (.int .i64 d) ∧ w'.cell? (yd.add j) = some (.int .i64 y)) := Lib.hid (fun w' hc => by have x := KB.out w' hc; exact ⟨x.2.1, x.2.2, cell_row (rd_later HA.out.hr (HBR.out _ hc)) hd, cell_row (rd_later HA.out.hy (HBR.out _ hc)) hy⟩)
              clear b2 b3
              obtain ⟨b2, b3, b5, b6⟩ := KC.out _ HC0.out
              clear hpk hf
              clear hd hd'
              clear hy hy'
              generalize preW r (j + 1) = T at *
              generalize Lib.itoa d = D at *
              have HBp1 : Hid ((joinW T [D]).length ≤ 140737488355328) := Lib.hid (by first | exact hln | exact Nat.le_trans (joinW_le _ _) hln | exact Nat.le_trans (joinW_le _ _) (Nat.le_trans (joinW_le _ _) hln))
              have HBp2 : Hid ((joinW (joinW T [D]) [s]).length ≤ 140737488355328) := Lib.hid (by first | exact hln | exact Nat.le_trans (joinW_le _ _) hln | exact Nat.le_trans (joinW_le _ _) (Nat.le_trans (joinW_le _ _) hln))
              clear hln
              go_wp2_with (first
                | (go_at_call 52; (with_reducible refine (has_yes (some rd) nr rc j _ hjr f2).mono ?_); rintro e' wz ⟨rfl, rfl⟩)
                | (go_at_call 52; (with_reducible refine (has_yes (some yd) ny yc j _ hjy f3).mono ?_); rintro e' wz ⟨rfl, rfl⟩)
                | (go_at_call 48; (with_reducible refine (put_on [s] #[.string ⟨s.toArray⟩] 1 rfl rfl (by decide) HCp1.out HLp1.out HBW.out HBp2.out).mono ?_); rintro e' wp2 ⟨rfl, h1, h2⟩; have HLp2 := Lib.hid h1; have HCp2 := Lib.hid h2; obtain ⟨b2, b3, b5, b6⟩ := KC.out _ h2; clear h1 h2)
                | (go_at_call 48; (with_reducible refine (put_on [D] #[.string ⟨D.toArray⟩] 1 rfl rfl (by decide) HCd1.out HLd1.out HBW.out HBp1.out).mono ?_); rintro e' wp1 ⟨rfl, h1, h2⟩; have HLp1 := Lib.hid h1; have HCp1 := Lib.hid h2; obtain ⟨b2, b3, b5, b6⟩ := KC.out _ h2; clear h1 h2)
                | (go_at_call 49; (with_reducible refine (CR.out _ HC0.out HL0.out).mono ?_); rintro e' wd1 ⟨rfl, h1, h2⟩; have HLd1 := Lib.hid h1; have HCd1 := Lib.hid h2; clear h1 h2)
                | fail)
              go_roundw
              case rel => exact ⟨j + 1 + 1, by go_num, by omega, Lib.hid (by rw [HF.out]; exact HLp2.out), HCp2⟩
              case measure => simp [intOf]; omega
          · have hy0 : r.stays[j]? = none := List.getElem?_eq_none (by rw [← HNY.out]; omega)
            have hjy : ny ≤ j := by omega
            have CR : Hid (∀ w', LCh W w.heap.size (w.heap.size + 1) w' → LineAt w' 90 w.heap.size (w.heap.size + 1) (preW r (j + 1)) → Calls Tryz.prog 49 #[.int .i64 d] w' (fun e w2 => e = .returned (.string ⟨(Lib.itoa d).toArray⟩) ∧ LineAt w2 90 w.heap.size (w.heap.size + 1) (preW r (j + 1)) ∧ LCh W w.heap.size (w.heap.size + 1) w2)) := Lib.hid (fun w' hc hl => digits_on d HE.out (HRI.out d (List.mem_of_getElem? hd)) HW0.out (by omega) (Nat.le_refl _) hc hl)
            have hf : preW r (j + 1 + 1) = joinW (joinW (preW r (j + 1)) [Lib.itoa d]) [s] := by
              rw [hpk]
              simp only [rideW, stayW, hd', hy0]
              rfl
            rw [← hpk, hf] at hln
            have HF := Lib.hid hf
            have KC : Hid (∀ w', LCh W w.heap.size (w.heap.size + 1) w' → w'.cell? ⟨w.heap.size, 2, none⟩ = some (.slice (some rd) nr rc) ∧ w'.cell? ⟨w.heap.size, 3, none⟩ = some (.slice ya ny yc) ∧ w'.cell? (rd.add j) = some (.int .i64 d)) := Lib.hid (fun w' hc => by have x := KB.out w' hc; exact ⟨x.2.1, x.2.2, cell_row (rd_later HA.out.hr (HBR.out _ hc)) hd⟩)
            clear b2 b3
            obtain ⟨b2, b3, b5⟩ := KC.out _ HC0.out
            clear hpk hf
            clear hd hd'
            clear hy0
            generalize preW r (j + 1) = T at *
            generalize Lib.itoa d = D at *
            have HBp1 : Hid ((joinW T [D]).length ≤ 140737488355328) := Lib.hid (by first | exact hln | exact Nat.le_trans (joinW_le _ _) hln | exact Nat.le_trans (joinW_le _ _) (Nat.le_trans (joinW_le _ _) hln))
            have HBp2 : Hid ((joinW (joinW T [D]) [s]).length ≤ 140737488355328) := Lib.hid (by first | exact hln | exact Nat.le_trans (joinW_le _ _) hln | exact Nat.le_trans (joinW_le _ _) (Nat.le_trans (joinW_le _ _) hln))
            clear hln
            go_wp2_with (first
              | (go_at_call 52; (with_reducible refine (has_yes (some rd) nr rc j _ hjr f2).mono ?_); rintro e' wz ⟨rfl, rfl⟩)
              | (go_at_call 52; (with_reducible refine (has_no ya ny yc j _ hjy hj).mono ?_); rintro e' wz ⟨rfl, rfl⟩)
              | (go_at_call 48; (with_reducible refine (put_on [s] #[.string ⟨s.toArray⟩] 1 rfl rfl (by decide) HCp1.out HLp1.out HBW.out HBp2.out).mono ?_); rintro e' wp2 ⟨rfl, h1, h2⟩; have HLp2 := Lib.hid h1; have HCp2 := Lib.hid h2; obtain ⟨b2, b3, b5⟩ := KC.out _ h2; clear h1 h2)
              | (go_at_call 48; (with_reducible refine (put_on [D] #[.string ⟨D.toArray⟩] 1 rfl rfl (by decide) HCd1.out HLd1.out HBW.out HBp1.out).mono ?_); rintro e' wp1 ⟨rfl, h1, h2⟩; have HLp1 := Lib.hid h1; have HCp1 := Lib.hid h2; obtain ⟨b2, b3, b5⟩ := KC.out _ h2; clear h1 h2)
              | (go_at_call 49; (with_reducible refine (CR.out _ HC0.out HL0.out).mono ?_); rintro e' wd1 ⟨rfl, h1, h2⟩; have HLd1 := Lib.hid h1; have HCd1 := Lib.hid h2; clear h1 h2)
              | fail)
            go_roundw
            case rel => exact ⟨j + 1 + 1, by go_num, by omega, Lib.hid (by rw [HF.out]; exact HLp2.out), HCp2⟩
            case measure => simp [intOf]; omega
        · have ej : ((j + 1 : Nat) : Int) = (j : Int) + 1 := by omega
          rw [ej] at hi ⊢
          clear ej
          have ea : sd.add (j + 1) = ⟨sd.block, sd.off + (j + 1), none⟩ := by unfold Addr.add; rw [if_neg (by omega)]
          rw [ea] at y1
          clear ea
          have hj : j ≤ 1000000 := by omega
          have hr0 : r.rides[j]? = none := List.getElem?_eq_none (by rw [← HNR.out]; omega)
          have hjr : nr ≤ j := by omega
          by_cases hjy : j < ny
          · obtain ⟨y, hy⟩ := at_in (k := j) r.stays HNY hjy
            have hy' := hy
            obtain ⟨yd, hyd, -, -, -⟩ := rd_at 1 (fun _ => rfl) (by omega) HA.out.hy hy
            subst hyd
            have hjy1 : (j : Int) < (ny : Int) := by omega
            by_cases hpos : 0 < y
            · have hp1 : (0 : Int) < y := hpos
              have CY : Hid (∀ w', LCh W w.heap.size (w.heap.size + 1) w' → LineAt w' 90 w.heap.size (w.heap.size + 1) (joinW (preW r (j + 1)) [s]) → Calls Tryz.prog 49 #[.int .i64 y] w' (fun e w2 => e = .returned (.string ⟨(Lib.itoa y).toArray⟩) ∧ LineAt w2 90 w.heap.size (w.heap.size + 1) (joinW (preW r (j + 1)) [s]) ∧ LCh W w.heap.size (w.heap.size + 1) w2)) := Lib.hid (fun w' hc hl => digits_on y HE.out (HYI.out y (List.mem_of_getElem? hy)) HW0.out (by omega) (Nat.le_refl _) hc hl)
              have hf : preW r (j + 1 + 1) = joinW (joinW (preW r (j + 1)) [s]) [kStay, Lib.itoa y] := by
                rw [hpk]
                simp only [rideW, stayW, hr0, hy']
                rw [if_pos hpos]; rfl
              rw [← hpk, hf] at hln
              have HF := Lib.hid hf
              have KC : Hid (∀ w', LCh W w.heap.size (w.heap.size + 1) w' → w'.cell? ⟨w.heap.size, 2, none⟩ = some (.slice ra nr rc) ∧ w'.cell? ⟨w.heap.size, 3, none⟩ = some (.slice (some yd) ny yc) ∧ w'.cell? (yd.add j) = some (.int .i64 y)) := Lib.hid (fun w' hc => by have x := KB.out w' hc; exact ⟨x.2.1, x.2.2, cell_row (rd_later HA.out.hy (HBR.out _ hc)) hy⟩)
              clear b2 b3
              obtain ⟨b2, b3, b6⟩ := KC.out _ HC0.out
              clear hpk hf
              clear hr0
              clear hy hy'
              generalize preW r (j + 1) = T at *
              generalize Lib.itoa y = Y at *
              have HBp2 : Hid ((joinW T [s]).length ≤ 140737488355328) := Lib.hid (by first | exact hln | exact Nat.le_trans (joinW_le _ _) hln | exact Nat.le_trans (joinW_le _ _) (Nat.le_trans (joinW_le _ _) hln))
              have HBp3 : Hid ((joinW (joinW T [s]) [kStay, Y]).length ≤ 140737488355328) := Lib.hid (by first | exact hln | exact Nat.le_trans (joinW_le _ _) hln | exact Nat.le_trans (joinW_le _ _) (Nat.le_trans (joinW_le _ _) hln))
              clear hln
              go_wp2_with (first
                | (go_at_call 52; (with_reducible refine (has_no ra nr rc j _ hjr hj).mono ?_); rintro e' wz ⟨rfl, rfl⟩)
                | (go_at_call 52; (with_reducible refine (has_yes (some yd) ny yc j _ hjy f3).mono ?_); rintro e' wz ⟨rfl, rfl⟩)
                | (go_at_call 48; (with_reducible refine (put_on [kStay, Y] #[.string ⟨#[115, 116, 97, 121]⟩, .string ⟨Y.toArray⟩] 2 rfl rfl (by decide) HCd2.out HLd2.out HBW.out HBp3.out).mono ?_); rintro e' wp3 ⟨rfl, h1, h2⟩; have HLp3 := Lib.hid h1; have HCp3 := Lib.hid h2; clear h1 h2)
                | (go_at_call 49; (with_reducible refine (CY.out _ HCp2.out HLp2.out).mono ?_); rintro e' wd2 ⟨rfl, h1, h2⟩; have HLd2 := Lib.hid h1; have HCd2 := Lib.hid h2; clear h1 h2)
                | (go_at_call 48; (with_reducible refine (put_on [s] #[.string ⟨s.toArray⟩] 1 rfl rfl (by decide) HC0.out HL0.out HBW.out HBp2.out).mono ?_); rintro e' wp2 ⟨rfl, h1, h2⟩; have HLp2 := Lib.hid h1; have HCp2 := Lib.hid h2; obtain ⟨b2, b3, b6⟩ := KC.out _ h2; clear h1 h2)
                | fail)
              go_roundw
              case rel => exact ⟨j + 1 + 1, by go_num, by omega, Lib.hid (by rw [HF.out]; exact HLp3.out), HCp3⟩
              case measure => simp [intOf]; omega
            · have hf : preW r (j + 1 + 1) = joinW (preW r (j + 1)) [s] := by
                rw [hpk]
                simp only [rideW, stayW, hr0, hy']
                rw [if_neg hpos]; rfl
              rw [← hpk, hf] at hln
              have HF := Lib.hid hf
              have KC : Hid (∀ w', LCh W w.heap.size (w.heap.size + 1) w' → w'.cell? ⟨w.heap.size, 2, none⟩ = some (.slice ra nr rc) ∧ w'.cell? ⟨w.heap.size, 3, none⟩ = some (.slice (some yd) ny yc) ∧ w'.cell? (yd.add j) = some (.int .i64 y)) := Lib.hid (fun w' hc => by have x := KB.out w' hc; exact ⟨x.2.1, x.2.2, cell_row (rd_later HA.out.hy (HBR.out _ hc)) hy⟩)
              clear b2 b3
              obtain ⟨b2, b3, b6⟩ := KC.out _ HC0.out
              clear hpk hf
              clear hr0
              clear hy hy'
              generalize preW r (j + 1) = T at *
              have HBp2 : Hid ((joinW T [s]).length ≤ 140737488355328) := Lib.hid (by first | exact hln | exact Nat.le_trans (joinW_le _ _) hln | exact Nat.le_trans (joinW_le _ _) (Nat.le_trans (joinW_le _ _) hln))
              clear hln
              go_wp2_with (first
                | (go_at_call 52; (with_reducible refine (has_no ra nr rc j _ hjr hj).mono ?_); rintro e' wz ⟨rfl, rfl⟩)
                | (go_at_call 52; (with_reducible refine (has_yes (some yd) ny yc j _ hjy f3).mono ?_); rintro e' wz ⟨rfl, rfl⟩)
                | (go_at_call 48; (with_reducible refine (put_on [s] #[.string ⟨s.toArray⟩] 1 rfl rfl (by decide) HC0.out HL0.out HBW.out HBp2.out).mono ?_); rintro e' wp2 ⟨rfl, h1, h2⟩; have HLp2 := Lib.hid h1; have HCp2 := Lib.hid h2; obtain ⟨b2, b3, b6⟩ := KC.out _ h2; clear h1 h2)
                | fail)
              go_roundw
              case rel => exact ⟨j + 1 + 1, by go_num, by omega, Lib.hid (by rw [HF.out]; exact HLp2.out), HCp2⟩
              case measure => simp [intOf]; omega
          · have hy0 : r.stays[j]? = none := List.getElem?_eq_none (by rw [← HNY.out]; omega)
            have hjy : ny ≤ j := by omega
            have hf : preW r (j + 1 + 1) = joinW (preW r (j + 1)) [s] := by
              rw [hpk]
              simp only [rideW, stayW, hr0, hy0]
              rfl
            rw [← hpk, hf] at hln
            have HF := Lib.hid hf
            have KC : Hid (∀ w', LCh W w.heap.size (w.heap.size + 1) w' → w'.cell? ⟨w.heap.size, 2, none⟩ = some (.slice ra nr rc) ∧ w'.cell? ⟨w.heap.size, 3, none⟩ = some (.slice ya ny yc)) := Lib.hid (fun w' hc => by have x := KB.out w' hc; exact ⟨x.2.1, x.2.2⟩)
            clear b2 b3
            obtain ⟨b2, b3⟩ := KC.out _ HC0.out
            clear hpk hf
            clear hr0
            clear hy0
            generalize preW r (j + 1) = T at *
            have HBp2 : Hid ((joinW T [s]).length ≤ 140737488355328) := Lib.hid (by first | exact hln | exact Nat.le_trans (joinW_le _ _) hln | exact Nat.le_trans (joinW_le _ _) (Nat.le_trans (joinW_le _ _) hln))
            clear hln
            go_wp2_with (first
              | (go_at_call 52; (with_reducible refine (has_no ra nr rc j _ hjr hj).mono ?_); rintro e' wz ⟨rfl, rfl⟩)
              | (go_at_call 52; (with_reducible refine (has_no ya ny yc j _ hjy hj).mono ?_); rintro e' wz ⟨rfl, rfl⟩)
              | (go_at_call 48; (with_reducible refine (put_on [s] #[.string ⟨s.toArray⟩] 1 rfl rfl (by decide) HC0.out HL0.out HBW.out HBp2.out).mono ?_); rintro e' wp2 ⟨rfl, h1, h2⟩; have HLp2 := Lib.hid h1; have HCp2 := Lib.hid h2; obtain ⟨b2, b3⟩ := KC.out _ h2; clear h1 h2)
              | fail)
            go_roundw
            case rel => exact ⟨j + 1 + 1, by go_num, by omega, Lib.hid (by rw [HF.out]; exact HLp2.out), HCp2⟩
            case measure => simp [intOf]; omega
    · have hi : ¬ (k : Int) < (ns : Int) := by omega
      obtain rfl : k = ns := by omega
      have HN := Lib.hid (HPN.out k)
      go_wp2_with (first
        | (go_at_call 32; (with_reducible refine (string_some 90 btL w.heap.size (w.heap.size + 1) _ _ HL0.out HN.out).mono ?_); rintro e' w10 ⟨rfl, hb⟩; have H3 := Lib.hid hb; clear hb)
        | fail)
      go_ret
      exact ⟨ret_str HX.out, (HBR.out _ HC0.out).trans H3.out⟩

end Go.Proofs.YtcmlmfcnbmpajaaGreatDoor.Sw
