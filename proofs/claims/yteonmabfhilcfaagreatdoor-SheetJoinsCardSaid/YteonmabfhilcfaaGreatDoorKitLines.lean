/- The kit's digits, when and along, proved by walking their texts. Conditions: numbers from 0 on. -/
import Derived.Test.YteonmabfhilcfaaGreatDoorSheetItems
namespace Go.Proofs.YteonmabfhilcfaaGreatDoor.Sh
open Go.ChangeShapes Go.WideShapes Go.ChangeAt Go.RowKit
open Lx
set_option linter.unusedVariables false
set_option linter.unusedSimpArgs false

theorem str_app (a b : List UInt8) : (⟨a.toArray⟩ : ByteArray) ++ ⟨b.toArray⟩ = ⟨(a ++ b).toArray⟩ := by
  apply ByteArray.ext
  simp
theorem bytes_eq {a b : ByteArray} (h : a.data.toList = b.data.toList) : a = b := ByteArray.ext (Array.ext' h)
theorem dec_step {n : Nat} (h : 10 ≤ n) : Lib.decDigits n = Lib.decDigits (n / 10) ++ Lib.decDigits (n % 10) := by
  rw [Lib.decDigits, dif_neg (by omega), Lib.decDigits_one (show n % 10 < 10 by omega)]
theorem dec_len (n : Nat) (h : n ≤ 9000000000000000000) : (Lib.decDigits n).length ≤ 20 := by
  rw [Lib.decDigits_length]
  exact Tk.nDigits_le 19 n (by omega)
theorem dec_one (n : Nat) (h : n < 10) : (⟨#[48, 49, 50, 51, 52, 53, 54, 55, 56, 57]⟩ : ByteArray).extract n (n + 1) = ⟨(Lib.decDigits n).toArray⟩ := by
  rw [Lib.decDigits_one h]
  have : n = 0 ∨ n = 1 ∨ n = 2 ∨ n = 3 ∨ n = 4 ∨ n = 5 ∨ n = 6 ∨ n = 7 ∨ n = 8 ∨ n = 9 := by omega
  rcases this with rfl | rfl | rfl | rfl | rfl | rfl | rfl | rfl | rfl | rfl <;> exact ByteArray.ext (by rfl)
set_option maxRecDepth 100000 in
set_option maxHeartbeats 1000000 in
theorem digit_one (n : Nat) (w : World) (h : n < 10) : Calls Tryz.prog 38 #[.int .i64 (n : Int)] w fun e w' => e = .returned (.string ⟨(Lib.decDigits n).toArray⟩) ∧ w = w' := by
  have : n = 0 ∨ n = 1 ∨ n = 2 ∨ n = 3 ∨ n = 4 ∨ n = 5 ∨ n = 6 ∨ n = 7 ∨ n = 8 ∨ n = 9 := by omega
  rcases this with rfl | rfl | rfl | rfl | rfl | rfl | rfl | rfl | rfl | rfl
  · change Calls _ _ #[.int .i64 (0 : Int)] _ _
    go_enter Tryz.func38, Tryz.ntmps38
    go_wp2
    go_ret
    exact ⟨congrArg (fun b => Ending.returned (Value.string b)) (dec_one 0 (by omega)), rfl⟩
  · have hm : max (0 : Int) 1 = 1 := by decide
    change Calls _ _ #[.int .i64 (1 : Int)] _ _
    go_enter Tryz.func38, Tryz.ntmps38
    go_wp2
    go_ret
    exact ⟨congrArg (fun b => Ending.returned (Value.string b)) (dec_one 1 (by omega)), rfl⟩
  · have hm : max (0 : Int) 2 = 2 := by decide
    change Calls _ _ #[.int .i64 (2 : Int)] _ _
    go_enter Tryz.func38, Tryz.ntmps38
    go_wp2
    go_ret
    exact ⟨congrArg (fun b => Ending.returned (Value.string b)) (dec_one 2 (by omega)), rfl⟩
  · have hm : max (0 : Int) 3 = 3 := by decide
    change Calls _ _ #[.int .i64 (3 : Int)] _ _
    go_enter Tryz.func38, Tryz.ntmps38
    go_wp2
    go_ret
    exact ⟨congrArg (fun b => Ending.returned (Value.string b)) (dec_one 3 (by omega)), rfl⟩
  · have hm : max (0 : Int) 4 = 4 := by decide
    change Calls _ _ #[.int .i64 (4 : Int)] _ _
    go_enter Tryz.func38, Tryz.ntmps38
    go_wp2
    go_ret
    exact ⟨congrArg (fun b => Ending.returned (Value.string b)) (dec_one 4 (by omega)), rfl⟩
  · have hm : max (0 : Int) 5 = 5 := by decide
    change Calls _ _ #[.int .i64 (5 : Int)] _ _
    go_enter Tryz.func38, Tryz.ntmps38
    go_wp2
    go_ret
    exact ⟨congrArg (fun b => Ending.returned (Value.string b)) (dec_one 5 (by omega)), rfl⟩
  · have hm : max (0 : Int) 6 = 6 := by decide
    change Calls _ _ #[.int .i64 (6 : Int)] _ _
    go_enter Tryz.func38, Tryz.ntmps38
    go_wp2
    go_ret
    exact ⟨congrArg (fun b => Ending.returned (Value.string b)) (dec_one 6 (by omega)), rfl⟩
  · have hm : max (0 : Int) 7 = 7 := by decide
    change Calls _ _ #[.int .i64 (7 : Int)] _ _
    go_enter Tryz.func38, Tryz.ntmps38
    go_wp2
    go_ret
    exact ⟨congrArg (fun b => Ending.returned (Value.string b)) (dec_one 7 (by omega)), rfl⟩
  · have hm : max (0 : Int) 8 = 8 := by decide
    change Calls _ _ #[.int .i64 (8 : Int)] _ _
    go_enter Tryz.func38, Tryz.ntmps38
    go_wp2
    go_ret
    exact ⟨congrArg (fun b => Ending.returned (Value.string b)) (dec_one 8 (by omega)), rfl⟩
  · have hm : max (0 : Int) 9 = 9 := by decide
    change Calls _ _ #[.int .i64 (9 : Int)] _ _
    go_enter Tryz.func38, Tryz.ntmps38
    go_wp2
    go_ret
    exact ⟨congrArg (fun b => Ending.returned (Value.string b)) (dec_one 9 (by omega)), rfl⟩
set_option maxRecDepth 100000 in
set_option maxHeartbeats 1000000 in
theorem digits_any : ∀ (k n : Nat) (w : World), n ≤ k → n ≤ 9000000000000000000 → Calls Tryz.prog 38 #[.int .i64 (n : Int)] w fun e w' => e = .returned (.string ⟨(Lib.decDigits n).toArray⟩) ∧ w = w' := by
  intro k
  induction k with
  | zero => intro n w hk hn; exact digit_one n w (by omega)
  | succ k ih =>
    intro n w hk hn
    by_cases h10 : n < 10
    · exact digit_one n w h10
    · have h1 : ¬ (n : Int) < 10 := by omega
      have C1 : Hid (∀ w', Calls Tryz.prog 38 #[.int .i64 ((n : Int) / 10)] w' fun e w'' => e = .returned (.string ⟨(Lib.decDigits (n / 10)).toArray⟩) ∧ w' = w'') := Lib.hid (fun w' => ih (n / 10) w' (by omega) (by omega))
      have C2 : Hid (∀ w', Calls Tryz.prog 38 #[.int .i64 ((n : Int) % 10)] w' fun e w'' => e = .returned (.string ⟨(Lib.decDigits (n % 10)).toArray⟩) ∧ w' = w'') := Lib.hid (fun w' => ih (n % 10) w' (by omega) (by omega))
      have hL : ¬ 9223372036854775807 < (Lib.decDigits (n / 10)).length + (Lib.decDigits (n % 10)).length := by
        have := dec_len (n / 10) (by omega)
        have := dec_len (n % 10) (by omega)
        omega
      have HS := Lib.hid (dec_step (n := n) (by omega))
      go_enter Tryz.func38, Tryz.ntmps38
      go_wp2_with (first
        | (go_at_call 38; (with_reducible refine (C1.out _).mono ?_); rintro e w1 ⟨rfl, rfl⟩)
        | (go_at_call 38; (with_reducible refine (C2.out _).mono ?_); rintro e w1 ⟨rfl, rfl⟩)
        | fail)
      go_ret
      exact ⟨congrArg (fun b => Ending.returned (Value.string b)) (by rw [HS.out, ← str_app]), rfl⟩
theorem digits_at (n : Int) (h : tickB n = true) (w : World) : Calls Tryz.prog 38 #[.int .i64 n] w fun e w' => e = .returned (.string ⟨(Lib.decDigits n.toNat).toArray⟩) ∧ w = w' := by
  simp only [tickB, Bool.and_eq_true, decide_eq_true_eq] at h
  have := digits_any n.toNat n.toNat w (Nat.le_refl _) (by omega)
  rwa [Int.toNat_of_nonneg h.1] at this
/-- the digits of a number, and how many there are at most -/
theorem dec_short {n : Int} (h : tickB n = true) : (Lib.decDigits n.toNat).length ≤ 20 := by
  simp only [tickB, Bool.and_eq_true, decide_eq_true_eq] at h
  exact dec_len _ (by omega)
theorem sp_when (k : List UInt8) (t : TimesM) : sp (whenT k t) = [32, 102, 114, 111, 109, 32] ++ Lib.decDigits t.frm.toNat ++ [32, 101, 118, 101, 114, 121, 32] ++ Lib.decDigits t.every.toNat ++ [32] ++ k ++ [32] ++ Lib.decDigits t.len.toNat := by
  simp [sp, whenT, kT, nT, kFrom, kEvery]
set_option maxRecDepth 100000 in
set_option maxHeartbeats 2000000 in
theorem when_any (t : TimesM) (k : List UInt8) (w : World) (h : timesB t = true) (hk : k.length ≤ 20) : Calls Tryz.prog 39 #[.agg #[.int .i64 t.frm, .int .i64 t.every, .int .i64 t.len], .string ⟨k.toArray⟩] w fun e w' => e = .returned (.string ⟨(sp (whenT k t)).toArray⟩) ∧ Below w.heap.size w w' := by
  simp only [timesB, List.all_cons, List.all_nil, Bool.and_true, Bool.and_eq_true] at h
  obtain ⟨h1, h2, h3⟩ := h
  have C1 := Lib.hid (fun w' => digits_at t.frm h1 w')
  have C2 := Lib.hid (fun w' => digits_at t.every h2 w')
  have C3 := Lib.hid (fun w' => digits_at t.len h3 w')
  have HS := Lib.hid (sp_when k t)
  have l1 := dec_short h1
  have l2 := dec_short h2
  have l3 := dec_short h3
  rw [HS.out]
  clear HS h1 h2 h3
  obtain ⟨f, e, l⟩ := t
  dsimp only at *
  generalize Lib.decDigits f.toNat = d1 at *
  generalize Lib.decDigits e.toNat = d2 at *
  generalize Lib.decDigits l.toNat = d3 at *
  have f1 : ¬ 9223372036854775807 < 6 + d1.length := by omega
  have f2 : ¬ 9223372036854775807 < 6 + d1.length + 7 := by omega
  have f3 : ¬ 9223372036854775807 < 6 + d1.length + 7 + d2.length := by omega
  have f4 : ¬ 9223372036854775807 < 6 + d1.length + 7 + d2.length + 1 := by omega
  have f5 : ¬ 9223372036854775807 < 6 + d1.length + 7 + d2.length + 1 + k.length := by omega
  have f6 : ¬ 9223372036854775807 < 6 + d1.length + 7 + d2.length + 1 + k.length + 1 := by omega
  have f7 : ¬ 9223372036854775807 < 6 + d1.length + 7 + d2.length + 1 + k.length + 1 + d3.length := by omega
  go_enter Tryz.func39, Tryz.ntmps39
  go_wp2
  go_quiet (first
    | (go_at_call 38; (with_reducible refine (C1.out _).mono ?_); rintro e w1 ⟨rfl, rfl⟩; exact ⟨rfl, _, rfl⟩)
    | (go_at_call 38; (with_reducible refine (C2.out _).mono ?_); rintro e w1 ⟨rfl, rfl⟩; exact ⟨rfl, _, rfl⟩)
    | (go_at_call 38; (with_reducible refine (C3.out _).mono ?_); rintro e w1 ⟨rfl, rfl⟩; exact ⟨rfl, _, rfl⟩)
    | fail)
  go_wp2
  go_ret
  exact ⟨congrArg (fun b => Ending.returned (Value.string b)) (bytes_eq (by simp)), below_drewN (one_box _ _) _⟩

/-- the text of a route's line so far: its first stop, and j legs -/
def alongT (r : RouteM) (j : Nat) : List UInt8 := kRoute ++ sp [wT r.name, wT (r.stops.getD 0 [])] ++ sp ((List.range' 0 j).flatMap (pieceT r))
theorem along_zero (r : RouteM) : alongT r 0 = [114, 111, 117, 116, 101, 32] ++ r.name ++ [32] ++ r.stops.getD 0 [] := by simp [alongT, sp, wT, kRoute]
theorem along_more (r : RouteM) (j : Nat) : alongT r (j + 1) = alongT r j ++ ([32] ++ Lib.decDigits (r.rides.getD j 0).toNat ++ [32] ++ r.stops.getD (j + 1) []) ++ (if j + 2 < r.stops.length ∧ 0 < r.stays.getD j 0 then [32, 115, 116, 97, 121, 32] ++ Lib.decDigits (r.stays.getD j 0).toNat else []) := by
  have e : List.range' 0 (j + 1) = List.range' 0 j ++ [j] := by rw [List.range'_concat]; simp
  unfold alongT
  rw [e, List.flatMap_append, sp_app]
  by_cases h : j + 2 < r.stops.length ∧ 0 < r.stays.getD j 0
  · rw [if_pos h]; simp only [List.flatMap_cons, List.flatMap_nil, pieceT, if_pos h]; simp [sp, nT, wT, kT, kStay]
  · rw [if_neg h]; simp only [List.flatMap_cons, List.flatMap_nil, pieceT, if_neg h]; simp [sp, nT, wT]
theorem along_line (r : RouteM) : alongT r (r.stops.length - 1) = lineB (Item.toks (.route r)) := by
  simp only [alongT, lineB, Item.toks, Item.rest, Item.key, sp_app]
  simp [kT]
theorem name_len {s : List UInt8} (h : nameB s = true) : s.length ≤ 24 := by
  simp only [nameB, Bool.and_eq_true, decide_eq_true_eq] at h
  exact h.1
theorem along_len {r : RouteM} (hn : nameB r.name = true ∧ r.stops.all nameB = true) (ht : r.rides.all tickB = true ∧ r.stays.all tickB = true) (hc : r.rides.length + 1 = r.stops.length ∧ r.stays.length + 2 = r.stops.length) : ∀ j, j + 1 ≤ r.stops.length → (alongT r j).length ≤ 100 + 100 * j := by
  intro j
  induction j with
  | zero =>
    intro h
    have h1 := name_len hn.1
    have h2 := name_len (getD_all (d := []) hn.2 (k := 0) (by omega))
    rw [along_zero]
    simp at h2 ⊢
    omega
  | succ j ih =>
    intro h
    have h0 := ih (by omega)
    have h1 := name_len (getD_all (d := []) hn.2 (k := j + 1) (by omega))
    have h2 := dec_short (getD_all (d := 0) ht.1 (k := j) (by omega))
    rw [along_more]
    by_cases hx : j + 2 < r.stops.length ∧ 0 < r.stays.getD j 0
    · have h3 := dec_short (getD_all (d := 0) ht.2 (k := j) (by omega))
      rw [if_pos hx]
      simp only [List.length_append, List.length_cons, List.length_nil]
      omega
    · rw [if_neg hx]
      simp only [List.length_append, List.length_cons, List.length_nil]
      omega
theorem getD_of {α : Type} {l : List α} {k : Nat} {a d : α} (h : l[k]? = some a) : l.getD k d = a := by rw [List.getD_eq_getElem?_getD, h]; rfl
set_option maxRecDepth 100000 in
set_option maxHeartbeats 4000000 in
theorem along_any (r : RouteM) (sa ra ya : Option Addr) (sc rc yc : Nat) (w : World) (h : RtAt w (· < w.heap.size) r sa ra ya) (hn : route_name r = true) (ht : route_tick r = true) (hc : route_count r = true) :
    Calls Tryz.prog 40 #[rtV r sa ra ya sc rc yc] w fun e w' => e = .returned (.string ⟨(lineB (Item.toks (.route r))).toArray⟩) ∧ Below w.heap.size w w' := by
  obtain ⟨c2, c32, cr, cy⟩ := count_of hc
  simp only [route_name, route_tick, Bool.and_eq_true] at hn ht
  have HN := Lib.hid hn
  have HT := Lib.hid ht
  have HA := Lib.hid h
  have HL := Lib.hid (along_len hn ht ⟨cr, cy⟩)
  have HZ := Lib.hid (along_zero r)
  have HM := Lib.hid (along_more r)
  rw [← along_line]
  obtain ⟨s0, hs0⟩ : ∃ s0, r.stops[0]? = some s0 := ⟨_, List.getElem?_eq_getElem (by omega)⟩
  obtain ⟨ad, rfl, hS, u0, -⟩ := rd_at 1 (fun _ => rfl) (by omega) h.hs hs0
  have v0 : ∀ o, (w.alloc o).cell? ad = some (.string ⟨s0.toArray⟩) := fun o => (World.cell?_of_block (Below.heap_alloc w o _ hS)).trans u0
  have q1 := name_len hn.1
  have q2 : s0.length ≤ 24 := name_len (List.all_eq_true.1 hn.2 _ (List.mem_of_getElem? hs0))
  rw [getD_of hs0] at HZ
  obtain ⟨n1, hn1⟩ : ∃ n1, n1 = r.stops.length := ⟨_, rfl⟩
  obtain ⟨n2, hn2⟩ : ∃ n2, n2 = r.rides.length := ⟨_, rfl⟩
  obtain ⟨n3, hn3⟩ : ∃ n3, n3 = r.stays.length := ⟨_, rfl⟩
  have HN1 := Lib.hid hn1
  have HN2 := Lib.hid hn2
  have HN3 := Lib.hid hn3
  have HS0 := Lib.hid hs0
  clear h hn ht hc u0 hs0
  show Calls _ _ #[.agg #[.string ⟨r.name.toArray⟩, .slice (some ad) r.stops.length sc, .slice ra r.rides.length rc, .slice ya r.stays.length yc]] _ _
  rw [← hn1, ← hn2, ← hn3]
  rw [← hn1] at c2 c32 cr cy HL HM
  rw [← hn2] at cr
  rw [← hn3] at cy
  obtain ⟨nm, hnm⟩ : ∃ nm, nm = r.name := ⟨_, rfl⟩
  rw [← hnm] at HZ q1 ⊢
  clear hn1 hn2 hn3 hnm
  have f0 : (0 : Int) < (n1 : Int) := by omega
  have f1 : ¬ 9223372036854775807 < 6 + nm.length := by omega
  have f2 : ¬ 9223372036854775807 < 6 + nm.length + 1 := by omega
  have f3 : ¬ 9223372036854775807 < 6 + nm.length + 1 + s0.length := by omega
  go_enter Tryz.func40, Tryz.ntmps40
  go_wp2
  go_quiet (fail)
  go_wp2
  go_loopw [3, 4] (fun v3 v4 wr => ∃ j : Nat, v3 = .string ⟨(alongT r j).toArray⟩ ∧ v4 = .int .i64 ((j : Int) + 1) ∧ j + 1 ≤ n1 ∧ Hid (Below w.heap.size w wr) ∧ Hid (Blk wr w.heap.size 48 [.string ⟨nm.toArray⟩, .slice (some ad) n1 sc, .slice ra n2 rc, .slice ya n3 yc])) (fun _ v _ => n1 - (intOf v).toNat)
  case atStart => exact ⟨0, congrArg Value.string (bytes_eq (by rw [HZ.out]; simp)), rfl, by omega, Lib.hid (below_drewN (one_box _ _) _), Lib.hid ((Blk.new w 48 [.string ⟨nm.toArray⟩, .slice (some ad) n1 sc, .slice ra n2 rc, .slice ya n3 yc]).after (below_drewN (Below.refl _ _) _))⟩
  case round =>
    obtain ⟨j, rfl, rfl, hj, HB, HK⟩ := hrel
    have k1 : wr.cell? ⟨w.heap.size, 1, none⟩ = some (.slice (some ad) n1 sc) := HK.out.cell 1
    by_cases hlt : j + 1 < n1
    · obtain ⟨d, hd⟩ := at_in (k := j) r.rides HN2 (by omega)
      obtain ⟨s, hs⟩ := at_in (k := j + 1) r.stops HN1 hlt
      obtain ⟨rd, rfl, hrS, x0, -⟩ := rd_at 1 (fun _ => rfl) (by omega) (rd_later HA.out.hr HB.out) hd
      obtain ⟨sd, hsd, hsS, y0, -⟩ := rd_at 1 (fun _ => rfl) (by omega) (rd_later HA.out.hs HB.out) hs
      cases hsd
      have x1 : wr.cell? (rd.add (j * 1)) = some (.int .i64 d) := x0
      have y1 : wr.cell? (ad.add ((j + 1) * 1)) = some (.string ⟨s.toArray⟩) := y0
      rw [Nat.mul_one] at x1 y1
      have e1 : ad.add (j + 1) = ⟨ad.block, ad.off + (j + 1), none⟩ := by
        unfold Addr.add
        rw [if_neg (by omega)]
      rw [e1] at y1
      clear e1
      have k2 : wr.cell? ⟨w.heap.size, 2, none⟩ = some (.slice (some rd) n2 rc) := HK.out.cell 2
      have k3 : wr.cell? ⟨w.heap.size, 3, none⟩ = some (.slice ya n3 yc) := HK.out.cell 3
      have hdt : tickB d = true := List.all_eq_true.1 HT.out.1 _ (List.mem_of_getElem? hd)
      have C1 := Lib.hid (fun w' => digits_at d hdt w')
      have l1 := dec_short hdt
      have l2 : s.length ≤ 24 := name_len (List.all_eq_true.1 HN.out.2 _ (List.mem_of_getElem? hs))
      have l3 := HL.out j hj
      have hm := HM.out j
      rw [getD_of hd, getD_of hs] at hm
      have HMJ := Lib.hid hm
      clear hm hd hs x0 y0 hdt
      generalize alongT r j = T at *
      generalize Lib.decDigits d.toNat = D at *
      have f1 : ¬ 9223372036854775807 < T.length + 1 := by omega
      have f2 : ¬ 9223372036854775807 < T.length + 1 + D.length := by omega
      have f3 : ¬ 9223372036854775807 < T.length + 1 + D.length + 1 := by omega
      have f4 : ¬ 9223372036854775807 < T.length + 1 + D.length + 1 + s.length := by omega
      have i1 : (j : Int) + 1 < (n1 : Int) := by omega
      have i2 : (j : Int) < (n2 : Int) := by omega
      go_wp2
      go_quiet (first
        | (go_at_call 38; (with_reducible refine (C1.out _).mono ?_); rintro e w1 ⟨rfl, rfl⟩; exact ⟨rfl, _, rfl⟩)
        | fail)
      by_cases h2 : j + 2 < n1
      · obtain ⟨y, hy⟩ := at_in (k := j) r.stays HN3 (by omega)
        obtain ⟨yd, rfl, hyS, z0, -⟩ := rd_at 1 (fun _ => rfl) (by omega) (rd_later HA.out.hy HB.out) hy
        have z1 : ∀ n, (wr.drewN n).cell? (yd.add j) = some (.int .i64 y) := fun n => by
          have : wr.cell? (yd.add (j * 1)) = some (.int .i64 y) := z0
          rw [Nat.mul_one] at this
          exact this
        have hyt : tickB y = true := List.all_eq_true.1 HT.out.2 _ (List.mem_of_getElem? hy)
        have C2 := Lib.hid (fun w' => digits_at y hyt w')
        have l4 := dec_short hyt
        have hmj := HMJ.out
        rw [getD_of hy] at hmj
        have g1 : (j : Int) + 1 < (n1 : Int) - 1 := by omega
        have g2 : (j : Int) < (n3 : Int) := by omega
        generalize Lib.decDigits y.toNat = Y at *
        by_cases h3 : 0 < y
        · rw [if_pos ⟨by omega, h3⟩] at hmj
          have HF := Lib.hid hmj
          have f5 : ¬ 9223372036854775807 < T.length + 1 + D.length + 1 + s.length + 6 := by omega
          have f6 : ¬ 9223372036854775807 < T.length + 1 + D.length + 1 + s.length + 6 + Y.length := by omega
          clear hmj HMJ hy z0 hyt
          go_wp2_with (first
            | (go_at_call 38; (with_reducible refine (C2.out _).mono ?_); rintro e w1 ⟨rfl, rfl⟩)
            | fail)
          go_roundw
          case rel => exact ⟨j + 1, congrArg Value.string (bytes_eq (by rw [HF.out]; simp)), by go_num, by omega, Lib.hid (below_drewN HB.out _), Lib.hid (HK.out.after (below_drewN (Below.refl _ _) _))⟩
          case measure => simp [intOf]; omega
        · rw [if_neg (fun h => h3 h.2)] at hmj
          have HF := Lib.hid hmj
          clear hmj HMJ hy z0 hyt
          go_wp2
          go_roundw
          case rel => exact ⟨j + 1, congrArg Value.string (bytes_eq (by rw [HF.out]; simp)), by go_num, by omega, Lib.hid (below_drewN HB.out _), Lib.hid (HK.out.after (below_drewN (Below.refl _ _) _))⟩
          case measure => simp [intOf]; omega
      · have g1 : ¬ (j : Int) + 1 < (n1 : Int) - 1 := by omega
        have hmj := HMJ.out
        rw [if_neg (fun h => h2 (by omega))] at hmj
        have HF := Lib.hid hmj
        clear hmj HMJ
        go_wp2
        go_roundw
        case rel => exact ⟨j + 1, congrArg Value.string (bytes_eq (by rw [HF.out]; simp)), by go_num, by omega, Lib.hid (below_drewN HB.out _), Lib.hid (HK.out.after (below_drewN (Below.refl _ _) _))⟩
        case measure => simp [intOf]; omega
    · have i1 : ¬ (j : Int) + 1 < (n1 : Int) := by omega
      obtain rfl : j = n1 - 1 := by omega
      go_wp2
      go_ret
      exact ⟨rfl, HB.out⟩
end Go.Proofs.YteonmabfhilcfaaGreatDoor.Sh
