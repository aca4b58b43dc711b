/- A sheet in memory of one's own, all of whose rows are apart: rows of routes, and the kit's OwnRoute. Conditions: none beside those that the theorems name. -/
import Derived.Test.YtgdanbfglefiiaaGreatBaFrZ
namespace Go.Proofs.YtgdanbfglefiiaaGreat.Sh
open Go.ChangeShapes Go.WideShapes Go.ChangeAt Go.RowKit
open Lx
set_option linter.unusedVariables false
set_option linter.unusedSimpArgs false
/-- a row that lies alone in a block of S -/
def RowIn (w : World) (S : Nat → Prop) (e : TypeId) (v : Value) (n : Nat) (xs : List Value) : Prop := w.ownsRow 0 e 1 v n xs ∧ ∀ k, v.ownBlock = some k → S k
theorem own_heap {w w' : World} {base e size n : Nat} {v : Value} {xs : List Value} (h : w.ownsRow base e size v n xs) (hk : ∀ k, v.ownBlock = some k → w'.heap[k]? = w.heap[k]?) : w'.ownsRow base e size v n xs := by
  refine ⟨h.1, ?_⟩
  rcases h.2 with hn | ⟨g, cap, cur, rfl, hb, hg, rest⟩
  · exact .inl hn
  · exact .inr ⟨g, cap, cur, rfl, hb, (hk g rfl).trans hg, rest⟩
theorem RowIn.keep {w w' : World} {S : Nat → Prop} {e : TypeId} {v : Value} {n : Nat} {xs : List Value} (h : RowIn w S e v n xs) (hk : ∀ b, S b → w'.heap[b]? = w.heap[b]?) : RowIn w' S e v n xs := ⟨own_heap h.1 fun k e => hk k (h.2 k e), h.2⟩
theorem RowIn.more {w : World} {S S' : Nat → Prop} {e : TypeId} {v : Value} {n : Nat} {xs : List Value} (h : RowIn w S e v n xs) (hs : ∀ b, S b → S' b) : RowIn w S' e v n xs := ⟨h.1, fun k e => hs k (h.2 k e)⟩
theorem RowIn.rd {w : World} {S : Nat → Prop} {e n c k : Nat} {A : Option Addr} {xs : List Value} (h : RowIn w S e (.slice A n c) k xs) : Rd w S A xs := by
  intro hn
  obtain ⟨ad, hA, hb, hc⟩ := own_rd h.1 hn
  exact ⟨ad, hA, h.2 _ (by rw [hA]; rfl), hc⟩
structure RtX (w : World) (S : Nat → Prop) (r : RouteM) (sa ra ya : Option Addr) (sc rc yc : Nat) : Prop where
  hs : RowIn w S 9 (.slice sa r.stops.length sc) r.stops.length (cs strC r.stops)
  hr : RowIn w S 2 (.slice ra r.rides.length rc) r.rides.length (cs intC r.rides)
  hy : RowIn w S 2 (.slice ya r.stays.length yc) r.stays.length (cs intC r.stays)
/-- the routes of a row: no two have their stops in one block -/
def Rtx (w : World) : (Nat → Prop) → List RouteM → List Value → Prop
  | _, [], c => c = []
  | S, r :: l, c => ∃ (sa : Option Addr) (sc : Nat) (ra : Option Addr) (rc : Nat) (ya : Option Addr) (yc : Nat) (rest : List Value),
      c = .string ⟨r.name.toArray⟩ :: .slice sa r.stops.length sc :: .slice ra r.rides.length rc :: .slice ya r.stays.length yc :: rest ∧
      RtX w S r sa ra ya sc rc yc ∧ Rtx w (fun b => S b ∧ (Value.slice sa r.stops.length sc).ownBlock ≠ some b) l rest
theorem RtX.keep {w w' : World} {S : Nat → Prop} {r : RouteM} {sa ra ya : Option Addr} {sc rc yc : Nat} (h : RtX w S r sa ra ya sc rc yc) (hk : ∀ b, S b → w'.heap[b]? = w.heap[b]?) : RtX w' S r sa ra ya sc rc yc := ⟨h.hs.keep hk, h.hr.keep hk, h.hy.keep hk⟩
theorem RtX.more {w : World} {S S' : Nat → Prop} {r : RouteM} {sa ra ya : Option Addr} {sc rc yc : Nat} (h : RtX w S r sa ra ya sc rc yc) (hs : ∀ b, S b → S' b) : RtX w S' r sa ra ya sc rc yc := ⟨h.hs.more hs, h.hr.more hs, h.hy.more hs⟩
theorem Rtx.keep {w w' : World} : ∀ {S : Nat → Prop} {l : List RouteM} {c : List Value}, Rtx w S l c → (∀ b, S b → w'.heap[b]? = w.heap[b]?) → Rtx w' S l c
  | _, [], _, h, _ => h
  | _, _ :: _, _, ⟨sa, sc, ra, rc, ya, yc, rest, e, h1, h4⟩, hk => ⟨sa, sc, ra, rc, ya, yc, rest, e, h1.keep hk, Rtx.keep h4 fun b hb => hk b hb.1⟩
theorem Rtx.more {w : World} : ∀ {S S' : Nat → Prop} {l : List RouteM} {c : List Value}, Rtx w S l c → (∀ b, S b → S' b) → Rtx w S' l c
  | _, _, [], _, h, _ => h
  | _, _, _ :: _, _, ⟨sa, sc, ra, rc, ya, yc, rest, e, h1, h4⟩, hs => ⟨sa, sc, ra, rc, ya, yc, rest, e, h1.more hs, Rtx.more h4 fun b hb => ⟨hs b hb.1, hb.2⟩⟩
theorem Rtx.length {w : World} : ∀ {S : Nat → Prop} {l : List RouteM} {c : List Value}, Rtx w S l c → c.length = l.length * 4
  | _, [], _, h => by rw [show _ = _ from h]; rfl
  | _, _ :: _, _, ⟨_, _, _, _, _, _, _, e, _, h4⟩ => by rw [e]; simp [Rtx.length h4]; omega
theorem Rtx.rts {w : World} : ∀ {S : Nat → Prop} {l : List RouteM} {c : List Value}, Rtx w S l c → Rts w S l c
  | _, [], _, h => h
  | _, _ :: _, _, ⟨sa, sc, ra, rc, ya, yc, rest, e, h1, h4⟩ => ⟨sa, sc, ra, rc, ya, yc, rest, e, h1.hs.rd, h1.hr.rd, h1.hy.rd, Rts.more (fun _ hb => hb.1) (Rtx.rts h4)⟩
theorem Rtx.snoc {w : World} {T : Nat → Prop} {r : RouteM} {d : List Value} (hr : Rtx w T [r] d) : ∀ {S : Nat → Prop} {l : List RouteM} {c : List Value}, (∀ b, S b → ¬ T b) → Rtx w S l c → Rtx w (fun b => S b ∨ T b) (l ++ [r]) (c ++ d)
  | _, [], _, _, h => by rw [show _ = _ from h]; exact hr.more fun _ hb => .inr hb
  | _, _ :: _, _, hd, ⟨sa, sc, ra, rc, ya, yc, rest, e, h1, h4⟩ =>
    ⟨sa, sc, ra, rc, ya, yc, rest ++ d, by rw [e]; rfl, h1.more fun _ hb => .inl hb, (Rtx.snoc hr (fun b hb => hd b hb.1) h4).more fun b hb => hb.elim (fun g => ⟨.inl g.1, g.2⟩) (fun g => ⟨.inr g, fun e => hd b (h1.hs.2 b e) g⟩)⟩
/-- one route, and what may be done with it -/
theorem Rtx.get {w : World} : ∀ {S : Nat → Prop} {l : List RouteM} {c : List Value} {i : Nat} {r : RouteM}, Rtx w S l c → l[i]? = some r → ∃ sa ra ya sc rc yc, c[i * 4]? = some (.string ⟨r.name.toArray⟩) ∧ c[i * 4 + 1]? = some (.slice sa r.stops.length sc) ∧ RtX w S r sa ra ya sc rc yc ∧
    ∀ (w' : World) (r' : RouteM), (∀ b, S b → (Value.slice sa r.stops.length sc).ownBlock ≠ some b → w'.heap[b]? = w.heap[b]?) → r'.stops.length = r.stops.length → r'.rides = r.rides → r'.stays = r.stays → w'.ownsRow 0 9 1 (.slice sa r.stops.length sc) r.stops.length (cs strC r'.stops) → Rtx w' S (l.set i r') (c.set (i * 4) (.string ⟨r'.name.toArray⟩))
  | _, [], _, _, _, _, hi => by simp at hi
  | S, x :: l, c, 0, r, ⟨sa, sc, ra, rc, ya, yc, rest, e, h1, h4⟩, hi => by
    simp at hi; subst hi; subst e
    refine ⟨sa, ra, ya, sc, rc, yc, rfl, rfl, h1, fun w' r' hk e1 e2 e3 ho => ?_⟩
    have ne : ∀ {v : Value} {n : Nat} {xs : List Value}, w.ownsRow 0 2 1 v n xs → ∀ k, v.ownBlock = some k → (Value.slice sa x.stops.length sc).ownBlock ≠ some k := fun ho k hk => own_ne ho h1.hs.1 (by decide) k hk
    refine ⟨sa, sc, ra, rc, ya, yc, rest, by rw [e1, e2, e3]; rfl, ⟨by rw [e1]; exact ⟨ho, h1.hs.2⟩, by rw [e2]; exact ⟨own_heap h1.hr.1 fun k e => hk k (h1.hr.2 k e) (ne h1.hr.1 k e), h1.hr.2⟩, by rw [e3]; exact ⟨own_heap h1.hy.1 fun k e => hk k (h1.hy.2 k e) (ne h1.hy.1 k e), h1.hy.2⟩⟩, ?_⟩
    rw [e1]
    exact h4.keep fun b hb => hk b hb.1 hb.2
  | S, x :: l, c, i + 1, r, ⟨sa, sc, ra, rc, ya, yc, rest, e, h1, h4⟩, hi => by
    simp at hi; subst e
    obtain ⟨sa', ra', ya', sc', rc', yc', g0, g1, g2, g3⟩ := Rtx.get h4 hi
    have i0 : (i + 1) * 4 = i * 4 + 1 + 1 + 1 + 1 := by omega
    have ne : ∀ {v : Value} {n : Nat} {xs : List Value}, w.ownsRow 0 2 1 v n xs → ∀ k, v.ownBlock = some k → (Value.slice sa' r.stops.length sc').ownBlock ≠ some k := fun ho k hk => own_ne ho g2.hs.1 (by decide) k hk
    refine ⟨sa', ra', ya', sc', rc', yc', by rw [i0]; exact g0, by rw [i0]; exact g1, g2.more fun b hb => hb.1, fun w' r' hk e1 e2 e3 ho => ?_⟩
    refine ⟨sa, sc, ra, rc, ya, yc, rest.set (i * 4) (.string ⟨r'.name.toArray⟩), by rw [i0]; rfl, ⟨⟨own_heap h1.hs.1 fun k e => hk k (h1.hs.2 k e) (fun e' => (g2.hs.2 k e').2 e), h1.hs.2⟩, ⟨own_heap h1.hr.1 fun k e => hk k (h1.hr.2 k e) (ne h1.hr.1 k e), h1.hr.2⟩, ⟨own_heap h1.hy.1 fun k e => hk k (h1.hy.2 k e) (ne h1.hy.1 k e), h1.hy.2⟩⟩, g3 w' r' (fun b hb => hk b hb.1) e1 e2 e3 ho⟩
theorem own_in4 {w : World} {g B lo : Nat} {e : TypeId} {a b c d : Value} {A : Option Addr} {n k : Nat} {xs : List Value} (h : w.ownsRow B e 1 (.slice A n k) n xs) (hg : g < B) (hlo : lo ≤ B) :
    RowIn ((((w.setCell ⟨g, 0, none⟩ a).setCell ⟨g, 1, none⟩ b).setCell ⟨g, 2, none⟩ c).setCell ⟨g, 3, none⟩ d) (fun i => lo ≤ i ∧ i < ((((w.setCell ⟨g, 0, none⟩ a).setCell ⟨g, 1, none⟩ b).setCell ⟨g, 2, none⟩ c).setCell ⟨g, 3, none⟩ d).heap.size) e (.slice A n k) n xs :=
  ⟨own_down (own_heap h fun i e => set4_keep (by have := (h.lt i e).1; omega)) (Nat.zero_le _), fun i e => ⟨by have := (h.lt i e).1; omega, by rw [set4_size]; exact (h.lt i e).2⟩⟩
def OwnRtX (w : World) (r : RouteM) (e : Ending) (w' : World) : Prop :=
  ∃ sa ra ya sc rc yc, e = .returned (rtV r sa ra ya sc rc yc) ∧ RtX w' (fun b => w.heap.size ≤ b ∧ b < w'.heap.size) r sa ra ya sc rc yc ∧ Below w.heap.size w w'
set_option maxRecDepth 100000 in
set_option maxHeartbeats 4000000 in
theorem own_routeX (r : RouteM) (sa ra ya : Option Addr) (sc rc yc : Nat) (w : World) (h : RtAt w (· < w.heap.size) r sa ra ya) (hf : Few r) :
    Calls Tryz.prog 47 #[rtV r sa ra ya sc rc yc] w (OwnRtX w r) := by
  obtain ⟨nm, S, R, Y⟩ := r
  dsimp only [rtV]
  have HH := Lib.hid h
  have HF := Lib.hid hf
  obtain ⟨ns, hns⟩ : ∃ n, n = S.length := ⟨_, rfl⟩
  obtain ⟨nr, hnr⟩ : ∃ n, n = R.length := ⟨_, rfl⟩
  obtain ⟨ny, hny⟩ : ∃ n, n = Y.length := ⟨_, rfl⟩
  have C1 : Hid (∀ w', Below w.heap.size w w' → Calls Tryz.prog 45 #[.slice sa ns sc] w' (NewRow w' 9 1 (cs strC S) ns)) := Lib.hid (fun w' hb => own_str w' sa ns sc S (Lib.hid hns) (by rw [hns]; exact hf.1) (rd_later h.hs hb))
  have C2 : Hid (∀ w', Below w.heap.size w w' → Calls Tryz.prog 58 #[.slice ra nr rc] w' (NewRow w' 2 1 (cs intC R) nr)) := Lib.hid (fun w' hb => own_int w' ra nr rc R (Lib.hid hnr) (by rw [hnr]; exact hf.2.1) (rd_later h.hr hb))
  have C3 : Hid (∀ w', Below w.heap.size w w' → Calls Tryz.prog 58 #[.slice ya ny yc] w' (NewRow w' 2 1 (cs intC Y) ny)) := Lib.hid (fun w' hb => own_int w' ya ny yc Y (Lib.hid hny) (by rw [hny]; exact hf.2.2) (rd_later h.hy hb))
  have EE := Lib.hid (And.intro hns (And.intro hnr hny))
  rw [← hns, ← hnr, ← hny]
  clear h hf hns hnr hny HF
  go_enter Tryz.func47, Tryz.ntmps47
  go_wp2_with fail
  obtain ⟨W, hW⟩ : ∃ W, W = (w.alloc (.cells #[.string ⟨nm.toArray⟩, .slice sa ns sc, .slice ra nr rc, .slice ya ny yc] 72)).alloc (.cells #[.string ⟨#[]⟩, .slice none 0 0, .slice none 0 0, .slice none 0 0] 72) := ⟨_, rfl⟩
  have hW0 : Below w.heap.size w W := by rw [hW]; exact two_box _ _ _
  have k0 : Blk W w.heap.size 72 [.string ⟨nm.toArray⟩, .slice sa ns sc, .slice ra nr rc, .slice ya ny yc] := by rw [hW]; exact (Blk.new w _ _).alloc _
  have k1 : Blk W (w.heap.size + 1) 72 [.string ⟨#[]⟩, .slice none 0 0, .slice none 0 0, .slice none 0 0] := by rw [hW]; exact Blk.new2 w _ _ _
  have K0 := Lib.hid k0
  have K1 := Lib.hid k1
  have HW0 := Lib.hid hW0
  rw [← hW]
  clear hW k0 k1 hW0
  have KC : Hid (∀ w', Below W.heap.size W w' → (w'.cell? ⟨w.heap.size, 0, none⟩ = some (.string ⟨nm.toArray⟩) ∧ w'.cell? ⟨w.heap.size, 1, none⟩ = some (.slice sa ns sc) ∧ w'.cell? ⟨w.heap.size, 2, none⟩ = some (.slice ra nr rc) ∧ w'.cell? ⟨w.heap.size, 3, none⟩ = some (.slice ya ny yc)) ∧ (w'.cell? ⟨w.heap.size + 1, 0, none⟩ = some (.string ⟨#[]⟩) ∧ w'.cell? ⟨w.heap.size + 1, 1, none⟩ = some (.slice none 0 0) ∧ w'.cell? ⟨w.heap.size + 1, 2, none⟩ = some (.slice none 0 0) ∧ w'.cell? ⟨w.heap.size + 1, 3, none⟩ = some (.slice none 0 0) ∧ w'.frozen? ⟨w.heap.size + 1, 0, none⟩ = false ∧ w'.frozen? ⟨w.heap.size + 1, 1, none⟩ = false ∧ w'.frozen? ⟨w.heap.size + 1, 2, none⟩ = false ∧ w'.frozen? ⟨w.heap.size + 1, 3, none⟩ = false)) := by
    refine Lib.hid (fun w' hb => ?_)
    have a := K0.out.after hb
    have b := K1.out.after hb
    exact ⟨⟨a.cell 0, a.cell 1, a.cell 2, a.cell 3⟩, b.cell 0, b.cell 1, b.cell 2, b.cell 3, b.frozen 0, b.frozen 1, b.frozen 2, b.frozen 3⟩
  go_region_held3 (fun w' => w'.cell? ⟨w.heap.size, 0, none⟩ = some (.string ⟨nm.toArray⟩) ∧ w'.cell? ⟨w.heap.size, 1, none⟩ = some (.slice sa ns sc) ∧ w'.cell? ⟨w.heap.size, 2, none⟩ = some (.slice ra nr rc) ∧ w'.cell? ⟨w.heap.size, 3, none⟩ = some (.slice ya ny yc)) (first | exact (KC.out _ Q3.out).1 | exact (KC.out _ Q2.out).1 | exact (KC.out _ Q1.out).1 | exact (KC.out _ (below_drew (Below.refl _ _))).1 | go_keep) (first
    | (go_at_call 58; (with_reducible refine (C3.out _ (keep_trans HW0.out Q2.out)).mono ?_); rintro e' w3 ⟨A3, c3, rfl, hc3, hO3, hb⟩; have Q3 := Lib.hid (keep_trans Q2.out hb); have O33 := Lib.hid hO3.out; have O23 := Lib.hid (own_after O22.out hb); have O13 := Lib.hid (own_after O12.out hb); obtain ⟨-, x0, x1, x2, x3, y0, y1, y2, y3⟩ := KC.out _ Q3.out; clear hb hO3)
    | (go_at_call 58; (with_reducible refine (C2.out _ (keep_trans HW0.out Q1.out)).mono ?_); rintro e' w2 ⟨A2, c2, rfl, hc2, hO2, hb⟩; have Q2 := Lib.hid (keep_trans Q1.out hb); have O22 := Lib.hid hO2.out; have O12 := Lib.hid (own_after O11.out hb); clear hb hO2)
    | (go_at_call 45; (with_reducible refine (C1.out _ (below_drew HW0.out)).mono ?_); rintro e' w1 ⟨A1, c1, rfl, hc1, hO1, hb⟩; have Q1 : Hid (Below W.heap.size W w1) := Lib.hid (keep_trans (below_drew (Below.refl _ W)) hb); have O11 := Lib.hid hO1.out; clear hb hO1)
    | fail)
  have KF := Lib.hid (((((K1.out.after Q3.out).set_ 0 (.string ⟨nm.toArray⟩)).set_ 1 (.slice A1 ns c1)).set_ 2 (.slice A2 nr c2)).set_ 3 (.slice A3 ny c3))
  have hz := K1.out.lt
  have z1 := Q1.out.size
  have z2 := Q2.out.size
  go_wp2
  refine bodyPost_ret (v := .agg #[.string ⟨nm.toArray⟩, .slice A1 ns c1, .slice A2 nr c2, .slice A3 ny c3]) (rt_read rfl KF.out) rfl ?_
  obtain ⟨e1, e2, e3⟩ := EE.out
  subst e1 e2 e3
  refine ⟨A1, A2, A3, c1, c2, c3, rfl, ⟨own_in4 O13.out (by show _ < W.heap.size; omega) (by show _ ≤ W.heap.size; omega), own_in4 O23.out (by omega) (by omega), own_in4 O33.out (by omega) (by omega)⟩, ?_⟩
  exact below_set1 (below_set1 (below_set1 (below_set1 (keep_trans HW0.out Q3.out) (by simp) _) (by simp) _) (by simp) _) (by simp) _
/-- rows of the call's own beyond B; those of routes are apart -/
structure OwX (w : World) (B s : Nat) (x : SheetM) (v1 v2 v3 v4 v5 v6 : Value) : Prop where
  r1 : w.ownsRow (B + 1) 9 1 v1 x.stops.length (cs strC x.stops)
  r2 : w.ownsRow (B + 1) 65 4 v2 x.paths.length (cs paC x.paths)
  r3 : w.ownsRow (B + 1) 55 7 v3 x.doors.length (cs doC x.doors)
  r4 : ∃ c, w.ownsRow (B + 1) 72 4 v4 x.routes.length c ∧ Rtx w (Away w B [v1, v2, v3, v4, v5, v6, bxV s]) x.routes c
  r5 : w.ownsRow (B + 1) 67 5 v5 x.trips.length (cs trC x.trips)
  r6 : w.ownsRow (B + 1) 78 5 v6 x.hazards.length (cs haC x.hazards)
theorem OwX.keep {w w' : World} {B s : Nat} {x : SheetM} {v1 v2 v3 v4 v5 v6 : Value} (h : OwX w B s x v1 v2 v3 v4 v5 v6) {X : Nat → Prop} (hc : Ch X w w') (h1 : ∀ v ∈ [v1, v2, v3, v4, v5, v6], ∀ k, v.ownBlock = some k → ¬ X k) (h2 : ∀ b, Away w B [v1, v2, v3, v4, v5, v6, bxV s] b → ¬ X b) : OwX w' B s x v1 v2 v3 v4 v5 v6 := by
  obtain ⟨c, h4, h4'⟩ := h.r4
  exact ⟨hc.own h.r1 (h1 _ (by simp)), hc.own h.r2 (h1 _ (by simp)), hc.own h.r3 (h1 _ (by simp)), ⟨c, hc.own h4 (h1 _ (by simp)), (h4'.keep fun b hb => hc.block b hb.2.1 (h2 b hb)).more fun b hb => hb.on hc.size fun _ h => .inl h⟩, hc.own h.r5 (h1 _ (by simp)), hc.own h.r6 (h1 _ (by simp))⟩
theorem OwX.after {w w' : World} {B s : Nat} {x : SheetM} {v1 v2 v3 v4 v5 v6 : Value} (h : OwX w B s x v1 v2 v3 v4 v5 v6) (hb : Below w.heap.size w w') : OwX w' B s x v1 v2 v3 v4 v5 v6 :=
  h.keep (Ch.of_below (X := fun _ => False) hb) (fun _ _ _ _ h => h) (fun _ _ h => h)
/-- what lies at or below B is changed -/
theorem OwX.low {w w' : World} {B s : Nat} {x : SheetM} {v1 v2 v3 v4 v5 v6 : Value} (h : OwX w B s x v1 v2 v3 v4 v5 v6) {X : Nat → Prop} (hc : Ch X w w') (hX : ∀ k, X k → k ≤ B) : OwX w' B s x v1 v2 v3 v4 v5 v6 := by
  obtain ⟨c, h4, h4'⟩ := h.r4
  refine h.keep hc ?_ (fun b hb e => by have := hX b e; have := hb.1; omega)
  intro v hv k hk e
  have := hX k e
  simp only [List.mem_cons, List.not_mem_nil, or_false] at hv
  rcases hv with rfl | rfl | rfl | rfl | rfl | rfl
  · have := (h.r1.lt k hk).1; omega
  · have := (h.r2.lt k hk).1; omega
  · have := (h.r3.lt k hk).1; omega
  · have := (h4.lt k hk).1; omega
  · have := (h.r5.lt k hk).1; omega
  · have := (h.r6.lt k hk).1; omega
/-- the box is written -/
theorem OwX.box {w w' : World} {B s : Nat} {x : SheetM} {v1 v2 v3 v4 v5 v6 : Value} {l : List Value} (h : OwX w B s x v1 v2 v3 v4 v5 v6) (hk : Blk w s 44 l) (hc : Ch (· = s) w w') : OwX w' B s x v1 v2 v3 v4 v5 v6 := by
  obtain ⟨c, h4, h4'⟩ := h.r4
  refine h.keep hc ?_ (fun b hb e => hb.2.2 (bxV s) (by simp) (by rw [e]; rfl))
  intro v hv
  simp only [List.mem_cons, List.not_mem_nil, or_false] at hv
  rcases hv with rfl | rfl | rfl | rfl | rfl | rfl
  · exact own_ne_blk h.r1 hk (by decide)
  · exact own_ne_blk h.r2 hk (by decide)
  · exact own_ne_blk h.r3 hk (by decide)
  · exact own_ne_blk h4 hk (by decide)
  · exact own_ne_blk h.r5 hk (by decide)
  · exact own_ne_blk h.r6 hk (by decide)
/-- a route more -/
theorem OwX.route {w0 w1 w2 w3 : World} {B s : Nat} {x : SheetM} {v1 v2 v3 v4 v5 v6 v4' : Value} {r : RouteM} {sa ra ya : Option Addr} {sc rc yc : Nat} {l c : List Value}
    (h : OwX w0 B s x v1 v2 v3 v4 v5 v6) (h4 : w0.ownsRow (B + 1) 72 4 v4 x.routes.length c) (h4' : Rtx w0 (Away w0 B [v1, v2, v3, v4, v5, v6, bxV s]) x.routes c) (hs : Blk w0 s 44 l) (hB : B < w0.heap.size)
    (h1 : Below w0.heap.size w0 w1) (hr : RtX w1 (fun b => w0.heap.size ≤ b ∧ b < w1.heap.size) r sa ra ya sc rc yc) (h2 : Below w1.heap.size w1 w2)
    (h3 : w3.ownsRow (B + 1) 72 4 v4' (x.routes.length + 1) (c ++ [.string ⟨r.name.toArray⟩, .slice sa r.stops.length sc, .slice ra r.rides.length rc, .slice ya r.stays.length yc]))
    (hg : w2.grownBy w3 v4.ownBlock) (hor : v4'.ownBlock = v4.ownBlock ∨ v4'.ownBlock = some w2.heap.size) :
    OwX (w3.setCell ⟨s, 4, none⟩ v4') B s { x with routes := x.routes ++ [r] } v1 v2 v3 v4' v5 v6 ∧ Blk (w3.setCell ⟨s, 4, none⟩ v4') s 44 (l.set 4 v4') := by
  have hw : Below w0.heap.size w0 w2 := keep_trans h1 h2
  have g2 := h.after hw
  have k2 := hs.after hw
  have o4 := own_after h4 hw
  have hX : Ch (fun b => some b = v4.ownBlock) w2 w3 := Ch.of_grown hg fun k e => e
  have f : ∀ {e size n : Nat} {v : Value} {xs : List Value}, e ≠ 72 → w2.ownsRow (B + 1) e size v n xs → w3.ownsRow (B + 1) e size v n xs := fun hne ho => hX.own ho fun k hk e => own_ne ho o4 hne k hk e.symm
  have k3 := hX.blk k2 fun e => own_ne_blk o4 k2 (by decide) s e.symm rfl
  have hsz := h1.size
  have hsz2 := h2.size
  have hsz3 := hX.size
  have hlt := hs.lt
  have hb : ∀ b, w0.heap.size ≤ b ∧ b < w1.heap.size → w3.heap[b]? = w1.heap[b]? := fun b hb => (hX.block b (by omega) (fun e => by have := (h4.lt b e.symm).2; omega)).trans (h2.block b hb.2)
  have ro : Rtx w3 (Away w0 B [v1, v2, v3, v4, v5, v6, bxV s]) x.routes c := h4'.keep fun b hb => (hX.block b (by have := hb.2.1; omega) fun e => hb.2.2 v4 (by simp) e.symm).trans (hw.block b hb.2.1)
  have rn : Rtx w3 (fun b => w0.heap.size ≤ b ∧ b < w1.heap.size) [r] [.string ⟨r.name.toArray⟩, .slice sa r.stops.length sc, .slice ra r.rides.length rc, .slice ya r.stays.length yc] := ⟨sa, sc, ra, rc, ya, yc, [], rfl, hr.keep hb, rfl⟩
  have ra' := (Rtx.snoc rn (fun b hb ht => by have := hb.2.1; omega) ro).more (S' := Away w3 B [v1, v2, v3, v4', v5, v6, bxV s]) fun b hb => by
    rcases hb with hb | hb
    · refine hb.on (by omega) ?_
      intro v' hv'
      simp only [List.mem_cons, List.not_mem_nil, or_false] at hv'
      rcases hv' with rfl | rfl | rfl | rfl | rfl | rfl | rfl
      · exact .inl (by simp)
      · exact .inl (by simp)
      · exact .inl (by simp)
      · refine .inr ⟨v4, by simp, ?_⟩
        rcases hor with e | e
        · exact .inl e
        · exact .inr ⟨_, e, by omega⟩
      · exact .inl (by simp)
      · exact .inl (by simp)
      · exact .inl (by simp)
    · refine ⟨by omega, by omega, fun v hv e => ?_⟩
      simp only [List.mem_cons, List.not_mem_nil, or_false] at hv
      rcases hv with rfl | rfl | rfl | rfl | rfl | rfl | rfl
      · have := (h.r1.lt b e).2; omega
      · have := (h.r2.lt b e).2; omega
      · have := (h.r3.lt b e).2; omega
      · rcases hor with e2 | e2
        · rw [e2] at e; have := (h4.lt b e).2; omega
        · rw [e2] at e; injection e with e; omega
      · have := (h.r5.lt b e).2; omega
      · have := (h.r6.lt b e).2; omega
      · have e2 : (some s : Option Nat) = some b := e
        injection e2 with e2
        omega
  have g3 : OwX w3 B s { x with routes := x.routes ++ [r] } v1 v2 v3 v4' v5 v6 :=
    ⟨f (by decide) g2.r1, f (by decide) g2.r2, f (by decide) g2.r3, ⟨_, by simpa using h3, ra'⟩, f (by decide) g2.r5, f (by decide) g2.r6⟩
  exact ⟨g3.box k3 (ch_set w3 s 4 v4'), k3.set_ 4 v4'⟩
end Go.Proofs.YtgdanbfglefiiaaGreat.Sh
