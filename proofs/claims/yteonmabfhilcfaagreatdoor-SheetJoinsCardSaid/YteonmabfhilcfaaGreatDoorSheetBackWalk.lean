/- A sheet that may be is read from its lines, and each of its lines alone: walked. Conditions: the library's variables hold what start-up lays. -/
import Derived.Test.YteonmabfhilcfaaGreatDoorSheetLessWalk
import Derived.Deep.RegionHeldLaw
import Derived.Deep.CutRange
namespace Go.Proofs.YteonmabfhilcfaaGreatDoor.Sh
open Go.ChangeShapes Go.WideShapes Go.ChangeAt Go.RowKit
open Lx
set_option linter.unusedVariables false
set_option linter.unusedSimpArgs false
/-- what is read, and where it lies; lo: the blocks that it lies in are lo and more -/
def PQ (R : PR SheetM) (lo hi : Nat) (w : World) (a0 a1 a2 a3 a4 a5 a6 b0 b1 b2 : Value) : Prop := match R with
  | .bad e l c => [a0, a1, a2, a3, a4, a5, a6] = [.int .i64 0, .slice none 0 0, .slice none 0 0, .slice none 0 0, .slice none 0 0, .slice none 0 0, .slice none 0 0] ∧ [b0, b1, b2] = [.int .i64 e, .int .i64 l, .int .i64 c]
  | .ok X _ => ∃ p : ShA, [a0, a1, a2, a3, a4, a5, a6] = shL' X p ∧ [b0, b1, b2] = [.int .i64 0, .int .i64 0, .int .i64 0] ∧ Sh w (fun b => lo ≤ b ∧ b < hi) X p
def PQPost (R : PR SheetM) (w : World) (e : Ending) (w' : World) : Prop := ∃ (uh : Int) (uA1 uA2 uA3 uA4 uA5 uA6 : Option Addr) (un1 un2 un3 un4 un5 un6 uc1 uc2 uc3 uc4 uc5 uc6 : Nat) (ue ul uk : Int), e = .returned (.tuple #[.agg #[.int .i64 uh, .slice uA1 un1 uc1, .slice uA2 un2 uc2, .slice uA3 un3 uc3, .slice uA4 un4 uc4, .slice uA5 un5 uc5, .slice uA6 un6 uc6], .agg #[.int .i64 ue, .int .i64 ul, .int .i64 uk]]) ∧ PQ R w.heap.size w'.heap.size w' (.int .i64 uh) (.slice uA1 un1 uc1) (.slice uA2 un2 uc2) (.slice uA3 un3 uc3) (.slice uA4 un4 uc4) (.slice uA5 un5 uc5) (.slice uA6 un6 uc6) (.int .i64 ue) (.int .i64 ul) (.int .i64 uk) ∧ Below w.heap.size w w'
theorem pq_of {R : PR SheetM} {w : World} {e : Ending} {w' : World} (h : ParsePost w R e w') : PQPost R w e w' := by
  cases R with
  | bad er l c => obtain ⟨rfl, hb⟩ := h; exact ⟨0, none, none, none, none, none, none, 0, 0, 0, 0, 0, 0, 0, 0, 0, 0, 0, 0, er, l, c, rfl, ⟨rfl, rfl⟩, hb⟩
  | ok X r => obtain ⟨p, _, rfl, hs, hb⟩ := h; exact ⟨X.horizon, p.a1, p.a2, p.a3, p.a4, p.a5, p.a6, X.stops.length, X.paths.length, X.doors.length, X.routes.length, X.trips.length, X.hazards.length, p.c1, p.c2, p.c3, p.c4, p.c5, p.c6, 0, 0, 0, rfl, ⟨p, rfl, rfl, hs⟩, hb⟩
theorem PQ.keep {R : PR SheetM} {lo hi : Nat} {w w' : World} {a0 a1 a2 a3 a4 a5 a6 b0 b1 b2 : Value} (h : PQ R lo hi w a0 a1 a2 a3 a4 a5 a6 b0 b1 b2) (hk : ∀ b, lo ≤ b → b < hi → w'.heap[b]? = w.heap[b]?) : PQ R lo hi w' a0 a1 a2 a3 a4 a5 a6 b0 b1 b2 := by
  cases R with
  | bad er l c => exact h
  | ok X r => obtain ⟨p, h1, h2, hs⟩ := h; exact ⟨p, h1, h2, hs.keep fun b hb => hk b hb.1 hb.2⟩
def sto7 (w : World) (s : Nat) (v0 v1 v2 v3 v4 v5 v6 : Value) : World := ((((((w.setCell ⟨s, 0, none⟩ v0).setCell ⟨s, 1, none⟩ v1).setCell ⟨s, 2, none⟩ v2).setCell ⟨s, 3, none⟩ v3).setCell ⟨s, 4, none⟩ v4).setCell ⟨s, 5, none⟩ v5).setCell ⟨s, 6, none⟩ v6
def sto3 (w : World) (s : Nat) (v0 v1 v2 : Value) : World := ((w.setCell ⟨s, 0, none⟩ v0).setCell ⟨s, 1, none⟩ v1).setCell ⟨s, 2, none⟩ v2
section
variable {w : World} {s : Nat} {v0 v1 v2 v3 v4 v5 v6 : Value}
theorem sto7_below {B : Nat} {a : World} (h : Below B a w) (hs : B ≤ s) : Below B a (sto7 w s v0 v1 v2 v3 v4 v5 v6) := below_set (p := ⟨s, 6, none⟩) (below_set (p := ⟨s, 5, none⟩) (below_set (p := ⟨s, 4, none⟩) (below_set (p := ⟨s, 3, none⟩) (below_set (p := ⟨s, 2, none⟩) (below_set (p := ⟨s, 1, none⟩) (below_set (p := ⟨s, 0, none⟩) (h) hs _) hs _) hs _) hs _) hs _) hs _) hs _
theorem sto3_below {B : Nat} {a : World} (h : Below B a w) (hs : B ≤ s) : Below B a (sto3 w s v0 v1 v2) := below_set (p := ⟨s, 2, none⟩) (below_set (p := ⟨s, 1, none⟩) (below_set (p := ⟨s, 0, none⟩) (h) hs _) hs _) hs _
theorem sto7_size : (sto7 w s v0 v1 v2 v3 v4 v5 v6).heap.size = w.heap.size := by simp [sto7]
theorem sto3_size : (sto3 w s v0 v1 v2).heap.size = w.heap.size := by simp [sto3]
theorem sto7_blk {t : TypeId} {l : List Value} (h : Blk w s t l) : Blk (sto7 w s v0 v1 v2 v3 v4 v5 v6) s t (((((((l.set 0 v0).set 1 v1).set 2 v2).set 3 v3).set 4 v4).set 5 v5).set 6 v6) := ((((((h.set_ 0 v0).set_ 1 v1).set_ 2 v2).set_ 3 v3).set_ 4 v4).set_ 5 v5).set_ 6 v6
theorem sto3_blk {t : TypeId} {l : List Value} (h : Blk w s t l) : Blk (sto3 w s v0 v1 v2) s t (((l.set 0 v0).set 1 v1).set 2 v2) := ((h.set_ 0 v0).set_ 1 v1).set_ 2 v2
theorem sto7_far {g : Nat} {t : TypeId} {l : List Value} (h : Blk w g t l) (hg : g ≠ s) : Blk (sto7 w s v0 v1 v2 v3 v4 v5 v6) g t l := ((((((h.far (p := ⟨s, 0, none⟩) hg v0).far (p := ⟨s, 1, none⟩) hg v1).far (p := ⟨s, 2, none⟩) hg v2).far (p := ⟨s, 3, none⟩) hg v3).far (p := ⟨s, 4, none⟩) hg v4).far (p := ⟨s, 5, none⟩) hg v5).far (p := ⟨s, 6, none⟩) hg v6
theorem sto3_far {g : Nat} {t : TypeId} {l : List Value} (h : Blk w g t l) (hg : g ≠ s) : Blk (sto3 w s v0 v1 v2) g t l := ((h.far (p := ⟨s, 0, none⟩) hg v0).far (p := ⟨s, 1, none⟩) hg v1).far (p := ⟨s, 2, none⟩) hg v2
theorem sto7_keep {k : Nat} (h : k ≠ s) : (sto7 w s v0 v1 v2 v3 v4 v5 v6).heap[k]? = w.heap[k]? := by
  unfold sto7
  rw [Below.heap_setCell _ _ _ _ (by exact h), Below.heap_setCell _ _ _ _ (by exact h), Below.heap_setCell _ _ _ _ (by exact h), Below.heap_setCell _ _ _ _ (by exact h), Below.heap_setCell _ _ _ _ (by exact h), Below.heap_setCell _ _ _ _ (by exact h), Below.heap_setCell _ _ _ _ (by exact h)]
theorem sto3_keep {k : Nat} (h : k ≠ s) : (sto3 w s v0 v1 v2).heap[k]? = w.heap[k]? := by
  unfold sto3
  rw [Below.heap_setCell _ _ _ _ (by exact h), Below.heap_setCell _ _ _ _ (by exact h), Below.heap_setCell _ _ _ _ (by exact h)]
end
theorem parse_pq {s : ByteArray} {R : PR SheetM} (h : parseT s = R) (w : World) (hE : Tk.Env w) : Calls Tryz.prog 9 #[.string s] w (PQPost R w) := by
  subst h
  exact (parse_any s w hE).mono fun _ _ h => pq_of h
set_option maxRecDepth 100000 in
set_option maxHeartbeats 2000000 in
theorem back_dark (x : SheetM) (p : ShA) (at_ : Int) (w : World) (hE : Tk.Env w) (hsh : Sh w (· < w.heap.size) x p) (hl : lightM x = false) :
    Calls Tryz.prog 4 #[shV x p, .int .i64 at_] w fun e w' => e = .returned (.bool true) ∧ Below w.heap.size w w' := by
  have H := Lib.hid (fun w' (h : Below w.heap.size w w') => lives_any w' (hE.on h))
  have CL : Hid (∀ w', Below w.heap.size w w' → Calls Tryz.prog 13 #[(.agg #[.int .i64 x.horizon, .slice p.a1 x.stops.length p.c1, .slice p.a2 x.paths.length p.c2, .slice p.a3 x.doors.length p.c3, .slice p.a4 x.routes.length p.c4, .slice p.a5 x.trips.length p.c5, .slice p.a6 x.hazards.length p.c6]), .int .i64 60] w' (BPost w' false)) := Lib.hid (fun w' h => by have := light_any x p w' (hsh.later h); rw [hl] at this; exact this)
  clear hE hsh hl
  show Calls _ _ #[(.agg #[.int .i64 x.horizon, .slice p.a1 x.stops.length p.c1, .slice p.a2 x.paths.length p.c2, .slice p.a3 x.doors.length p.c3, .slice p.a4 x.routes.length p.c4, .slice p.a5 x.trips.length p.c5, .slice p.a6 x.hazards.length p.c6]), .int .i64 at_] _ _
  go_enter Tryz.func4, Tryz.ntmps4
  go_wp2_with (first
    | (go_at_call 10; refine (H.out _ (one_box _ _)).mono ?_; rintro e' w1 ⟨rfl, hb⟩; have G1 := Lib.hid (keep_trans (one_box w _) hb); have K1 := Lib.hid ((Blk.new w 29 (shL' x p)).after hb); have u0 : w1.cell? ⟨w.heap.size, 0, none⟩ = some (.int .i64 x.horizon) := K1.out.cell 0; have u1 : w1.cell? ⟨w.heap.size, 1, none⟩ = some (.slice p.a1 x.stops.length p.c1) := K1.out.cell 1; have u2 : w1.cell? ⟨w.heap.size, 2, none⟩ = some (.slice p.a2 x.paths.length p.c2) := K1.out.cell 2; have u3 : w1.cell? ⟨w.heap.size, 3, none⟩ = some (.slice p.a3 x.doors.length p.c3) := K1.out.cell 3; have u4 : w1.cell? ⟨w.heap.size, 4, none⟩ = some (.slice p.a4 x.routes.length p.c4) := K1.out.cell 4; have u5 : w1.cell? ⟨w.heap.size, 5, none⟩ = some (.slice p.a5 x.trips.length p.c5) := K1.out.cell 5; have u6 : w1.cell? ⟨w.heap.size, 6, none⟩ = some (.slice p.a6 x.hazards.length p.c6) := K1.out.cell 6; clear hb)
    | (go_at_call 13; (with_reducible refine (CL.out _ G1.out).mono ?_); rintro e' w2 ⟨rfl, hb⟩; have G2 := Lib.hid (keep_trans G1.out hb); clear hb)
    | fail)
  go_ret
  exact ⟨rfl, G2.out⟩
set_option maxRecDepth 100000 in
set_option maxHeartbeats 2000000 in
theorem back_not (x : SheetM) (p : ShA) (at_ : Int) (w : World) (hE : Tk.Env w) (hsh : Sh w (· < w.heap.size) x p) (hl : lightM x = true) (hc : checkM x ≠ 0) :
    Calls Tryz.prog 4 #[shV x p, .int .i64 at_] w fun e w' => e = .returned (.bool true) ∧ Below w.heap.size w w' := by
  have H := Lib.hid (fun w' (h : Below w.heap.size w w') => lives_any w' (hE.on h))
  have CL : Hid (∀ w', Below w.heap.size w w' → Calls Tryz.prog 13 #[(.agg #[.int .i64 x.horizon, .slice p.a1 x.stops.length p.c1, .slice p.a2 x.paths.length p.c2, .slice p.a3 x.doors.length p.c3, .slice p.a4 x.routes.length p.c4, .slice p.a5 x.trips.length p.c5, .slice p.a6 x.hazards.length p.c6]), .int .i64 60] w' (BPost w' true)) := Lib.hid (fun w' h => by have := light_any x p w' (hsh.later h); rw [hl] at this; exact this)
  have CR : Hid (∀ w', Below w.heap.size w w' → Calls Tryz.prog 14 #[(.agg #[.int .i64 x.horizon, .slice p.a1 x.stops.length p.c1, .slice p.a2 x.paths.length p.c2, .slice p.a3 x.doors.length p.c3, .slice p.a4 x.routes.length p.c4, .slice p.a5 x.trips.length p.c5, .slice p.a6 x.hazards.length p.c6])] w' (fun e w'' => e = .returned (.int .i64 (checkM x)) ∧ Below w'.heap.size w' w'')) := Lib.hid (fun w' h => refcheck_any x p w' (hsh.later h) (lt_of hl))
  clear hE hsh hl
  generalize checkM x = C at *
  have hcb : (C == 0) = false := by rw [beq_eq_false_iff_ne]; exact hc
  show Calls _ _ #[(.agg #[.int .i64 x.horizon, .slice p.a1 x.stops.length p.c1, .slice p.a2 x.paths.length p.c2, .slice p.a3 x.doors.length p.c3, .slice p.a4 x.routes.length p.c4, .slice p.a5 x.trips.length p.c5, .slice p.a6 x.hazards.length p.c6]), .int .i64 at_] _ _
  go_enter Tryz.func4, Tryz.ntmps4
  go_wp2_with (first
    | (go_at_call 10; refine (H.out _ (one_box _ _)).mono ?_; rintro e' w1 ⟨rfl, hb⟩; have G1 := Lib.hid (keep_trans (one_box w _) hb); have K1 := Lib.hid ((Blk.new w 29 (shL' x p)).after hb); have u0 : w1.cell? ⟨w.heap.size, 0, none⟩ = some (.int .i64 x.horizon) := K1.out.cell 0; have u1 : w1.cell? ⟨w.heap.size, 1, none⟩ = some (.slice p.a1 x.stops.length p.c1) := K1.out.cell 1; have u2 : w1.cell? ⟨w.heap.size, 2, none⟩ = some (.slice p.a2 x.paths.length p.c2) := K1.out.cell 2; have u3 : w1.cell? ⟨w.heap.size, 3, none⟩ = some (.slice p.a3 x.doors.length p.c3) := K1.out.cell 3; have u4 : w1.cell? ⟨w.heap.size, 4, none⟩ = some (.slice p.a4 x.routes.length p.c4) := K1.out.cell 4; have u5 : w1.cell? ⟨w.heap.size, 5, none⟩ = some (.slice p.a5 x.trips.length p.c5) := K1.out.cell 5; have u6 : w1.cell? ⟨w.heap.size, 6, none⟩ = some (.slice p.a6 x.hazards.length p.c6) := K1.out.cell 6; clear hb)
    | (go_at_call 13; (with_reducible refine (CL.out _ G1.out).mono ?_); rintro e' w2 ⟨rfl, hb⟩; have G2 := Lib.hid (keep_trans G1.out hb); have K2 := Lib.hid (K1.out.after hb); have v0 : w2.cell? ⟨w.heap.size, 0, none⟩ = some (.int .i64 x.horizon) := K2.out.cell 0; have v1 : w2.cell? ⟨w.heap.size, 1, none⟩ = some (.slice p.a1 x.stops.length p.c1) := K2.out.cell 1; have v2 : w2.cell? ⟨w.heap.size, 2, none⟩ = some (.slice p.a2 x.paths.length p.c2) := K2.out.cell 2; have v3 : w2.cell? ⟨w.heap.size, 3, none⟩ = some (.slice p.a3 x.doors.length p.c3) := K2.out.cell 3; have v4 : w2.cell? ⟨w.heap.size, 4, none⟩ = some (.slice p.a4 x.routes.length p.c4) := K2.out.cell 4; have v5 : w2.cell? ⟨w.heap.size, 5, none⟩ = some (.slice p.a5 x.trips.length p.c5) := K2.out.cell 5; have v6 : w2.cell? ⟨w.heap.size, 6, none⟩ = some (.slice p.a6 x.hazards.length p.c6) := K2.out.cell 6; clear hb)
    | (go_at_call 14; (with_reducible refine (CR.out _ G2.out).mono ?_); rintro e' w3 ⟨rfl, hb⟩; have G3 := Lib.hid (keep_trans G2.out hb); clear hb)
    | fail)
  go_ret
  exact ⟨rfl, G3.out⟩

set_option maxRecDepth 100000 in
set_option maxHeartbeats 40000000 in
theorem back_ok (x : SheetM) (p : ShA) (at_ : Int) (w : World) (hE : Tk.Env w) (h0 : -9223372036854775808 ≤ at_) (h1 : at_ ≤ 9223372036854775807) (hsh : Sh w (· < w.heap.size) x p) (hl : lightM x = true) (hx : May x) :
    Calls Tryz.prog 4 #[shV x p, .int .i64 at_] w fun e w' => e = .returned (.bool true) ∧ Below w.heap.size w w' := by
  have HE := Lib.hid hE
  have HX := Lib.hid hx
  have HSH := Lib.hid hsh
  have H := Lib.hid (fun w' (h : Below w.heap.size w w') => lives_any w' (hE.on h))
  have CL : Hid (∀ w', Below w.heap.size w w' → Calls Tryz.prog 13 #[(.agg #[.int .i64 x.horizon, .slice p.a1 x.stops.length p.c1, .slice p.a2 x.paths.length p.c2, .slice p.a3 x.doors.length p.c3, .slice p.a4 x.routes.length p.c4, .slice p.a5 x.trips.length p.c5, .slice p.a6 x.hazards.length p.c6]), .int .i64 60] w' (BPost w' true)) := Lib.hid (fun w' h => by have := light_any x p w' (hsh.later h); rw [hl] at this; exact this)
  have CR : Hid (∀ w', Below w.heap.size w w' → Calls Tryz.prog 14 #[(.agg #[.int .i64 x.horizon, .slice p.a1 x.stops.length p.c1, .slice p.a2 x.paths.length p.c2, .slice p.a3 x.doors.length p.c3, .slice p.a4 x.routes.length p.c4, .slice p.a5 x.trips.length p.c5, .slice p.a6 x.hazards.length p.c6])] w' (fun e w'' => e = .returned (.int .i64 0) ∧ Below w'.heap.size w' w'')) := Lib.hid (fun w' h => by have := refcheck_any x p w' (hsh.later h) (lt_of hl); rw [hx.check] at this; exact this)
  obtain ⟨LL, hLL⟩ : ∃ L, L = linesT x := ⟨_, rfl⟩
  obtain ⟨T, hT⟩ : ∃ T : Nat, T = x.stops.length + x.paths.length + x.doors.length + x.routes.length + x.trips.length + x.hazards.length := ⟨_, rfl⟩
  have CN : Hid (∀ w', Below w.heap.size w w' → Calls Tryz.prog 15 #[(.agg #[.int .i64 x.horizon, .slice p.a1 x.stops.length p.c1, .slice p.a2 x.paths.length p.c2, .slice p.a3 x.doors.length p.c3, .slice p.a4 x.routes.length p.c4, .slice p.a5 x.trips.length p.c5, .slice p.a6 x.hazards.length p.c6])] w' (LnPost w' LL)) := Lib.hid (fun w' h => by rw [hLL]; exact lines_any x p w' (hsh.later h) hx)
  have CT : Hid (∀ w', Calls Tryz.prog 11 #[(.agg #[.int .i64 x.horizon, .slice p.a1 x.stops.length p.c1, .slice p.a2 x.paths.length p.c2, .slice p.a3 x.doors.length p.c3, .slice p.a4 x.routes.length p.c4, .slice p.a5 x.trips.length p.c5, .slice p.a6 x.hazards.length p.c6])] w' (fun e w'' => e = .returned (.int .i64 (T : Int)) ∧ Below w'.heap.size w' w'')) := Lib.hid (fun w' => by rw [hT]; exact things_any x p w' (mayfew hx))
  have hlen : LL.length = T + 1 := by rw [hLL, hT, lines_len]
  have hT3 : T ≤ 360 := by
    have q := lt_of hl
    have := q.l1; have := q.l2; have := q.l3; have := q.l4; have := q.l5; have := q.l6
    omega
  have hshort : ∀ l ∈ LL, l.length ≤ 4000 := by rw [hLL]; exact lines_short hx
  have HLL := Lib.hid hLL
  have HLEN := Lib.hid hlen
  have HSHORT := Lib.hid hshort
  clear hE hsh hl hx hLL hT hlen hshort
  show Calls _ _ #[(.agg #[.int .i64 x.horizon, .slice p.a1 x.stops.length p.c1, .slice p.a2 x.paths.length p.c2, .slice p.a3 x.doors.length p.c3, .slice p.a4 x.routes.length p.c4, .slice p.a5 x.trips.length p.c5, .slice p.a6 x.hazards.length p.c6]), .int .i64 at_] _ _
  go_enter Tryz.func4, Tryz.ntmps4
  go_wp2_with (first
    | (go_at_call 10; refine (H.out _ (one_box _ _)).mono ?_; rintro e' w1 ⟨rfl, hb⟩; have G1 := Lib.hid (keep_trans (one_box w _) hb); have K1 := Lib.hid ((Blk.new w 29 (shL' x p)).after hb); have u0 : w1.cell? ⟨w.heap.size, 0, none⟩ = some (.int .i64 x.horizon) := K1.out.cell 0; have u1 : w1.cell? ⟨w.heap.size, 1, none⟩ = some (.slice p.a1 x.stops.length p.c1) := K1.out.cell 1; have u2 : w1.cell? ⟨w.heap.size, 2, none⟩ = some (.slice p.a2 x.paths.length p.c2) := K1.out.cell 2; have u3 : w1.cell? ⟨w.heap.size, 3, none⟩ = some (.slice p.a3 x.doors.length p.c3) := K1.out.cell 3; have u4 : w1.cell? ⟨w.heap.size, 4, none⟩ = some (.slice p.a4 x.routes.length p.c4) := K1.out.cell 4; have u5 : w1.cell? ⟨w.heap.size, 5, none⟩ = some (.slice p.a5 x.trips.length p.c5) := K1.out.cell 5; have u6 : w1.cell? ⟨w.heap.size, 6, none⟩ = some (.slice p.a6 x.hazards.length p.c6) := K1.out.cell 6; clear hb)
    | (go_at_call 13; (with_reducible refine (CL.out _ G1.out).mono ?_); rintro e' w2 ⟨rfl, hb⟩; have G2 := Lib.hid (keep_trans G1.out hb); have K2 := Lib.hid (K1.out.after hb); have v0 : w2.cell? ⟨w.heap.size, 0, none⟩ = some (.int .i64 x.horizon) := K2.out.cell 0; have v1 : w2.cell? ⟨w.heap.size, 1, none⟩ = some (.slice p.a1 x.stops.length p.c1) := K2.out.cell 1; have v2 : w2.cell? ⟨w.heap.size, 2, none⟩ = some (.slice p.a2 x.paths.length p.c2) := K2.out.cell 2; have v3 : w2.cell? ⟨w.heap.size, 3, none⟩ = some (.slice p.a3 x.doors.length p.c3) := K2.out.cell 3; have v4 : w2.cell? ⟨w.heap.size, 4, none⟩ = some (.slice p.a4 x.routes.length p.c4) := K2.out.cell 4; have v5 : w2.cell? ⟨w.heap.size, 5, none⟩ = some (.slice p.a5 x.trips.length p.c5) := K2.out.cell 5; have v6 : w2.cell? ⟨w.heap.size, 6, none⟩ = some (.slice p.a6 x.hazards.length p.c6) := K2.out.cell 6; clear hb)
    | (go_at_call 14; (with_reducible refine (CR.out _ G2.out).mono ?_); rintro e' w3 ⟨rfl, hb⟩; have G3 := Lib.hid (keep_trans G2.out hb); have K3 := Lib.hid (K2.out.after hb); have y0 : w3.cell? ⟨w.heap.size, 0, none⟩ = some (.int .i64 x.horizon) := K3.out.cell 0; have y1 : w3.cell? ⟨w.heap.size, 1, none⟩ = some (.slice p.a1 x.stops.length p.c1) := K3.out.cell 1; have y2 : w3.cell? ⟨w.heap.size, 2, none⟩ = some (.slice p.a2 x.paths.length p.c2) := K3.out.cell 2; have y3 : w3.cell? ⟨w.heap.size, 3, none⟩ = some (.slice p.a3 x.doors.length p.c3) := K3.out.cell 3; have y4 : w3.cell? ⟨w.heap.size, 4, none⟩ = some (.slice p.a4 x.routes.length p.c4) := K3.out.cell 4; have y5 : w3.cell? ⟨w.heap.size, 5, none⟩ = some (.slice p.a5 x.trips.length p.c5) := K3.out.cell 5; have y6 : w3.cell? ⟨w.heap.size, 6, none⟩ = some (.slice p.a6 x.hazards.length p.c6) := K3.out.cell 6; clear hb)
    | (go_at_call 15; (with_reducible refine (CN.out _ G3.out).mono ?_); rintro e' w4 ⟨A, c, n, rfl, hnc, hnl, hrd, hb⟩; have G4 := Lib.hid (keep_trans G3.out hb); have K4 := Lib.hid (K3.out.after hb); have R4 : Hid (Rd w4 (· < w4.heap.size) A (cs strC LL)) := Lib.hid (rd_old hrd.out); have HNT : Hid (n = T + 1) := Lib.hid (hnl.out.trans HLEN.out); have hnTi : ((n : Int) == (T : Int) + 1) = true := (by rw [beq_iff_eq]; have := HNT.out; omega); have z0 : w4.cell? ⟨w.heap.size, 0, none⟩ = some (.int .i64 x.horizon) := K4.out.cell 0; have z1 : w4.cell? ⟨w.heap.size, 1, none⟩ = some (.slice p.a1 x.stops.length p.c1) := K4.out.cell 1; have z2 : w4.cell? ⟨w.heap.size, 2, none⟩ = some (.slice p.a2 x.paths.length p.c2) := K4.out.cell 2; have z3 : w4.cell? ⟨w.heap.size, 3, none⟩ = some (.slice p.a3 x.doors.length p.c3) := K4.out.cell 3; have z4 : w4.cell? ⟨w.heap.size, 4, none⟩ = some (.slice p.a4 x.routes.length p.c4) := K4.out.cell 4; have z5 : w4.cell? ⟨w.heap.size, 5, none⟩ = some (.slice p.a5 x.trips.length p.c5) := K4.out.cell 5; have z6 : w4.cell? ⟨w.heap.size, 6, none⟩ = some (.slice p.a6 x.hazards.length p.c6) := K4.out.cell 6; clear hb hrd hnl)
    | (go_at_call 11; (with_reducible refine (CT.out _).mono ?_); rintro e' w5 ⟨rfl, hb⟩; have G5 := Lib.hid (keep_trans G4.out hb); have K5 := Lib.hid (K4.out.after hb); have R5 := Lib.hid (rd_later R4.out hb); clear hb)
    | fail)
  go_wp2_with fail
  go_at_call 16
  have hn1 : 1 ≤ n := by have := HNT.out; omega
  have hn2 : n ≤ 361 := by have := HNT.out; omega
  clear hnTi
  refine (pick_any at_ _ _ h0 h1 (by omega) (by omega)).mono ?_
  rintro e' w6 ⟨r, rfl, hr, rfl⟩
  have hrn : (r : Int) < (n : Int) := hr.out
  clear hr
  go_wp2_with fail
  have HST : Hid (Below w5.heap.size w5 w5) := Lib.hid (Below.refl _ _)
  go_loopw [6, 7, 8] (fun v6 v7 v8 wr => ∃ i : Nat, v6 = .string ⟨(endsOf (LL.take i)).toArray⟩ ∧ v7 = .string ⟨(oddsOf (LL.take i)).toArray⟩ ∧ v8 = .int .i64 i ∧ i ≤ n ∧ Hid (Below w5.heap.size w5 wr)) (fun _ _ v _ => n - (intOf v).toNat)
  case atStart => exact ⟨0, rfl, rfl, rfl, by omega, HST⟩
  case round =>
    obtain ⟨i, rfl, rfl, rfl, hi, HB⟩ := hrel
    by_cases hlt : i < n
    · have hi1 : (i : Int) < (n : Int) := by omega
      obtain ⟨a, ha⟩ := at_in (k := i) (n := n) LL (Lib.hid (by rw [HLEN.out]; exact HNT.out)) hlt
      obtain ⟨ad, rfl, hS, x0, -⟩ := rd_at 1 (fun _ => rfl) (by omega) (rd_later R5.out HB.out) ha
      have x1 : wr.cell? (ad.add (i * 1)) = some (.string ⟨a.toArray⟩) := x0
      rw [Nat.mul_one] at x1
      have hal := HSHORT.out a (List.mem_of_getElem? ha)
      obtain ⟨q1, q2⟩ := ends_short HSHORT.out i
      obtain ⟨m1, m2⟩ := ends_more ha
      have HM1 := Lib.hid m1
      have HM2 := Lib.hid m2
      clear m1 m2 x0 ha
      generalize endsOf (LL.take i) = P at *
      generalize oddsOf (LL.take i) = Q at *
      have f1 : ¬ 9223372036854775807 < P.length + a.length := by omega
      have f2 : ¬ 9223372036854775807 < P.length + a.length + 1 := by omega
      have f3 : ¬ 9223372036854775807 < Q.length + 1 := by omega
      have f4 : ¬ 9223372036854775807 < Q.length + 1 + a.length := by omega
      have f5 : ¬ 9223372036854775807 < Q.length + 1 + a.length + 12 := by omega
      go_wp2
      go_roundw
      case rel => exact ⟨i + 1, congrArg Value.string (bytes_eq (by rw [HM1.out]; simp)), congrArg Value.string (bytes_eq (by rw [HM2.out]; simp)), by go_num, by omega, HB⟩
      case measure => simp [intOf]; omega
    · obtain rfl : n = i := by omega
      have hi1 : ¬ (n : Int) < (n : Int) := by omega
      have hfull : LL.take n = LL := List.take_of_length_le (by rw [HLEN.out, HNT.out]; exact Nat.le_refl _)
      obtain ⟨q1, q2⟩ := ends_short HSHORT.out n
      rw [hfull] at q1 q2 ⊢
      have hle := ends_le LL
      have HB6 := Lib.hid (keep_trans G5.out HB.out)
      have HK6 := Lib.hid (K5.out.after HB.out)
      have R6 := Lib.hid (rd_later R5.out HB.out)
      clear hfull HB hlt hi K1 K2 K3 K4 K5 G1 G2 G3 G4 G5 R4 R5 HST
      have HP1 : Hid ((endsOf LL).length ≤ 65536 → parseT ⟨(endsOf LL).toArray⟩ = .ok x []) := Lib.hid (fun h => back_parse HX.out (.inl (by rw [HLL.out])) (by rw [Lib.size_eq]; simpa using h))
      have HP2 : Hid ((oddsOf LL).length ≤ 65536 → parseT ⟨(oddsOf LL).toArray⟩ = .ok x []) := Lib.hid (fun h => back_parse HX.out (.inr (by rw [HLL.out])) (by rw [Lib.size_eq]; simpa using h))
      generalize endsOf LL = S1 at *
      generalize oddsOf LL = S2 at *
      by_cases hbig : 65536 < S2.length
      · have hb1 : (65536 : Int) < (S2.length : Int) := by omega
        go_wp2
        go_ret
        exact ⟨rfl, HB6.out⟩
      · have hb1 : ¬ (65536 : Int) < (S2.length : Int) := by omega
        have P1 := HP1.out (by omega)
        have P2 := HP2.out (by omega)
        have CP1 : Hid (∀ w', Below wr.heap.size wr w' → Calls Tryz.prog 9 #[.string ⟨S1.toArray⟩] w' (ParsePost w' (.ok x []))) := Lib.hid (fun w' h => parse_ok P1 w' (HE.out.on (keep_trans HB6.out h)))
        have CP2 : Hid (∀ w', Below wr.heap.size wr w' → Calls Tryz.prog 9 #[.string ⟨S2.toArray⟩] w' (ParsePost w' (.ok x []))) := Lib.hid (fun w' h => parse_ok P2 w' (HE.out.on (keep_trans HB6.out h)))
        clear P1 P2 HP1 HP2
        go_wp2_with (first
          | (go_at_call 9; (with_reducible refine (CP1.out _ (Below.refl _ _)).mono ?_); rintro e' w7 ⟨pa, -, rfl, hs7, hb⟩; have B7 := Lib.hid hb; have S7 := Lib.hid hs7.old; have K7 := Lib.hid (HK6.out.after hb); clear hb hs7; dsimp only [shV])
          | (go_at_call 9; (with_reducible refine (CP2.out _ (keep_trans B7.out (two_box _ _ _))).mono ?_); rintro e' w8 ⟨pb, -, rfl, hs8, hb⟩; have J8 := Lib.hid (keep_trans (two_box w7 _ _) hb); have B8 := Lib.hid (keep_trans B7.out J8.out); have S8 := Lib.hid hs8.old; have T8 := Lib.hid (S7.out.later J8.out); have K8 := Lib.hid (K7.out.after J8.out); have A8 := Lib.hid (((Blk.new w7 29 (shL' x pa)).alloc _).after hb); have F8 := Lib.hid ((Blk.new2 w7 _ 32 [.int .i64 0, .int .i64 0, .int .i64 0]).after hb); have f8_0 : ∀ o q, ((w8.alloc o).alloc q).cell? ⟨w7.heap.size + 1, 0, none⟩ = some (.int .i64 0) := fun o q => ((F8.out.alloc o).alloc q).cell 0; have f8_1 : ∀ o q, ((w8.alloc o).alloc q).cell? ⟨w7.heap.size + 1, 1, none⟩ = some (.int .i64 0) := fun o q => ((F8.out.alloc o).alloc q).cell 1; have f8_2 : ∀ o q, ((w8.alloc o).alloc q).cell? ⟨w7.heap.size + 1, 2, none⟩ = some (.int .i64 0) := fun o q => ((F8.out.alloc o).alloc q).cell 2; have a8_0 : ∀ o q, ((w8.alloc o).alloc q).cell? ⟨w7.heap.size, 0, none⟩ = some (.int .i64 x.horizon) := fun o q => ((A8.out.alloc o).alloc q).cell 0; have x8_0 : ∀ o q, ((w8.alloc o).alloc q).cell? ⟨w.heap.size, 0, none⟩ = some (.int .i64 x.horizon) := fun o q => ((K8.out.alloc o).alloc q).cell 0; have a8_1 : ∀ o q, ((w8.alloc o).alloc q).cell? ⟨w7.heap.size, 1, none⟩ = some (.slice pa.a1 x.stops.length pa.c1) := fun o q => ((A8.out.alloc o).alloc q).cell 1; have x8_1 : ∀ o q, ((w8.alloc o).alloc q).cell? ⟨w.heap.size, 1, none⟩ = some (.slice p.a1 x.stops.length p.c1) := fun o q => ((K8.out.alloc o).alloc q).cell 1; have a8_2 : ∀ o q, ((w8.alloc o).alloc q).cell? ⟨w7.heap.size, 2, none⟩ = some (.slice pa.a2 x.paths.length pa.c2) := fun o q => ((A8.out.alloc o).alloc q).cell 2; have x8_2 : ∀ o q, ((w8.alloc o).alloc q).cell? ⟨w.heap.size, 2, none⟩ = some (.slice p.a2 x.paths.length p.c2) := fun o q => ((K8.out.alloc o).alloc q).cell 2; have a8_3 : ∀ o q, ((w8.alloc o).alloc q).cell? ⟨w7.heap.size, 3, none⟩ = some (.slice pa.a3 x.doors.length pa.c3) := fun o q => ((A8.out.alloc o).alloc q).cell 3; have x8_3 : ∀ o q, ((w8.alloc o).alloc q).cell? ⟨w.heap.size, 3, none⟩ = some (.slice p.a3 x.doors.length p.c3) := fun o q => ((K8.out.alloc o).alloc q).cell 3; have a8_4 : ∀ o q, ((w8.alloc o).alloc q).cell? ⟨w7.heap.size, 4, none⟩ = some (.slice pa.a4 x.routes.length pa.c4) := fun o q => ((A8.out.alloc o).alloc q).cell 4; have x8_4 : ∀ o q, ((w8.alloc o).alloc q).cell? ⟨w.heap.size, 4, none⟩ = some (.slice p.a4 x.routes.length p.c4) := fun o q => ((K8.out.alloc o).alloc q).cell 4; have a8_5 : ∀ o q, ((w8.alloc o).alloc q).cell? ⟨w7.heap.size, 5, none⟩ = some (.slice pa.a5 x.trips.length pa.c5) := fun o q => ((A8.out.alloc o).alloc q).cell 5; have x8_5 : ∀ o q, ((w8.alloc o).alloc q).cell? ⟨w.heap.size, 5, none⟩ = some (.slice p.a5 x.trips.length p.c5) := fun o q => ((K8.out.alloc o).alloc q).cell 5; have a8_6 : ∀ o q, ((w8.alloc o).alloc q).cell? ⟨w7.heap.size, 6, none⟩ = some (.slice pa.a6 x.hazards.length pa.c6) := fun o q => ((A8.out.alloc o).alloc q).cell 6; have x8_6 : ∀ o q, ((w8.alloc o).alloc q).cell? ⟨w.heap.size, 6, none⟩ = some (.slice p.a6 x.hazards.length p.c6) := fun o q => ((K8.out.alloc o).alloc q).cell 6;  clear hb hs8; dsimp only [shV])
          | (go_at_call 17; refine (ksheet_any x pa p _ (T8.out.later (two_box w8 _ _)) (HSH.out.later (keep_trans HB6.out (keep_trans B8.out (two_box w8 _ _)))) (mayfew HX.out)).mono ?_; rintro e' w9 ⟨rfl, hb⟩; have J9 := Lib.hid (keep_trans (two_box w8 _ _) hb); have B9 := Lib.hid (keep_trans B8.out J9.out); have S9 := Lib.hid (S8.out.later J9.out); have K9 := Lib.hid (K8.out.after J9.out); have Z9 := Lib.hid (((Blk.new w8 29 (shL' x pb)).alloc _).after hb); have z9_0 : w9.cell? ⟨w8.heap.size, 0, none⟩ = some (.int .i64 x.horizon) := Z9.out.cell 0; have x9_0 : w9.cell? ⟨w.heap.size, 0, none⟩ = some (.int .i64 x.horizon) := K9.out.cell 0; have z9_1 : w9.cell? ⟨w8.heap.size, 1, none⟩ = some (.slice pb.a1 x.stops.length pb.c1) := Z9.out.cell 1; have x9_1 : w9.cell? ⟨w.heap.size, 1, none⟩ = some (.slice p.a1 x.stops.length p.c1) := K9.out.cell 1; have z9_2 : w9.cell? ⟨w8.heap.size, 2, none⟩ = some (.slice pb.a2 x.paths.length pb.c2) := Z9.out.cell 2; have x9_2 : w9.cell? ⟨w.heap.size, 2, none⟩ = some (.slice p.a2 x.paths.length p.c2) := K9.out.cell 2; have z9_3 : w9.cell? ⟨w8.heap.size, 3, none⟩ = some (.slice pb.a3 x.doors.length pb.c3) := Z9.out.cell 3; have x9_3 : w9.cell? ⟨w.heap.size, 3, none⟩ = some (.slice p.a3 x.doors.length p.c3) := K9.out.cell 3; have z9_4 : w9.cell? ⟨w8.heap.size, 4, none⟩ = some (.slice pb.a4 x.routes.length pb.c4) := Z9.out.cell 4; have x9_4 : w9.cell? ⟨w.heap.size, 4, none⟩ = some (.slice p.a4 x.routes.length p.c4) := K9.out.cell 4; have z9_5 : w9.cell? ⟨w8.heap.size, 5, none⟩ = some (.slice pb.a5 x.trips.length pb.c5) := Z9.out.cell 5; have x9_5 : w9.cell? ⟨w.heap.size, 5, none⟩ = some (.slice p.a5 x.trips.length p.c5) := K9.out.cell 5; have z9_6 : w9.cell? ⟨w8.heap.size, 6, none⟩ = some (.slice pb.a6 x.hazards.length pb.c6) := Z9.out.cell 6; have x9_6 : w9.cell? ⟨w.heap.size, 6, none⟩ = some (.slice p.a6 x.hazards.length p.c6) := K9.out.cell 6;  clear hb)
          | (go_at_call 18; refine (ssame_any x pb p _ S9.out (HSH.out.later (keep_trans HB6.out B9.out)) (mayfew HX.out)).mono ?_; rintro e' w10 ⟨rfl, hb⟩; have B10 := Lib.hid (keep_trans B9.out hb); clear hb)
          | fail)
        have R10 := Lib.hid (rd_later R6.out B10.out)
        have HN : Hid (n = LL.length) := Lib.hid (by rw [HLEN.out]; exact HNT.out)
        obtain ⟨l0, hl0⟩ := at_in (k := 0) LL HN (by omega)
        obtain ⟨ad, rfl, hS, y0, -⟩ := rd_at 1 (fun _ => rfl) (by omega) R10.out hl0
        have y1 : w10.cell? ad = some (.string ⟨l0.toArray⟩) := y0
        have h0e : l0 = lineB (horT x.horizon) := by
          have := line_zero x
          rw [← HLL.out, hl0] at this
          injection this
        have q3 := HSHORT.out l0 (List.mem_of_getElem? hl0)
        have hS2 : ad.block < w10.heap.size := hS
        have HL0 := Lib.hid h0e
        clear hl0 y0 h0e hS
        have hr1 : r < n := by omega
        obtain ⟨lr, hlr⟩ := at_in (k := r) LL HN hr1
        obtain ⟨ad', had, hS3, z0, -⟩ := rd_at 1 (fun _ => rfl) (by omega) R10.out hlr
        cases had
        have z1 : w10.cell? (ad.add (r * 1)) = some (.string ⟨lr.toArray⟩) := z0
        rw [Nat.mul_one] at z1
        have q4 := HSHORT.out lr (List.mem_of_getElem? hlr)
        have g1 : ¬ 9223372036854775807 < l0.length + 1 := by omega
        have g2 : ¬ 9223372036854775807 < l0.length + 1 + lr.length := by omega
        obtain ⟨R, hR⟩ : ∃ R, R = parseT ((⟨l0.toArray⟩ : ByteArray) ++ ⟨#[10]⟩ ++ ⟨lr.toArray⟩) := ⟨_, rfl⟩
        have CP3 : Hid (∀ w', Below w10.heap.size w10 w' → Calls Tryz.prog 9 #[.string ((⟨l0.toArray⟩ : ByteArray) ++ ⟨#[10]⟩ ++ ⟨lr.toArray⟩)] w' (PQPost R w')) := Lib.hid (fun w' h => parse_pq hR.symm w' (HE.out.on (keep_trans HB6.out (keep_trans B10.out h))))
        have HRR := Lib.hid hR
        have HLR := Lib.hid hlr
        have KC : Hid (∀ w', Below w10.heap.size w10 w' → w'.cell? ad = some (.string ⟨l0.toArray⟩) ∧ w'.cell? (ad.add r) = some (.string ⟨lr.toArray⟩)) := Lib.hid (fun w' h => ⟨(World.cell?_of_block (h.block _ hS2)).trans y1, (World.cell?_of_block (by rw [block_of_add]; exact h.block _ hS2)).trans z1⟩)
        have hrn0 : (0 : Int) < (n : Int) := by omega
        have hn0 : 0 < n := by omega
        clear hlr z0 hR hS3
        clear f8_0 f8_1 f8_2 a8_0 a8_1 a8_2 a8_3 a8_4 a8_5 a8_6 x8_0 x8_1 x8_2 x8_3 x8_4 x8_5 x8_6 z9_0 z9_1 z9_2 z9_3 z9_4 z9_5 z9_6 x9_0 x9_1 x9_2 x9_3 x9_4 x9_5 x9_6
        go_cut [13, 14] from 91 to 103 (fun v13 v14 wc => ∃ (s f : Nat) (uh : Int) (uA1 uA2 uA3 uA4 uA5 uA6 : Option Addr) (un1 un2 un3 un4 un5 un6 uc1 uc2 uc3 uc4 uc5 uc6 : Nat) (ue ul uk : Int), v13 = .pointer (some ⟨s, 0, none⟩) ∧ v14 = .pointer (some ⟨f, 0, none⟩) ∧ Hid (Blk wc s 29 [.int .i64 uh, .slice uA1 un1 uc1, .slice uA2 un2 uc2, .slice uA3 un3 uc3, .slice uA4 un4 uc4, .slice uA5 un5 uc5, .slice uA6 un6 uc6]) ∧ Hid (Blk wc f 32 [.int .i64 ue, .int .i64 ul, .int .i64 uk]) ∧ Hid (Below w10.heap.size w10 wc) ∧ Hid (∃ lo hi, hi ≤ wc.heap.size ∧ PQ R lo hi wc (.int .i64 uh) (.slice uA1 un1 uc1) (.slice uA2 un2 uc2) (.slice uA3 un3 uc3) (.slice uA4 un4 uc4) (.slice uA5 un5 uc5) (.slice uA6 un6 uc6) (.int .i64 ue) (.int .i64 ul) (.int .i64 uk)))
        case first =>
          refine wp_region_held_drew (S := fun w' => Hid (Below w10.heap.size w10 w')) (by kernel_rfl) ?_ (fun hHeld => ?_)
          · exact Lib.hid (below_drew (Below.refl _ _))
          refine wpAnyH_take (i := 0) (v := ?vu1) rfl (by kernel_rfl) (by kernel_rfl) (by kernel_rfl) (fun _ _ _ h => h) (Or.inl ⟨by rfl, ?hyu1⟩) (by assumption) ?restu1
          case hyu1 => (intro w' hSw; obtain ⟨kc1, kc2⟩ := KC.out w' hSw.out; clear hSw; go_simp; try with_reducible rfl)
          try simp only [Act.put, List.setIfInBounds_toArray, List.set_cons_zero, List.set_cons_succ]
          refine wpAnyH_take (i := 1) (v := ?vu2) rfl (by kernel_rfl) (by kernel_rfl) (by kernel_rfl) (fun _ _ _ h => h) (Or.inl ⟨by rfl, ?hyu2⟩) (by assumption) ?restu2
          case hyu2 => (intro w' hSw; obtain ⟨kc1, kc2⟩ := KC.out w' hSw.out; clear hSw; go_simp; try with_reducible rfl)
          try simp only [Act.put, List.setIfInBounds_toArray, List.set_cons_zero, List.set_cons_succ]
          refine wpAnyH_take (i := 2) (v := ?vu3) rfl (by kernel_rfl) (by kernel_rfl) (by kernel_rfl) (fun _ _ _ h => h) (Or.inl ⟨by rfl, ?hyu3⟩) (by assumption) ?restu3
          case hyu3 => (intro w' hSw; obtain ⟨kc1, kc2⟩ := KC.out w' hSw.out; clear hSw; go_simp; try with_reducible rfl)
          try simp only [Act.put, List.setIfInBounds_toArray, List.set_cons_zero, List.set_cons_succ]
          refine wpAnyH_take (i := 3) (v := ?vu4) rfl (by kernel_rfl) (by kernel_rfl) (by kernel_rfl) (fun _ _ _ h => h) (Or.inl ⟨by rfl, ?hyu4⟩) (by assumption) ?restu4
          case hyu4 => (intro w' hSw; obtain ⟨kc1, kc2⟩ := KC.out w' hSw.out; clear hSw; go_simp; try with_reducible rfl)
          try simp only [Act.put, List.setIfInBounds_toArray, List.set_cons_zero, List.set_cons_succ]
          refine wpAnyH_take (i := 4) (v := ?vu5) rfl (by kernel_rfl) (by kernel_rfl) (by kernel_rfl) (fun _ _ _ h => h) (Or.inl ⟨by rfl, ?hyu5⟩) (by assumption) ?restu5
          case hyu5 => (intro w' hSw; obtain ⟨kc1, kc2⟩ := KC.out w' hSw.out; clear hSw; go_simp; try with_reducible rfl)
          try simp only [Act.put, List.setIfInBounds_toArray, List.set_cons_zero, List.set_cons_succ]
          refine wpAnyH_take (i := 5) (v := ?vu6) rfl (by kernel_rfl) (by kernel_rfl) (by kernel_rfl) (fun _ _ _ h => h) (Or.inl ⟨by rfl, ?hyu6⟩) (by assumption) ?restu6
          case hyu6 => (intro w' hSw; obtain ⟨kc1, kc2⟩ := KC.out w' hSw.out; clear hSw; go_simp; try with_reducible rfl)
          try simp only [Act.put, List.setIfInBounds_toArray, List.set_cons_zero, List.set_cons_succ]
          refine wpAnyH_take (i := 6) (v := ?vu7) rfl (by kernel_rfl) (by kernel_rfl) (by kernel_rfl) (fun _ _ _ h => h) (Or.inl ⟨by rfl, ?hyu7⟩) (by assumption) ?restu7
          case hyu7 => (intro w' hSw; obtain ⟨kc1, kc2⟩ := KC.out w' hSw.out; clear hSw; go_simp; try with_reducible rfl)
          try simp only [Act.put, List.setIfInBounds_toArray, List.set_cons_zero, List.set_cons_succ]
          refine wpAnyH_take (i := 7) (v := ?vu8) rfl (by kernel_rfl) (by kernel_rfl) (by kernel_rfl) (fun _ _ _ h => h) (Or.inl ⟨by rfl, ?hyu8⟩) (by assumption) ?restu8
          case hyu8 => (intro w' hSw; obtain ⟨kc1, kc2⟩ := KC.out w' hSw.out; clear hSw; go_simp; try with_reducible rfl)
          try simp only [Act.put, List.setIfInBounds_toArray, List.set_cons_zero, List.set_cons_succ]
          refine wpAnyH_take (i := 8) (v := ?vu9) rfl (by kernel_rfl) (by kernel_rfl) (by kernel_rfl) (fun _ _ _ h => h) (Or.inl ⟨by rfl, ?hyu9⟩) (by assumption) ?restu9
          case hyu9 => (intro w' hSw; obtain ⟨kc1, kc2⟩ := KC.out w' hSw.out; clear hSw; go_simp; try with_reducible rfl)
          try simp only [Act.put, List.setIfInBounds_toArray, List.set_cons_zero, List.set_cons_succ]
          have D0 := hHeld
          clear hHeld
          have z0 : Hid (w10.heap.size ≤ (World.drew w10).heap.size) := Lib.hid (Nat.le_refl _)
          generalize World.drew w10 = v0 at *
          refine wpAnyH_ready (rs := [9, 13, 14]) (by kernel_rfl) (by simp) ?_
          refine AllReadyH.cons rfl (fun K hK => ?_) ?_
          · go_simp
            go_at_call 9
            refine (CP3.out _ D0.out).mono ?_
            rintro e' v10 ⟨uh, uA1, uA2, uA3, uA4, uA5, uA6, un1, un2, un3, un4, un5, un6, uc1, uc2, uc3, uc4, uc5, uc6, ue, ul, uk, rfl, hpq, hb11⟩
            have D11 : Hid (Below w10.heap.size w10 v10) := Lib.hid (keep_trans D0.out hb11)
            have P12 : Hid (PQ R v0.heap.size v10.heap.size v10 (.int .i64 uh) (.slice uA1 un1 uc1) (.slice uA2 un2 uc2) (.slice uA3 un3 uc3) (.slice uA4 un4 uc4) (.slice uA5 un5 uc5) (.slice uA6 un6 uc6) (.int .i64 ue) (.int .i64 ul) (.int .i64 uk)) := Lib.hid hpq
            have z13 : Hid (v0.heap.size ≤ v10.heap.size) := Lib.hid hb11.size
            clear hpq hb11
            dsimp only
            refine hK.out _ _ D11 (fun hHeld => ?_)
            clear hK K
            refine wpAnyH_take (i := 10) (v := ?vu14) rfl (by kernel_rfl) (by kernel_rfl) (by kernel_rfl) (fun _ _ _ h => h) (Or.inl ⟨by rfl, ?hyu14⟩) (by assumption) ?restu14
            case hyu14 => (intro w' hSw; clear hSw; go_simp; try with_reducible rfl)
            try simp only [Act.put, List.setIfInBounds_toArray, List.set_cons_zero, List.set_cons_succ]
            refine wpAnyH_take (i := 11) (v := ?vu15) rfl (by kernel_rfl) (by kernel_rfl) (by kernel_rfl) (fun _ _ _ h => h) (Or.inl ⟨by rfl, ?hyu15⟩) (by assumption) ?restu15
            case hyu15 => (intro w' hSw; clear hSw; go_simp; try with_reducible rfl)
            try simp only [Act.put, List.setIfInBounds_toArray, List.set_cons_zero, List.set_cons_succ]
            refine wpAnyH_take (i := 12) (v := ?vu16) rfl (by kernel_rfl) (by kernel_rfl) (by kernel_rfl) (fun _ _ _ h => h) (Or.inl ⟨by rfl, ?hyu16⟩) (by assumption) ?restu16
            case hyu16 => (intro w' hSw; clear hSw; go_simp; try with_reducible rfl)
            try simp only [Act.put, List.setIfInBounds_toArray, List.set_cons_zero, List.set_cons_succ]
            refine wpAnyH_ready (rs := [13, 14]) (by kernel_rfl) (by simp) ?_
            refine AllReadyH.cons rfl (fun K hK => ?_) ?_
            · go_simp
              have D18 : Hid (Below w10.heap.size w10 (v10.alloc (.cells #[.int .i64 0, .slice none 0 0, .slice none 0 0, .slice none 0 0, .slice none 0 0, .slice none 0 0, .slice none 0 0] 29))) := Lib.hid (D11.out.alloc (by have := z0.out; have := z13.out; omega) _)
              have z19 : Hid (v10.heap.size + 1 = (v10.alloc (.cells #[.int .i64 0, .slice none 0 0, .slice none 0 0, .slice none 0 0, .slice none 0 0, .slice none 0 0, .slice none 0 0] 29)).heap.size) := Lib.hid (by simp)
              have K20 : Hid (Blk (v10.alloc (.cells #[.int .i64 0, .slice none 0 0, .slice none 0 0, .slice none 0 0, .slice none 0 0, .slice none 0 0, .slice none 0 0] 29)) v10.heap.size 29 [.int .i64 0, .slice none 0 0, .slice none 0 0, .slice none 0 0, .slice none 0 0, .slice none 0 0, .slice none 0 0]) := Lib.hid (Blk.new v10 _ _)
              have P21 := Lib.hid (PQ.keep (w' := v10.alloc (.cells #[.int .i64 0, .slice none 0 0, .slice none 0 0, .slice none 0 0, .slice none 0 0, .slice none 0 0, .slice none 0 0] 29)) P12.out (fun b _ hb => Below.heap_alloc v10 _ b (by have := z0.out; have := z13.out; omega)))
              generalize v10.alloc (.cells #[.int .i64 0, .slice none 0 0, .slice none 0 0, .slice none 0 0, .slice none 0 0, .slice none 0 0, .slice none 0 0] 29) = v17 at *
              refine hK.out _ _ D18 (fun hHeld => ?_)
              clear hK K
              refine wpAnyH_ready (rs := [14]) (by kernel_rfl) (by simp) ?_
              refine AllReadyH.cons rfl (fun K hK => ?_) ?_
              · go_simp
                have D23 : Hid (Below w10.heap.size w10 (v17.alloc (.cells #[.int .i64 0, .int .i64 0, .int .i64 0] 32))) := Lib.hid (D18.out.alloc (by have := z0.out; have := z13.out; have := z19.out; omega) _)
                have z24 : Hid (v17.heap.size + 1 = (v17.alloc (.cells #[.int .i64 0, .int .i64 0, .int .i64 0] 32)).heap.size) := Lib.hid (by simp)
                have K25 : Hid (Blk (v17.alloc (.cells #[.int .i64 0, .int .i64 0, .int .i64 0] 32)) v17.heap.size 32 [.int .i64 0, .int .i64 0, .int .i64 0]) := Lib.hid (Blk.new v17 _ _)
                have K26 := Lib.hid (K20.out.alloc (.cells #[.int .i64 0, .int .i64 0, .int .i64 0] 32))
                have P27 := Lib.hid (PQ.keep (w' := v17.alloc (.cells #[.int .i64 0, .int .i64 0, .int .i64 0] 32)) P21.out (fun b _ hb => Below.heap_alloc v17 _ b (by have := z0.out; have := z13.out; have := z19.out; omega)))
                generalize v17.alloc (.cells #[.int .i64 0, .int .i64 0, .int .i64 0] 32) = v22 at *
                refine hK.out _ _ D23 (fun hHeld => ?_)
                clear hK K
                refine wpAnyH_ready (rs := [15]) (by kernel_rfl) (by simp) ?_
                refine AllReadyH.cons rfl (fun K hK => ?_) AllReadyH.nil
                have c0 : v22.cell? ⟨v10.heap.size, 0, none⟩ = some (.int .i64 0) := K26.out.cell 0
                have c1 : v22.cell? ⟨v10.heap.size, 1, none⟩ = some (.slice none 0 0) := K26.out.cell 1
                have c2 : v22.cell? ⟨v10.heap.size, 2, none⟩ = some (.slice none 0 0) := K26.out.cell 2
                have c3 : v22.cell? ⟨v10.heap.size, 3, none⟩ = some (.slice none 0 0) := K26.out.cell 3
                have c4 : v22.cell? ⟨v10.heap.size, 4, none⟩ = some (.slice none 0 0) := K26.out.cell 4
                have c5 : v22.cell? ⟨v10.heap.size, 5, none⟩ = some (.slice none 0 0) := K26.out.cell 5
                have c6 : v22.cell? ⟨v10.heap.size, 6, none⟩ = some (.slice none 0 0) := K26.out.cell 6
                have cf : ∀ i, v22.frozen? ⟨v10.heap.size, i, none⟩ = false := fun i => K26.out.frozen i
                go_simp
                clear cf c0 c1 c2 c3 c4 c5 c6
                change K _ (sto7 v22 (v10.heap.size) (.int .i64 uh) (.slice uA1 un1 uc1) (.slice uA2 un2 uc2) (.slice uA3 un3 uc3) (.slice uA4 un4 uc4) (.slice uA5 un5 uc5) (.slice uA6 un6 uc6))
                have D29 : Hid (Below w10.heap.size w10 (sto7 v22 (v10.heap.size) (.int .i64 uh) (.slice uA1 un1 uc1) (.slice uA2 un2 uc2) (.slice uA3 un3 uc3) (.slice uA4 un4 uc4) (.slice uA5 un5 uc5) (.slice uA6 un6 uc6))) := Lib.hid (sto7_below D23.out (by have := z0.out; have := z13.out; have := z19.out; have := z24.out; omega))
                have z30 : Hid (v22.heap.size = (sto7 v22 (v10.heap.size) (.int .i64 uh) (.slice uA1 un1 uc1) (.slice uA2 un2 uc2) (.slice uA3 un3 uc3) (.slice uA4 un4 uc4) (.slice uA5 un5 uc5) (.slice uA6 un6 uc6)).heap.size) := Lib.hid sto7_size.symm
                have K31 : Hid (Blk (sto7 v22 (v10.heap.size) (.int .i64 uh) (.slice uA1 un1 uc1) (.slice uA2 un2 uc2) (.slice uA3 un3 uc3) (.slice uA4 un4 uc4) (.slice uA5 un5 uc5) (.slice uA6 un6 uc6)) (v10.heap.size) 29 [.int .i64 uh, .slice uA1 un1 uc1, .slice uA2 un2 uc2, .slice uA3 un3 uc3, .slice uA4 un4 uc4, .slice uA5 un5 uc5, .slice uA6 un6 uc6]) := Lib.hid (sto7_blk K26.out)
                have K32 : Hid (Blk (sto7 v22 (v10.heap.size) (.int .i64 uh) (.slice uA1 un1 uc1) (.slice uA2 un2 uc2) (.slice uA3 un3 uc3) (.slice uA4 un4 uc4) (.slice uA5 un5 uc5) (.slice uA6 un6 uc6)) (v17.heap.size) 32 [.int .i64 0, .int .i64 0, .int .i64 0]) := Lib.hid (sto7_far K25.out (by have := z0.out; have := z13.out; have := z19.out; have := z24.out; omega))
                have P33 := Lib.hid (PQ.keep (w' := (sto7 v22 (v10.heap.size) (.int .i64 uh) (.slice uA1 un1 uc1) (.slice uA2 un2 uc2) (.slice uA3 un3 uc3) (.slice uA4 un4 uc4) (.slice uA5 un5 uc5) (.slice uA6 un6 uc6))) P27.out (fun b h1 h2 => sto7_keep (k := b) (by have := z0.out; have := z13.out; have := z19.out; have := z24.out; omega)))
                generalize (sto7 v22 (v10.heap.size) (.int .i64 uh) (.slice uA1 un1 uc1) (.slice uA2 un2 uc2) (.slice uA3 un3 uc3) (.slice uA4 un4 uc4) (.slice uA5 un5 uc5) (.slice uA6 un6 uc6)) = v28 at *
                refine hK.out _ _ D29 (fun hHeld => ?_)
                clear hK K
                refine wpAnyH_ready (rs := [16]) (by kernel_rfl) (by simp) ?_
                refine AllReadyH.cons rfl (fun K hK => ?_) AllReadyH.nil
                have c0 : v28.cell? ⟨v17.heap.size, 0, none⟩ = some (.int .i64 0) := K32.out.cell 0
                have c1 : v28.cell? ⟨v17.heap.size, 1, none⟩ = some (.int .i64 0) := K32.out.cell 1
                have c2 : v28.cell? ⟨v17.heap.size, 2, none⟩ = some (.int .i64 0) := K32.out.cell 2
                have cf : ∀ i, v28.frozen? ⟨v17.heap.size, i, none⟩ = false := fun i => K32.out.frozen i
                go_simp
                clear cf c0 c1 c2
                change K _ (sto3 v28 (v17.heap.size) (.int .i64 ue) (.int .i64 ul) (.int .i64 uk))
                have D35 : Hid (Below w10.heap.size w10 (sto3 v28 (v17.heap.size) (.int .i64 ue) (.int .i64 ul) (.int .i64 uk))) := Lib.hid (sto3_below D29.out (by have := z0.out; have := z13.out; have := z19.out; have := z24.out; have := z30.out; omega))
                have z36 : Hid (v28.heap.size = (sto3 v28 (v17.heap.size) (.int .i64 ue) (.int .i64 ul) (.int .i64 uk)).heap.size) := Lib.hid sto3_size.symm
                have K37 : Hid (Blk (sto3 v28 (v17.heap.size) (.int .i64 ue) (.int .i64 ul) (.int .i64 uk)) (v17.heap.size) 32 [.int .i64 ue, .int .i64 ul, .int .i64 uk]) := Lib.hid (sto3_blk K32.out)
                have K38 : Hid (Blk (sto3 v28 (v17.heap.size) (.int .i64 ue) (.int .i64 ul) (.int .i64 uk)) (v10.heap.size) 29 [.int .i64 uh, .slice uA1 un1 uc1, .slice uA2 un2 uc2, .slice uA3 un3 uc3, .slice uA4 un4 uc4, .slice uA5 un5 uc5, .slice uA6 un6 uc6]) := Lib.hid (sto3_far K31.out (by have := z0.out; have := z13.out; have := z19.out; have := z24.out; have := z30.out; omega))
                have P39 := Lib.hid (PQ.keep (w' := (sto3 v28 (v17.heap.size) (.int .i64 ue) (.int .i64 ul) (.int .i64 uk))) P33.out (fun b h1 h2 => sto3_keep (k := b) (by have := z0.out; have := z13.out; have := z19.out; have := z24.out; have := z30.out; omega)))
                generalize (sto3 v28 (v17.heap.size) (.int .i64 ue) (.int .i64 ul) (.int .i64 uk)) = v34 at *
                refine hK.out _ _ D35 (fun hHeld => ?_)
                clear hK K
                refine wpAnyH_done (by kernel_rfl) ?_ _
                go_wp2_with fail
                go_meet
                exact ⟨_, _, uh, uA1, uA2, uA3, uA4, uA5, uA6, un1, un2, un3, un4, un5, un6, uc1, uc2, uc3, uc4, uc5, uc6, ue, ul, uk, rfl, rfl, K38, K37, D35, Lib.hid ⟨_, _, (by have := z0.out; have := z13.out; have := z19.out; have := z24.out; have := z30.out; have := z36.out; omega), P39.out⟩⟩
              exact AllReadyH.nil
            refine AllReadyH.cons rfl (fun K hK => ?_) ?_
            · go_simp
              have D41 : Hid (Below w10.heap.size w10 (v10.alloc (.cells #[.int .i64 0, .int .i64 0, .int .i64 0] 32))) := Lib.hid (D11.out.alloc (by have := z0.out; have := z13.out; omega) _)
              have z42 : Hid (v10.heap.size + 1 = (v10.alloc (.cells #[.int .i64 0, .int .i64 0, .int .i64 0] 32)).heap.size) := Lib.hid (by simp)
              have K43 : Hid (Blk (v10.alloc (.cells #[.int .i64 0, .int .i64 0, .int .i64 0] 32)) v10.heap.size 32 [.int .i64 0, .int .i64 0, .int .i64 0]) := Lib.hid (Blk.new v10 _ _)
              have P44 := Lib.hid (PQ.keep (w' := v10.alloc (.cells #[.int .i64 0, .int .i64 0, .int .i64 0] 32)) P12.out (fun b _ hb => Below.heap_alloc v10 _ b (by have := z0.out; have := z13.out; omega)))
              generalize v10.alloc (.cells #[.int .i64 0, .int .i64 0, .int .i64 0] 32) = v40 at *
              refine hK.out _ _ D41 (fun hHeld => ?_)
              clear hK K
              refine wpAnyH_ready (rs := [13]) (by kernel_rfl) (by simp) ?_
              refine AllReadyH.cons rfl (fun K hK => ?_) ?_
              · go_simp
                have D46 : Hid (Below w10.heap.size w10 (v40.alloc (.cells #[.int .i64 0, .slice none 0 0, .slice none 0 0, .slice none 0 0, .slice none 0 0, .slice none 0 0, .slice none 0 0] 29))) := Lib.hid (D41.out.alloc (by have := z0.out; have := z13.out; have := z42.out; omega) _)
                have z47 : Hid (v40.heap.size + 1 = (v40.alloc (.cells #[.int .i64 0, .slice none 0 0, .slice none 0 0, .slice none 0 0, .slice none 0 0, .slice none 0 0, .slice none 0 0] 29)).heap.size) := Lib.hid (by simp)
                have K48 : Hid (Blk (v40.alloc (.cells #[.int .i64 0, .slice none 0 0, .slice none 0 0, .slice none 0 0, .slice none 0 0, .slice none 0 0, .slice none 0 0] 29)) v40.heap.size 29 [.int .i64 0, .slice none 0 0, .slice none 0 0, .slice none 0 0, .slice none 0 0, .slice none 0 0, .slice none 0 0]) := Lib.hid (Blk.new v40 _ _)
                have K49 := Lib.hid (K43.out.alloc (.cells #[.int .i64 0, .slice none 0 0, .slice none 0 0, .slice none 0 0, .slice none 0 0, .slice none 0 0, .slice none 0 0] 29))
                have P50 := Lib.hid (PQ.keep (w' := v40.alloc (.cells #[.int .i64 0, .slice none 0 0, .slice none 0 0, .slice none 0 0, .slice none 0 0, .slice none 0 0, .slice none 0 0] 29)) P44.out (fun b _ hb => Below.heap_alloc v40 _ b (by have := z0.out; have := z13.out; have := z42.out; omega)))
                generalize v40.alloc (.cells #[.int .i64 0, .slice none 0 0, .slice none 0 0, .slice none 0 0, .slice none 0 0, .slice none 0 0, .slice none 0 0] 29) = v45 at *
                refine hK.out _ _ D46 (fun hHeld => ?_)
                clear hK K
                refine wpAnyH_ready (rs := [15]) (by kernel_rfl) (by simp) ?_
                refine AllReadyH.cons rfl (fun K hK => ?_) AllReadyH.nil
                have c0 : v45.cell? ⟨v40.heap.size, 0, none⟩ = some (.int .i64 0) := K48.out.cell 0
                have c1 : v45.cell? ⟨v40.heap.size, 1, none⟩ = some (.slice none 0 0) := K48.out.cell 1
                have c2 : v45.cell? ⟨v40.heap.size, 2, none⟩ = some (.slice none 0 0) := K48.out.cell 2
                have c3 : v45.cell? ⟨v40.heap.size, 3, none⟩ = some (.slice none 0 0) := K48.out.cell 3
                have c4 : v45.cell? ⟨v40.heap.size, 4, none⟩ = some (.slice none 0 0) := K48.out.cell 4
                have c5 : v45.cell? ⟨v40.heap.size, 5, none⟩ = some (.slice none 0 0) := K48.out.cell 5
                have c6 : v45.cell? ⟨v40.heap.size, 6, none⟩ = some (.slice none 0 0) := K48.out.cell 6
                have cf : ∀ i, v45.frozen? ⟨v40.heap.size, i, none⟩ = false := fun i => K48.out.frozen i
                go_simp
                clear cf c0 c1 c2 c3 c4 c5 c6
                change K _ (sto7 v45 (v40.heap.size) (.int .i64 uh) (.slice uA1 un1 uc1) (.slice uA2 un2 uc2) (.slice uA3 un3 uc3) (.slice uA4 un4 uc4) (.slice uA5 un5 uc5) (.slice uA6 un6 uc6))
                have D52 : Hid (Below w10.heap.size w10 (sto7 v45 (v40.heap.size) (.int .i64 uh) (.slice uA1 un1 uc1) (.slice uA2 un2 uc2) (.slice uA3 un3 uc3) (.slice uA4 un4 uc4) (.slice uA5 un5 uc5) (.slice uA6 un6 uc6))) := Lib.hid (sto7_below D46.out (by have := z0.out; have := z13.out; have := z42.out; have := z47.out; omega))
                have z53 : Hid (v45.heap.size = (sto7 v45 (v40.heap.size) (.int .i64 uh) (.slice uA1 un1 uc1) (.slice uA2 un2 uc2) (.slice uA3 un3 uc3) (.slice uA4 un4 uc4) (.slice uA5 un5 uc5) (.slice uA6 un6 uc6)).heap.size) := Lib.hid sto7_size.symm
                have K54 : Hid (Blk (sto7 v45 (v40.heap.size) (.int .i64 uh) (.slice uA1 un1 uc1) (.slice uA2 un2 uc2) (.slice uA3 un3 uc3) (.slice uA4 un4 uc4) (.slice uA5 un5 uc5) (.slice uA6 un6 uc6)) (v40.heap.size) 29 [.int .i64 uh, .slice uA1 un1 uc1, .slice uA2 un2 uc2, .slice uA3 un3 uc3, .slice uA4 un4 uc4, .slice uA5 un5 uc5, .slice uA6 un6 uc6]) := Lib.hid (sto7_blk K48.out)
                have K55 : Hid (Blk (sto7 v45 (v40.heap.size) (.int .i64 uh) (.slice uA1 un1 uc1) (.slice uA2 un2 uc2) (.slice uA3 un3 uc3) (.slice uA4 un4 uc4) (.slice uA5 un5 uc5) (.slice uA6 un6 uc6)) (v10.heap.size) 32 [.int .i64 0, .int .i64 0, .int .i64 0]) := Lib.hid (sto7_far K49.out (by have := z0.out; have := z13.out; have := z42.out; have := z47.out; omega))
                have P56 := Lib.hid (PQ.keep (w' := (sto7 v45 (v40.heap.size) (.int .i64 uh) (.slice uA1 un1 uc1) (.slice uA2 un2 uc2) (.slice uA3 un3 uc3) (.slice uA4 un4 uc4) (.slice uA5 un5 uc5) (.slice uA6 un6 uc6))) P50.out (fun b h1 h2 => sto7_keep (k := b) (by have := z0.out; have := z13.out; have := z42.out; have := z47.out; omega)))
                generalize (sto7 v45 (v40.heap.size) (.int .i64 uh) (.slice uA1 un1 uc1) (.slice uA2 un2 uc2) (.slice uA3 un3 uc3) (.slice uA4 un4 uc4) (.slice uA5 un5 uc5) (.slice uA6 un6 uc6)) = v51 at *
                refine hK.out _ _ D52 (fun hHeld => ?_)
                clear hK K
                refine wpAnyH_ready (rs := [16]) (by kernel_rfl) (by simp) ?_
                refine AllReadyH.cons rfl (fun K hK => ?_) AllReadyH.nil
                have c0 : v51.cell? ⟨v10.heap.size, 0, none⟩ = some (.int .i64 0) := K55.out.cell 0
                have c1 : v51.cell? ⟨v10.heap.size, 1, none⟩ = some (.int .i64 0) := K55.out.cell 1
                have c2 : v51.cell? ⟨v10.heap.size, 2, none⟩ = some (.int .i64 0) := K55.out.cell 2
                have cf : ∀ i, v51.frozen? ⟨v10.heap.size, i, none⟩ = false := fun i => K55.out.frozen i
                go_simp
                clear cf c0 c1 c2
                change K _ (sto3 v51 (v10.heap.size) (.int .i64 ue) (.int .i64 ul) (.int .i64 uk))
                have D58 : Hid (Below w10.heap.size w10 (sto3 v51 (v10.heap.size) (.int .i64 ue) (.int .i64 ul) (.int .i64 uk))) := Lib.hid (sto3_below D52.out (by have := z0.out; have := z13.out; have := z42.out; have := z47.out; have := z53.out; omega))
                have z59 : Hid (v51.heap.size = (sto3 v51 (v10.heap.size) (.int .i64 ue) (.int .i64 ul) (.int .i64 uk)).heap.size) := Lib.hid sto3_size.symm
                have K60 : Hid (Blk (sto3 v51 (v10.heap.size) (.int .i64 ue) (.int .i64 ul) (.int .i64 uk)) (v10.heap.size) 32 [.int .i64 ue, .int .i64 ul, .int .i64 uk]) := Lib.hid (sto3_blk K55.out)
                have K61 : Hid (Blk (sto3 v51 (v10.heap.size) (.int .i64 ue) (.int .i64 ul) (.int .i64 uk)) (v40.heap.size) 29 [.int .i64 uh, .slice uA1 un1 uc1, .slice uA2 un2 uc2, .slice uA3 un3 uc3, .slice uA4 un4 uc4, .slice uA5 un5 uc5, .slice uA6 un6 uc6]) := Lib.hid (sto3_far K54.out (by have := z0.out; have := z13.out; have := z42.out; have := z47.out; have := z53.out; omega))
                have P62 := Lib.hid (PQ.keep (w' := (sto3 v51 (v10.heap.size) (.int .i64 ue) (.int .i64 ul) (.int .i64 uk))) P56.out (fun b h1 h2 => sto3_keep (k := b) (by have := z0.out; have := z13.out; have := z42.out; have := z47.out; have := z53.out; omega)))
                generalize (sto3 v51 (v10.heap.size) (.int .i64 ue) (.int .i64 ul) (.int .i64 uk)) = v57 at *
                refine hK.out _ _ D58 (fun hHeld => ?_)
                clear hK K
                refine wpAnyH_done (by kernel_rfl) ?_ _
                go_wp2_with fail
                go_meet
                exact ⟨_, _, uh, uA1, uA2, uA3, uA4, uA5, uA6, un1, un2, un3, un4, un5, un6, uc1, uc2, uc3, uc4, uc5, uc6, ue, ul, uk, rfl, rfl, K61, K60, D58, Lib.hid ⟨_, _, (by have := z0.out; have := z13.out; have := z42.out; have := z47.out; have := z53.out; have := z59.out; omega), P62.out⟩⟩
              exact AllReadyH.nil
            exact AllReadyH.nil
          refine AllReadyH.cons rfl (fun K hK => ?_) ?_
          · go_simp
            have D64 : Hid (Below w10.heap.size w10 (v0.alloc (.cells #[.int .i64 0, .slice none 0 0, .slice none 0 0, .slice none 0 0, .slice none 0 0, .slice none 0 0, .slice none 0 0] 29))) := Lib.hid (D0.out.alloc (by have := z0.out; omega) _)
            have z65 : Hid (v0.heap.size + 1 = (v0.alloc (.cells #[.int .i64 0, .slice none 0 0, .slice none 0 0, .slice none 0 0, .slice none 0 0, .slice none 0 0, .slice none 0 0] 29)).heap.size) := Lib.hid (by simp)
            have K66 : Hid (Blk (v0.alloc (.cells #[.int .i64 0, .slice none 0 0, .slice none 0 0, .slice none 0 0, .slice none 0 0, .slice none 0 0, .slice none 0 0] 29)) v0.heap.size 29 [.int .i64 0, .slice none 0 0, .slice none 0 0, .slice none 0 0, .slice none 0 0, .slice none 0 0, .slice none 0 0]) := Lib.hid (Blk.new v0 _ _)
            generalize v0.alloc (.cells #[.int .i64 0, .slice none 0 0, .slice none 0 0, .slice none 0 0, .slice none 0 0, .slice none 0 0, .slice none 0 0] 29) = v63 at *
            refine hK.out _ _ D64 (fun hHeld => ?_)
            clear hK K
            refine wpAnyH_ready (rs := [9, 14]) (by kernel_rfl) (by simp) ?_
            refine AllReadyH.cons rfl (fun K hK => ?_) ?_
            · go_simp
              go_at_call 9
              refine (CP3.out _ D64.out).mono ?_
              rintro e' v67 ⟨uh, uA1, uA2, uA3, uA4, uA5, uA6, un1, un2, un3, un4, un5, un6, uc1, uc2, uc3, uc4, uc5, uc6, ue, ul, uk, rfl, hpq, hb11⟩
              have D68 : Hid (Below w10.heap.size w10 v67) := Lib.hid (keep_trans D64.out hb11)
              have P69 : Hid (PQ R v63.heap.size v67.heap.size v67 (.int .i64 uh) (.slice uA1 un1 uc1) (.slice uA2 un2 uc2) (.slice uA3 un3 uc3) (.slice uA4 un4 uc4) (.slice uA5 un5 uc5) (.slice uA6 un6 uc6) (.int .i64 ue) (.int .i64 ul) (.int .i64 uk)) := Lib.hid hpq
              have z70 : Hid (v63.heap.size ≤ v67.heap.size) := Lib.hid hb11.size
              have K71 := Lib.hid (K66.out.after hb11)
              clear hpq hb11
              dsimp only
              refine hK.out _ _ D68 (fun hHeld => ?_)
              clear hK K
              refine wpAnyH_take (i := 10) (v := ?vu72) rfl (by kernel_rfl) (by kernel_rfl) (by kernel_rfl) (fun _ _ _ h => h) (Or.inl ⟨by rfl, ?hyu72⟩) (by assumption) ?restu72
              case hyu72 => (intro w' hSw; clear hSw; go_simp; try with_reducible rfl)
              try simp only [Act.put, List.setIfInBounds_toArray, List.set_cons_zero, List.set_cons_succ]
              refine wpAnyH_take (i := 11) (v := ?vu73) rfl (by kernel_rfl) (by kernel_rfl) (by kernel_rfl) (fun _ _ _ h => h) (Or.inl ⟨by rfl, ?hyu73⟩) (by assumption) ?restu73
              case hyu73 => (intro w' hSw; clear hSw; go_simp; try with_reducible rfl)
              try simp only [Act.put, List.setIfInBounds_toArray, List.set_cons_zero, List.set_cons_succ]
              refine wpAnyH_take (i := 12) (v := ?vu74) rfl (by kernel_rfl) (by kernel_rfl) (by kernel_rfl) (fun _ _ _ h => h) (Or.inl ⟨by rfl, ?hyu74⟩) (by assumption) ?restu74
              case hyu74 => (intro w' hSw; clear hSw; go_simp; try with_reducible rfl)
              try simp only [Act.put, List.setIfInBounds_toArray, List.set_cons_zero, List.set_cons_succ]
              refine wpAnyH_ready (rs := [14]) (by kernel_rfl) (by simp) ?_
              refine AllReadyH.cons rfl (fun K hK => ?_) ?_
              · go_simp
                have D76 : Hid (Below w10.heap.size w10 (v67.alloc (.cells #[.int .i64 0, .int .i64 0, .int .i64 0] 32))) := Lib.hid (D68.out.alloc (by have := z0.out; have := z65.out; have := z70.out; omega) _)
                have z77 : Hid (v67.heap.size + 1 = (v67.alloc (.cells #[.int .i64 0, .int .i64 0, .int .i64 0] 32)).heap.size) := Lib.hid (by simp)
                have K78 : Hid (Blk (v67.alloc (.cells #[.int .i64 0, .int .i64 0, .int .i64 0] 32)) v67.heap.size 32 [.int .i64 0, .int .i64 0, .int .i64 0]) := Lib.hid (Blk.new v67 _ _)
                have K79 := Lib.hid (K71.out.alloc (.cells #[.int .i64 0, .int .i64 0, .int .i64 0] 32))
                have P80 := Lib.hid (PQ.keep (w' := v67.alloc (.cells #[.int .i64 0, .int .i64 0, .int .i64 0] 32)) P69.out (fun b _ hb => Below.heap_alloc v67 _ b (by have := z0.out; have := z65.out; have := z70.out; omega)))
                generalize v67.alloc (.cells #[.int .i64 0, .int .i64 0, .int .i64 0] 32) = v75 at *
                refine hK.out _ _ D76 (fun hHeld => ?_)
                clear hK K
                refine wpAnyH_ready (rs := [15]) (by kernel_rfl) (by simp) ?_
                refine AllReadyH.cons rfl (fun K hK => ?_) AllReadyH.nil
                have c0 : v75.cell? ⟨v0.heap.size, 0, none⟩ = some (.int .i64 0) := K79.out.cell 0
                have c1 : v75.cell? ⟨v0.heap.size, 1, none⟩ = some (.slice none 0 0) := K79.out.cell 1
                have c2 : v75.cell? ⟨v0.heap.size, 2, none⟩ = some (.slice none 0 0) := K79.out.cell 2
                have c3 : v75.cell? ⟨v0.heap.size, 3, none⟩ = some (.slice none 0 0) := K79.out.cell 3
                have c4 : v75.cell? ⟨v0.heap.size, 4, none⟩ = some (.slice none 0 0) := K79.out.cell 4
                have c5 : v75.cell? ⟨v0.heap.size, 5, none⟩ = some (.slice none 0 0) := K79.out.cell 5
                have c6 : v75.cell? ⟨v0.heap.size, 6, none⟩ = some (.slice none 0 0) := K79.out.cell 6
                have cf : ∀ i, v75.frozen? ⟨v0.heap.size, i, none⟩ = false := fun i => K79.out.frozen i
                go_simp
                clear cf c0 c1 c2 c3 c4 c5 c6
                change K _ (sto7 v75 (v0.heap.size) (.int .i64 uh) (.slice uA1 un1 uc1) (.slice uA2 un2 uc2) (.slice uA3 un3 uc3) (.slice uA4 un4 uc4) (.slice uA5 un5 uc5) (.slice uA6 un6 uc6))
                have D82 : Hid (Below w10.heap.size w10 (sto7 v75 (v0.heap.size) (.int .i64 uh) (.slice uA1 un1 uc1) (.slice uA2 un2 uc2) (.slice uA3 un3 uc3) (.slice uA4 un4 uc4) (.slice uA5 un5 uc5) (.slice uA6 un6 uc6))) := Lib.hid (sto7_below D76.out (by have := z0.out; have := z65.out; have := z70.out; have := z77.out; omega))
                have z83 : Hid (v75.heap.size = (sto7 v75 (v0.heap.size) (.int .i64 uh) (.slice uA1 un1 uc1) (.slice uA2 un2 uc2) (.slice uA3 un3 uc3) (.slice uA4 un4 uc4) (.slice uA5 un5 uc5) (.slice uA6 un6 uc6)).heap.size) := Lib.hid sto7_size.symm
                have K84 : Hid (Blk (sto7 v75 (v0.heap.size) (.int .i64 uh) (.slice uA1 un1 uc1) (.slice uA2 un2 uc2) (.slice uA3 un3 uc3) (.slice uA4 un4 uc4) (.slice uA5 un5 uc5) (.slice uA6 un6 uc6)) (v0.heap.size) 29 [.int .i64 uh, .slice uA1 un1 uc1, .slice uA2 un2 uc2, .slice uA3 un3 uc3, .slice uA4 un4 uc4, .slice uA5 un5 uc5, .slice uA6 un6 uc6]) := Lib.hid (sto7_blk K79.out)
                have K85 : Hid (Blk (sto7 v75 (v0.heap.size) (.int .i64 uh) (.slice uA1 un1 uc1) (.slice uA2 un2 uc2) (.slice uA3 un3 uc3) (.slice uA4 un4 uc4) (.slice uA5 un5 uc5) (.slice uA6 un6 uc6)) (v67.heap.size) 32 [.int .i64 0, .int .i64 0, .int .i64 0]) := Lib.hid (sto7_far K78.out (by have := z0.out; have := z65.out; have := z70.out; have := z77.out; omega))
                have P86 := Lib.hid (PQ.keep (w' := (sto7 v75 (v0.heap.size) (.int .i64 uh) (.slice uA1 un1 uc1) (.slice uA2 un2 uc2) (.slice uA3 un3 uc3) (.slice uA4 un4 uc4) (.slice uA5 un5 uc5) (.slice uA6 un6 uc6))) P80.out (fun b h1 h2 => sto7_keep (k := b) (by have := z0.out; have := z65.out; have := z70.out; have := z77.out; omega)))
                generalize (sto7 v75 (v0.heap.size) (.int .i64 uh) (.slice uA1 un1 uc1) (.slice uA2 un2 uc2) (.slice uA3 un3 uc3) (.slice uA4 un4 uc4) (.slice uA5 un5 uc5) (.slice uA6 un6 uc6)) = v81 at *
                refine hK.out _ _ D82 (fun hHeld => ?_)
                clear hK K
                refine wpAnyH_ready (rs := [16]) (by kernel_rfl) (by simp) ?_
                refine AllReadyH.cons rfl (fun K hK => ?_) AllReadyH.nil
                have c0 : v81.cell? ⟨v67.heap.size, 0, none⟩ = some (.int .i64 0) := K85.out.cell 0
                have c1 : v81.cell? ⟨v67.heap.size, 1, none⟩ = some (.int .i64 0) := K85.out.cell 1
                have c2 : v81.cell? ⟨v67.heap.size, 2, none⟩ = some (.int .i64 0) := K85.out.cell 2
                have cf : ∀ i, v81.frozen? ⟨v67.heap.size, i, none⟩ = false := fun i => K85.out.frozen i
                go_simp
                clear cf c0 c1 c2
                change K _ (sto3 v81 (v67.heap.size) (.int .i64 ue) (.int .i64 ul) (.int .i64 uk))
                have D88 : Hid (Below w10.heap.size w10 (sto3 v81 (v67.heap.size) (.int .i64 ue) (.int .i64 ul) (.int .i64 uk))) := Lib.hid (sto3_below D82.out (by have := z0.out; have := z65.out; have := z70.out; have := z77.out; have := z83.out; omega))
                have z89 : Hid (v81.heap.size = (sto3 v81 (v67.heap.size) (.int .i64 ue) (.int .i64 ul) (.int .i64 uk)).heap.size) := Lib.hid sto3_size.symm
                have K90 : Hid (Blk (sto3 v81 (v67.heap.size) (.int .i64 ue) (.int .i64 ul) (.int .i64 uk)) (v67.heap.size) 32 [.int .i64 ue, .int .i64 ul, .int .i64 uk]) := Lib.hid (sto3_blk K85.out)
                have K91 : Hid (Blk (sto3 v81 (v67.heap.size) (.int .i64 ue) (.int .i64 ul) (.int .i64 uk)) (v0.heap.size) 29 [.int .i64 uh, .slice uA1 un1 uc1, .slice uA2 un2 uc2, .slice uA3 un3 uc3, .slice uA4 un4 uc4, .slice uA5 un5 uc5, .slice uA6 un6 uc6]) := Lib.hid (sto3_far K84.out (by have := z0.out; have := z65.out; have := z70.out; have := z77.out; have := z83.out; omega))
                have P92 := Lib.hid (PQ.keep (w' := (sto3 v81 (v67.heap.size) (.int .i64 ue) (.int .i64 ul) (.int .i64 uk))) P86.out (fun b h1 h2 => sto3_keep (k := b) (by have := z0.out; have := z65.out; have := z70.out; have := z77.out; have := z83.out; omega)))
                generalize (sto3 v81 (v67.heap.size) (.int .i64 ue) (.int .i64 ul) (.int .i64 uk)) = v87 at *
                refine hK.out _ _ D88 (fun hHeld => ?_)
                clear hK K
                refine wpAnyH_done (by kernel_rfl) ?_ _
                go_wp2_with fail
                go_meet
                exact ⟨_, _, uh, uA1, uA2, uA3, uA4, uA5, uA6, un1, un2, un3, un4, un5, un6, uc1, uc2, uc3, uc4, uc5, uc6, ue, ul, uk, rfl, rfl, K91, K90, D88, Lib.hid ⟨_, _, (by have := z0.out; have := z65.out; have := z70.out; have := z77.out; have := z83.out; have := z89.out; omega), P92.out⟩⟩
              exact AllReadyH.nil
            refine AllReadyH.cons rfl (fun K hK => ?_) ?_
            · go_simp
              have D94 : Hid (Below w10.heap.size w10 (v63.alloc (.cells #[.int .i64 0, .int .i64 0, .int .i64 0] 32))) := Lib.hid (D64.out.alloc (by have := z0.out; have := z65.out; omega) _)
              have z95 : Hid (v63.heap.size + 1 = (v63.alloc (.cells #[.int .i64 0, .int .i64 0, .int .i64 0] 32)).heap.size) := Lib.hid (by simp)
              have K96 : Hid (Blk (v63.alloc (.cells #[.int .i64 0, .int .i64 0, .int .i64 0] 32)) v63.heap.size 32 [.int .i64 0, .int .i64 0, .int .i64 0]) := Lib.hid (Blk.new v63 _ _)
              have K97 := Lib.hid (K66.out.alloc (.cells #[.int .i64 0, .int .i64 0, .int .i64 0] 32))
              generalize v63.alloc (.cells #[.int .i64 0, .int .i64 0, .int .i64 0] 32) = v93 at *
              refine hK.out _ _ D94 (fun hHeld => ?_)
              clear hK K
              refine wpAnyH_ready (rs := [9]) (by kernel_rfl) (by simp) ?_
              refine AllReadyH.cons rfl (fun K hK => ?_) ?_
              · go_simp
                go_at_call 9
                refine (CP3.out _ D94.out).mono ?_
                rintro e' v98 ⟨uh, uA1, uA2, uA3, uA4, uA5, uA6, un1, un2, un3, un4, un5, un6, uc1, uc2, uc3, uc4, uc5, uc6, ue, ul, uk, rfl, hpq, hb11⟩
                have D99 : Hid (Below w10.heap.size w10 v98) := Lib.hid (keep_trans D94.out hb11)
                have P100 : Hid (PQ R v93.heap.size v98.heap.size v98 (.int .i64 uh) (.slice uA1 un1 uc1) (.slice uA2 un2 uc2) (.slice uA3 un3 uc3) (.slice uA4 un4 uc4) (.slice uA5 un5 uc5) (.slice uA6 un6 uc6) (.int .i64 ue) (.int .i64 ul) (.int .i64 uk)) := Lib.hid hpq
                have z101 : Hid (v93.heap.size ≤ v98.heap.size) := Lib.hid hb11.size
                have K102 := Lib.hid (K97.out.after hb11)
                have K103 := Lib.hid (K96.out.after hb11)
                clear hpq hb11
                dsimp only
                refine hK.out _ _ D99 (fun hHeld => ?_)
                clear hK K
                refine wpAnyH_take (i := 10) (v := ?vu104) rfl (by kernel_rfl) (by kernel_rfl) (by kernel_rfl) (fun _ _ _ h => h) (Or.inl ⟨by rfl, ?hyu104⟩) (by assumption) ?restu104
                case hyu104 => (intro w' hSw; clear hSw; go_simp; try with_reducible rfl)
                try simp only [Act.put, List.setIfInBounds_toArray, List.set_cons_zero, List.set_cons_succ]
                refine wpAnyH_take (i := 11) (v := ?vu105) rfl (by kernel_rfl) (by kernel_rfl) (by kernel_rfl) (fun _ _ _ h => h) (Or.inl ⟨by rfl, ?hyu105⟩) (by assumption) ?restu105
                case hyu105 => (intro w' hSw; clear hSw; go_simp; try with_reducible rfl)
                try simp only [Act.put, List.setIfInBounds_toArray, List.set_cons_zero, List.set_cons_succ]
                refine wpAnyH_take (i := 12) (v := ?vu106) rfl (by kernel_rfl) (by kernel_rfl) (by kernel_rfl) (fun _ _ _ h => h) (Or.inl ⟨by rfl, ?hyu106⟩) (by assumption) ?restu106
                case hyu106 => (intro w' hSw; clear hSw; go_simp; try with_reducible rfl)
                try simp only [Act.put, List.setIfInBounds_toArray, List.set_cons_zero, List.set_cons_succ]
                refine wpAnyH_ready (rs := [15]) (by kernel_rfl) (by simp) ?_
                refine AllReadyH.cons rfl (fun K hK => ?_) AllReadyH.nil
                have c0 : v98.cell? ⟨v0.heap.size, 0, none⟩ = some (.int .i64 0) := K102.out.cell 0
                have c1 : v98.cell? ⟨v0.heap.size, 1, none⟩ = some (.slice none 0 0) := K102.out.cell 1
                have c2 : v98.cell? ⟨v0.heap.size, 2, none⟩ = some (.slice none 0 0) := K102.out.cell 2
                have c3 : v98.cell? ⟨v0.heap.size, 3, none⟩ = some (.slice none 0 0) := K102.out.cell 3
                have c4 : v98.cell? ⟨v0.heap.size, 4, none⟩ = some (.slice none 0 0) := K102.out.cell 4
                have c5 : v98.cell? ⟨v0.heap.size, 5, none⟩ = some (.slice none 0 0) := K102.out.cell 5
                have c6 : v98.cell? ⟨v0.heap.size, 6, none⟩ = some (.slice none 0 0) := K102.out.cell 6
                have cf : ∀ i, v98.frozen? ⟨v0.heap.size, i, none⟩ = false := fun i => K102.out.frozen i
                go_simp
                clear cf c0 c1 c2 c3 c4 c5 c6
                change K _ (sto7 v98 (v0.heap.size) (.int .i64 uh) (.slice uA1 un1 uc1) (.slice uA2 un2 uc2) (.slice uA3 un3 uc3) (.slice uA4 un4 uc4) (.slice uA5 un5 uc5) (.slice uA6 un6 uc6))
                have D108 : Hid (Below w10.heap.size w10 (sto7 v98 (v0.heap.size) (.int .i64 uh) (.slice uA1 un1 uc1) (.slice uA2 un2 uc2) (.slice uA3 un3 uc3) (.slice uA4 un4 uc4) (.slice uA5 un5 uc5) (.slice uA6 un6 uc6))) := Lib.hid (sto7_below D99.out (by have := z0.out; have := z65.out; have := z95.out; have := z101.out; omega))
                have z109 : Hid (v98.heap.size = (sto7 v98 (v0.heap.size) (.int .i64 uh) (.slice uA1 un1 uc1) (.slice uA2 un2 uc2) (.slice uA3 un3 uc3) (.slice uA4 un4 uc4) (.slice uA5 un5 uc5) (.slice uA6 un6 uc6)).heap.size) := Lib.hid sto7_size.symm
                have K110 : Hid (Blk (sto7 v98 (v0.heap.size) (.int .i64 uh) (.slice uA1 un1 uc1) (.slice uA2 un2 uc2) (.slice uA3 un3 uc3) (.slice uA4 un4 uc4) (.slice uA5 un5 uc5) (.slice uA6 un6 uc6)) (v0.heap.size) 29 [.int .i64 uh, .slice uA1 un1 uc1, .slice uA2 un2 uc2, .slice uA3 un3 uc3, .slice uA4 un4 uc4, .slice uA5 un5 uc5, .slice uA6 un6 uc6]) := Lib.hid (sto7_blk K102.out)
                have K111 : Hid (Blk (sto7 v98 (v0.heap.size) (.int .i64 uh) (.slice uA1 un1 uc1) (.slice uA2 un2 uc2) (.slice uA3 un3 uc3) (.slice uA4 un4 uc4) (.slice uA5 un5 uc5) (.slice uA6 un6 uc6)) (v63.heap.size) 32 [.int .i64 0, .int .i64 0, .int .i64 0]) := Lib.hid (sto7_far K103.out (by have := z0.out; have := z65.out; have := z95.out; have := z101.out; omega))
                have P112 := Lib.hid (PQ.keep (w' := (sto7 v98 (v0.heap.size) (.int .i64 uh) (.slice uA1 un1 uc1) (.slice uA2 un2 uc2) (.slice uA3 un3 uc3) (.slice uA4 un4 uc4) (.slice uA5 un5 uc5) (.slice uA6 un6 uc6))) P100.out (fun b h1 h2 => sto7_keep (k := b) (by have := z0.out; have := z65.out; have := z95.out; have := z101.out; omega)))
                generalize (sto7 v98 (v0.heap.size) (.int .i64 uh) (.slice uA1 un1 uc1) (.slice uA2 un2 uc2) (.slice uA3 un3 uc3) (.slice uA4 un4 uc4) (.slice uA5 un5 uc5) (.slice uA6 un6 uc6)) = v107 at *
                refine hK.out _ _ D108 (fun hHeld => ?_)
                clear hK K
                refine wpAnyH_ready (rs := [16]) (by kernel_rfl) (by simp) ?_
                refine AllReadyH.cons rfl (fun K hK => ?_) AllReadyH.nil
                have c0 : v107.cell? ⟨v63.heap.size, 0, none⟩ = some (.int .i64 0) := K111.out.cell 0
                have c1 : v107.cell? ⟨v63.heap.size, 1, none⟩ = some (.int .i64 0) := K111.out.cell 1
                have c2 : v107.cell? ⟨v63.heap.size, 2, none⟩ = some (.int .i64 0) := K111.out.cell 2
                have cf : ∀ i, v107.frozen? ⟨v63.heap.size, i, none⟩ = false := fun i => K111.out.frozen i
                go_simp
                clear cf c0 c1 c2
                change K _ (sto3 v107 (v63.heap.size) (.int .i64 ue) (.int .i64 ul) (.int .i64 uk))
                have D114 : Hid (Below w10.heap.size w10 (sto3 v107 (v63.heap.size) (.int .i64 ue) (.int .i64 ul) (.int .i64 uk))) := Lib.hid (sto3_below D108.out (by have := z0.out; have := z65.out; have := z95.out; have := z101.out; have := z109.out; omega))
                have z115 : Hid (v107.heap.size = (sto3 v107 (v63.heap.size) (.int .i64 ue) (.int .i64 ul) (.int .i64 uk)).heap.size) := Lib.hid sto3_size.symm
                have K116 : Hid (Blk (sto3 v107 (v63.heap.size) (.int .i64 ue) (.int .i64 ul) (.int .i64 uk)) (v63.heap.size) 32 [.int .i64 ue, .int .i64 ul, .int .i64 uk]) := Lib.hid (sto3_blk K111.out)
                have K117 : Hid (Blk (sto3 v107 (v63.heap.size) (.int .i64 ue) (.int .i64 ul) (.int .i64 uk)) (v0.heap.size) 29 [.int .i64 uh, .slice uA1 un1 uc1, .slice uA2 un2 uc2, .slice uA3 un3 uc3, .slice uA4 un4 uc4, .slice uA5 un5 uc5, .slice uA6 un6 uc6]) := Lib.hid (sto3_far K110.out (by have := z0.out; have := z65.out; have := z95.out; have := z101.out; have := z109.out; omega))
                have P118 := Lib.hid (PQ.keep (w' := (sto3 v107 (v63.heap.size) (.int .i64 ue) (.int .i64 ul) (.int .i64 uk))) P112.out (fun b h1 h2 => sto3_keep (k := b) (by have := z0.out; have := z65.out; have := z95.out; have := z101.out; have := z109.out; omega)))
                generalize (sto3 v107 (v63.heap.size) (.int .i64 ue) (.int .i64 ul) (.int .i64 uk)) = v113 at *
                refine hK.out _ _ D114 (fun hHeld => ?_)
                clear hK K
                refine wpAnyH_done (by kernel_rfl) ?_ _
                go_wp2_with fail
                go_meet
                exact ⟨_, _, uh, uA1, uA2, uA3, uA4, uA5, uA6, un1, un2, un3, un4, un5, un6, uc1, uc2, uc3, uc4, uc5, uc6, ue, ul, uk, rfl, rfl, K117, K116, D114, Lib.hid ⟨_, _, (by have := z0.out; have := z65.out; have := z95.out; have := z101.out; have := z109.out; have := z115.out; omega), P118.out⟩⟩
              exact AllReadyH.nil
            exact AllReadyH.nil
          refine AllReadyH.cons rfl (fun K hK => ?_) ?_
          · go_simp
            have D120 : Hid (Below w10.heap.size w10 (v0.alloc (.cells #[.int .i64 0, .int .i64 0, .int .i64 0] 32))) := Lib.hid (D0.out.alloc (by have := z0.out; omega) _)
            have z121 : Hid (v0.heap.size + 1 = (v0.alloc (.cells #[.int .i64 0, .int .i64 0, .int .i64 0] 32)).heap.size) := Lib.hid (by simp)
            have K122 : Hid (Blk (v0.alloc (.cells #[.int .i64 0, .int .i64 0, .int .i64 0] 32)) v0.heap.size 32 [.int .i64 0, .int .i64 0, .int .i64 0]) := Lib.hid (Blk.new v0 _ _)
            generalize v0.alloc (.cells #[.int .i64 0, .int .i64 0, .int .i64 0] 32) = v119 at *
            refine hK.out _ _ D120 (fun hHeld => ?_)
            clear hK K
            refine wpAnyH_ready (rs := [9, 13]) (by kernel_rfl) (by simp) ?_
            refine AllReadyH.cons rfl (fun K hK => ?_) ?_
            · go_simp
              go_at_call 9
              refine (CP3.out _ D120.out).mono ?_
              rintro e' v123 ⟨uh, uA1, uA2, uA3, uA4, uA5, uA6, un1, un2, un3, un4, un5, un6, uc1, uc2, uc3, uc4, uc5, uc6, ue, ul, uk, rfl, hpq, hb11⟩
              have D124 : Hid (Below w10.heap.size w10 v123) := Lib.hid (keep_trans D120.out hb11)
              have P125 : Hid (PQ R v119.heap.size v123.heap.size v123 (.int .i64 uh) (.slice uA1 un1 uc1) (.slice uA2 un2 uc2) (.slice uA3 un3 uc3) (.slice uA4 un4 uc4) (.slice uA5 un5 uc5) (.slice uA6 un6 uc6) (.int .i64 ue) (.int .i64 ul) (.int .i64 uk)) := Lib.hid hpq
              have z126 : Hid (v119.heap.size ≤ v123.heap.size) := Lib.hid hb11.size
              have K127 := Lib.hid (K122.out.after hb11)
              clear hpq hb11
              dsimp only
              refine hK.out _ _ D124 (fun hHeld => ?_)
              clear hK K
              refine wpAnyH_take (i := 10) (v := ?vu128) rfl (by kernel_rfl) (by kernel_rfl) (by kernel_rfl) (fun _ _ _ h => h) (Or.inl ⟨by rfl, ?hyu128⟩) (by assumption) ?restu128
              case hyu128 => (intro w' hSw; clear hSw; go_simp; try with_reducible rfl)
              try simp only [Act.put, List.setIfInBounds_toArray, List.set_cons_zero, List.set_cons_succ]
              refine wpAnyH_take (i := 11) (v := ?vu129) rfl (by kernel_rfl) (by kernel_rfl) (by kernel_rfl) (fun _ _ _ h => h) (Or.inl ⟨by rfl, ?hyu129⟩) (by assumption) ?restu129
              case hyu129 => (intro w' hSw; clear hSw; go_simp; try with_reducible rfl)
              try simp only [Act.put, List.setIfInBounds_toArray, List.set_cons_zero, List.set_cons_succ]
              refine wpAnyH_take (i := 12) (v := ?vu130) rfl (by kernel_rfl) (by kernel_rfl) (by kernel_rfl) (fun _ _ _ h => h) (Or.inl ⟨by rfl, ?hyu130⟩) (by assumption) ?restu130
              case hyu130 => (intro w' hSw; clear hSw; go_simp; try with_reducible rfl)
              try simp only [Act.put, List.setIfInBounds_toArray, List.set_cons_zero, List.set_cons_succ]
              refine wpAnyH_ready (rs := [13]) (by kernel_rfl) (by simp) ?_
              refine AllReadyH.cons rfl (fun K hK => ?_) ?_
              · go_simp
                have D132 : Hid (Below w10.heap.size w10 (v123.alloc (.cells #[.int .i64 0, .slice none 0 0, .slice none 0 0, .slice none 0 0, .slice none 0 0, .slice none 0 0, .slice none 0 0] 29))) := Lib.hid (D124.out.alloc (by have := z0.out; have := z121.out; have := z126.out; omega) _)
                have z133 : Hid (v123.heap.size + 1 = (v123.alloc (.cells #[.int .i64 0, .slice none 0 0, .slice none 0 0, .slice none 0 0, .slice none 0 0, .slice none 0 0, .slice none 0 0] 29)).heap.size) := Lib.hid (by simp)
                have K134 : Hid (Blk (v123.alloc (.cells #[.int .i64 0, .slice none 0 0, .slice none 0 0, .slice none 0 0, .slice none 0 0, .slice none 0 0, .slice none 0 0] 29)) v123.heap.size 29 [.int .i64 0, .slice none 0 0, .slice none 0 0, .slice none 0 0, .slice none 0 0, .slice none 0 0, .slice none 0 0]) := Lib.hid (Blk.new v123 _ _)
                have K135 := Lib.hid (K127.out.alloc (.cells #[.int .i64 0, .slice none 0 0, .slice none 0 0, .slice none 0 0, .slice none 0 0, .slice none 0 0, .slice none 0 0] 29))
                have P136 := Lib.hid (PQ.keep (w' := v123.alloc (.cells #[.int .i64 0, .slice none 0 0, .slice none 0 0, .slice none 0 0, .slice none 0 0, .slice none 0 0, .slice none 0 0] 29)) P125.out (fun b _ hb => Below.heap_alloc v123 _ b (by have := z0.out; have := z121.out; have := z126.out; omega)))
                generalize v123.alloc (.cells #[.int .i64 0, .slice none 0 0, .slice none 0 0, .slice none 0 0, .slice none 0 0, .slice none 0 0, .slice none 0 0] 29) = v131 at *
                refine hK.out _ _ D132 (fun hHeld => ?_)
                clear hK K
                refine wpAnyH_ready (rs := [15]) (by kernel_rfl) (by simp) ?_
                refine AllReadyH.cons rfl (fun K hK => ?_) AllReadyH.nil
                have c0 : v131.cell? ⟨v123.heap.size, 0, none⟩ = some (.int .i64 0) := K134.out.cell 0
                have c1 : v131.cell? ⟨v123.heap.size, 1, none⟩ = some (.slice none 0 0) := K134.out.cell 1
                have c2 : v131.cell? ⟨v123.heap.size, 2, none⟩ = some (.slice none 0 0) := K134.out.cell 2
                have c3 : v131.cell? ⟨v123.heap.size, 3, none⟩ = some (.slice none 0 0) := K134.out.cell 3
                have c4 : v131.cell? ⟨v123.heap.size, 4, none⟩ = some (.slice none 0 0) := K134.out.cell 4
                have c5 : v131.cell? ⟨v123.heap.size, 5, none⟩ = some (.slice none 0 0) := K134.out.cell 5
                have c6 : v131.cell? ⟨v123.heap.size, 6, none⟩ = some (.slice none 0 0) := K134.out.cell 6
                have cf : ∀ i, v131.frozen? ⟨v123.heap.size, i, none⟩ = false := fun i => K134.out.frozen i
                go_simp
                clear cf c0 c1 c2 c3 c4 c5 c6
                change K _ (sto7 v131 (v123.heap.size) (.int .i64 uh) (.slice uA1 un1 uc1) (.slice uA2 un2 uc2) (.slice uA3 un3 uc3) (.slice uA4 un4 uc4) (.slice uA5 un5 uc5) (.slice uA6 un6 uc6))
                have D138 : Hid (Below w10.heap.size w10 (sto7 v131 (v123.heap.size) (.int .i64 uh) (.slice uA1 un1 uc1) (.slice uA2 un2 uc2) (.slice uA3 un3 uc3) (.slice uA4 un4 uc4) (.slice uA5 un5 uc5) (.slice uA6 un6 uc6))) := Lib.hid (sto7_below D132.out (by have := z0.out; have := z121.out; have := z126.out; have := z133.out; omega))
                have z139 : Hid (v131.heap.size = (sto7 v131 (v123.heap.size) (.int .i64 uh) (.slice uA1 un1 uc1) (.slice uA2 un2 uc2) (.slice uA3 un3 uc3) (.slice uA4 un4 uc4) (.slice uA5 un5 uc5) (.slice uA6 un6 uc6)).heap.size) := Lib.hid sto7_size.symm
                have K140 : Hid (Blk (sto7 v131 (v123.heap.size) (.int .i64 uh) (.slice uA1 un1 uc1) (.slice uA2 un2 uc2) (.slice uA3 un3 uc3) (.slice uA4 un4 uc4) (.slice uA5 un5 uc5) (.slice uA6 un6 uc6)) (v123.heap.size) 29 [.int .i64 uh, .slice uA1 un1 uc1, .slice uA2 un2 uc2, .slice uA3 un3 uc3, .slice uA4 un4 uc4, .slice uA5 un5 uc5, .slice uA6 un6 uc6]) := Lib.hid (sto7_blk K134.out)
                have K141 : Hid (Blk (sto7 v131 (v123.heap.size) (.int .i64 uh) (.slice uA1 un1 uc1) (.slice uA2 un2 uc2) (.slice uA3 un3 uc3) (.slice uA4 un4 uc4) (.slice uA5 un5 uc5) (.slice uA6 un6 uc6)) (v0.heap.size) 32 [.int .i64 0, .int .i64 0, .int .i64 0]) := Lib.hid (sto7_far K135.out (by have := z0.out; have := z121.out; have := z126.out; have := z133.out; omega))
                have P142 := Lib.hid (PQ.keep (w' := (sto7 v131 (v123.heap.size) (.int .i64 uh) (.slice uA1 un1 uc1) (.slice uA2 un2 uc2) (.slice uA3 un3 uc3) (.slice uA4 un4 uc4) (.slice uA5 un5 uc5) (.slice uA6 un6 uc6))) P136.out (fun b h1 h2 => sto7_keep (k := b) (by have := z0.out; have := z121.out; have := z126.out; have := z133.out; omega)))
                generalize (sto7 v131 (v123.heap.size) (.int .i64 uh) (.slice uA1 un1 uc1) (.slice uA2 un2 uc2) (.slice uA3 un3 uc3) (.slice uA4 un4 uc4) (.slice uA5 un5 uc5) (.slice uA6 un6 uc6)) = v137 at *
                refine hK.out _ _ D138 (fun hHeld => ?_)
                clear hK K
                refine wpAnyH_ready (rs := [16]) (by kernel_rfl) (by simp) ?_
                refine AllReadyH.cons rfl (fun K hK => ?_) AllReadyH.nil
                have c0 : v137.cell? ⟨v0.heap.size, 0, none⟩ = some (.int .i64 0) := K141.out.cell 0
                have c1 : v137.cell? ⟨v0.heap.size, 1, none⟩ = some (.int .i64 0) := K141.out.cell 1
                have c2 : v137.cell? ⟨v0.heap.size, 2, none⟩ = some (.int .i64 0) := K141.out.cell 2
                have cf : ∀ i, v137.frozen? ⟨v0.heap.size, i, none⟩ = false := fun i => K141.out.frozen i
                go_simp
                clear cf c0 c1 c2
                change K _ (sto3 v137 (v0.heap.size) (.int .i64 ue) (.int .i64 ul) (.int .i64 uk))
                have D144 : Hid (Below w10.heap.size w10 (sto3 v137 (v0.heap.size) (.int .i64 ue) (.int .i64 ul) (.int .i64 uk))) := Lib.hid (sto3_below D138.out (by have := z0.out; have := z121.out; have := z126.out; have := z133.out; have := z139.out; omega))
                have z145 : Hid (v137.heap.size = (sto3 v137 (v0.heap.size) (.int .i64 ue) (.int .i64 ul) (.int .i64 uk)).heap.size) := Lib.hid sto3_size.symm
                have K146 : Hid (Blk (sto3 v137 (v0.heap.size) (.int .i64 ue) (.int .i64 ul) (.int .i64 uk)) (v0.heap.size) 32 [.int .i64 ue, .int .i64 ul, .int .i64 uk]) := Lib.hid (sto3_blk K141.out)
                have K147 : Hid (Blk (sto3 v137 (v0.heap.size) (.int .i64 ue) (.int .i64 ul) (.int .i64 uk)) (v123.heap.size) 29 [.int .i64 uh, .slice uA1 un1 uc1, .slice uA2 un2 uc2, .slice uA3 un3 uc3, .slice uA4 un4 uc4, .slice uA5 un5 uc5, .slice uA6 un6 uc6]) := Lib.hid (sto3_far K140.out (by have := z0.out; have := z121.out; have := z126.out; have := z133.out; have := z139.out; omega))
                have P148 := Lib.hid (PQ.keep (w' := (sto3 v137 (v0.heap.size) (.int .i64 ue) (.int .i64 ul) (.int .i64 uk))) P142.out (fun b h1 h2 => sto3_keep (k := b) (by have := z0.out; have := z121.out; have := z126.out; have := z133.out; have := z139.out; omega)))
                generalize (sto3 v137 (v0.heap.size) (.int .i64 ue) (.int .i64 ul) (.int .i64 uk)) = v143 at *
                refine hK.out _ _ D144 (fun hHeld => ?_)
                clear hK K
                refine wpAnyH_done (by kernel_rfl) ?_ _
                go_wp2_with fail
                go_meet
                exact ⟨_, _, uh, uA1, uA2, uA3, uA4, uA5, uA6, un1, un2, un3, un4, un5, un6, uc1, uc2, uc3, uc4, uc5, uc6, ue, ul, uk, rfl, rfl, K147, K146, D144, Lib.hid ⟨_, _, (by have := z0.out; have := z121.out; have := z126.out; have := z133.out; have := z139.out; have := z145.out; omega), P148.out⟩⟩
              exact AllReadyH.nil
            refine AllReadyH.cons rfl (fun K hK => ?_) ?_
            · go_simp
              have D150 : Hid (Below w10.heap.size w10 (v119.alloc (.cells #[.int .i64 0, .slice none 0 0, .slice none 0 0, .slice none 0 0, .slice none 0 0, .slice none 0 0, .slice none 0 0] 29))) := Lib.hid (D120.out.alloc (by have := z0.out; have := z121.out; omega) _)
              have z151 : Hid (v119.heap.size + 1 = (v119.alloc (.cells #[.int .i64 0, .slice none 0 0, .slice none 0 0, .slice none 0 0, .slice none 0 0, .slice none 0 0, .slice none 0 0] 29)).heap.size) := Lib.hid (by simp)
              have K152 : Hid (Blk (v119.alloc (.cells #[.int .i64 0, .slice none 0 0, .slice none 0 0, .slice none 0 0, .slice none 0 0, .slice none 0 0, .slice none 0 0] 29)) v119.heap.size 29 [.int .i64 0, .slice none 0 0, .slice none 0 0, .slice none 0 0, .slice none 0 0, .slice none 0 0, .slice none 0 0]) := Lib.hid (Blk.new v119 _ _)
              have K153 := Lib.hid (K122.out.alloc (.cells #[.int .i64 0, .slice none 0 0, .slice none 0 0, .slice none 0 0, .slice none 0 0, .slice none 0 0, .slice none 0 0] 29))
              generalize v119.alloc (.cells #[.int .i64 0, .slice none 0 0, .slice none 0 0, .slice none 0 0, .slice none 0 0, .slice none 0 0, .slice none 0 0] 29) = v149 at *
              refine hK.out _ _ D150 (fun hHeld => ?_)
              clear hK K
              refine wpAnyH_ready (rs := [9]) (by kernel_rfl) (by simp) ?_
              refine AllReadyH.cons rfl (fun K hK => ?_) ?_
              · go_simp
                go_at_call 9
                refine (CP3.out _ D150.out).mono ?_
                rintro e' v154 ⟨uh, uA1, uA2, uA3, uA4, uA5, uA6, un1, un2, un3, un4, un5, un6, uc1, uc2, uc3, uc4, uc5, uc6, ue, ul, uk, rfl, hpq, hb11⟩
                have D155 : Hid (Below w10.heap.size w10 v154) := Lib.hid (keep_trans D150.out hb11)
                have P156 : Hid (PQ R v149.heap.size v154.heap.size v154 (.int .i64 uh) (.slice uA1 un1 uc1) (.slice uA2 un2 uc2) (.slice uA3 un3 uc3) (.slice uA4 un4 uc4) (.slice uA5 un5 uc5) (.slice uA6 un6 uc6) (.int .i64 ue) (.int .i64 ul) (.int .i64 uk)) := Lib.hid hpq
                have z157 : Hid (v149.heap.size ≤ v154.heap.size) := Lib.hid hb11.size
                have K158 := Lib.hid (K152.out.after hb11)
                have K159 := Lib.hid (K153.out.after hb11)
                clear hpq hb11
                dsimp only
                refine hK.out _ _ D155 (fun hHeld => ?_)
                clear hK K
                refine wpAnyH_take (i := 10) (v := ?vu160) rfl (by kernel_rfl) (by kernel_rfl) (by kernel_rfl) (fun _ _ _ h => h) (Or.inl ⟨by rfl, ?hyu160⟩) (by assumption) ?restu160
                case hyu160 => (intro w' hSw; clear hSw; go_simp; try with_reducible rfl)
                try simp only [Act.put, List.setIfInBounds_toArray, List.set_cons_zero, List.set_cons_succ]
                refine wpAnyH_take (i := 11) (v := ?vu161) rfl (by kernel_rfl) (by kernel_rfl) (by kernel_rfl) (fun _ _ _ h => h) (Or.inl ⟨by rfl, ?hyu161⟩) (by assumption) ?restu161
                case hyu161 => (intro w' hSw; clear hSw; go_simp; try with_reducible rfl)
                try simp only [Act.put, List.setIfInBounds_toArray, List.set_cons_zero, List.set_cons_succ]
                refine wpAnyH_take (i := 12) (v := ?vu162) rfl (by kernel_rfl) (by kernel_rfl) (by kernel_rfl) (fun _ _ _ h => h) (Or.inl ⟨by rfl, ?hyu162⟩) (by assumption) ?restu162
                case hyu162 => (intro w' hSw; clear hSw; go_simp; try with_reducible rfl)
                try simp only [Act.put, List.setIfInBounds_toArray, List.set_cons_zero, List.set_cons_succ]
                refine wpAnyH_ready (rs := [15]) (by kernel_rfl) (by simp) ?_
                refine AllReadyH.cons rfl (fun K hK => ?_) AllReadyH.nil
                have c0 : v154.cell? ⟨v119.heap.size, 0, none⟩ = some (.int .i64 0) := K158.out.cell 0
                have c1 : v154.cell? ⟨v119.heap.size, 1, none⟩ = some (.slice none 0 0) := K158.out.cell 1
                have c2 : v154.cell? ⟨v119.heap.size, 2, none⟩ = some (.slice none 0 0) := K158.out.cell 2
                have c3 : v154.cell? ⟨v119.heap.size, 3, none⟩ = some (.slice none 0 0) := K158.out.cell 3
                have c4 : v154.cell? ⟨v119.heap.size, 4, none⟩ = some (.slice none 0 0) := K158.out.cell 4
                have c5 : v154.cell? ⟨v119.heap.size, 5, none⟩ = some (.slice none 0 0) := K158.out.cell 5
                have c6 : v154.cell? ⟨v119.heap.size, 6, none⟩ = some (.slice none 0 0) := K158.out.cell 6
                have cf : ∀ i, v154.frozen? ⟨v119.heap.size, i, none⟩ = false := fun i => K158.out.frozen i
                go_simp
                clear cf c0 c1 c2 c3 c4 c5 c6
                change K _ (sto7 v154 (v119.heap.size) (.int .i64 uh) (.slice uA1 un1 uc1) (.slice uA2 un2 uc2) (.slice uA3 un3 uc3) (.slice uA4 un4 uc4) (.slice uA5 un5 uc5) (.slice uA6 un6 uc6))
                have D164 : Hid (Below w10.heap.size w10 (sto7 v154 (v119.heap.size) (.int .i64 uh) (.slice uA1 un1 uc1) (.slice uA2 un2 uc2) (.slice uA3 un3 uc3) (.slice uA4 un4 uc4) (.slice uA5 un5 uc5) (.slice uA6 un6 uc6))) := Lib.hid (sto7_below D155.out (by have := z0.out; have := z121.out; have := z151.out; have := z157.out; omega))
                have z165 : Hid (v154.heap.size = (sto7 v154 (v119.heap.size) (.int .i64 uh) (.slice uA1 un1 uc1) (.slice uA2 un2 uc2) (.slice uA3 un3 uc3) (.slice uA4 un4 uc4) (.slice uA5 un5 uc5) (.slice uA6 un6 uc6)).heap.size) := Lib.hid sto7_size.symm
                have K166 : Hid (Blk (sto7 v154 (v119.heap.size) (.int .i64 uh) (.slice uA1 un1 uc1) (.slice uA2 un2 uc2) (.slice uA3 un3 uc3) (.slice uA4 un4 uc4) (.slice uA5 un5 uc5) (.slice uA6 un6 uc6)) (v119.heap.size) 29 [.int .i64 uh, .slice uA1 un1 uc1, .slice uA2 un2 uc2, .slice uA3 un3 uc3, .slice uA4 un4 uc4, .slice uA5 un5 uc5, .slice uA6 un6 uc6]) := Lib.hid (sto7_blk K158.out)
                have K167 : Hid (Blk (sto7 v154 (v119.heap.size) (.int .i64 uh) (.slice uA1 un1 uc1) (.slice uA2 un2 uc2) (.slice uA3 un3 uc3) (.slice uA4 un4 uc4) (.slice uA5 un5 uc5) (.slice uA6 un6 uc6)) (v0.heap.size) 32 [.int .i64 0, .int .i64 0, .int .i64 0]) := Lib.hid (sto7_far K159.out (by have := z0.out; have := z121.out; have := z151.out; have := z157.out; omega))
                have P168 := Lib.hid (PQ.keep (w' := (sto7 v154 (v119.heap.size) (.int .i64 uh) (.slice uA1 un1 uc1) (.slice uA2 un2 uc2) (.slice uA3 un3 uc3) (.slice uA4 un4 uc4) (.slice uA5 un5 uc5) (.slice uA6 un6 uc6))) P156.out (fun b h1 h2 => sto7_keep (k := b) (by have := z0.out; have := z121.out; have := z151.out; have := z157.out; omega)))
                generalize (sto7 v154 (v119.heap.size) (.int .i64 uh) (.slice uA1 un1 uc1) (.slice uA2 un2 uc2) (.slice uA3 un3 uc3) (.slice uA4 un4 uc4) (.slice uA5 un5 uc5) (.slice uA6 un6 uc6)) = v163 at *
                refine hK.out _ _ D164 (fun hHeld => ?_)
                clear hK K
                refine wpAnyH_ready (rs := [16]) (by kernel_rfl) (by simp) ?_
                refine AllReadyH.cons rfl (fun K hK => ?_) AllReadyH.nil
                have c0 : v163.cell? ⟨v0.heap.size, 0, none⟩ = some (.int .i64 0) := K167.out.cell 0
                have c1 : v163.cell? ⟨v0.heap.size, 1, none⟩ = some (.int .i64 0) := K167.out.cell 1
                have c2 : v163.cell? ⟨v0.heap.size, 2, none⟩ = some (.int .i64 0) := K167.out.cell 2
                have cf : ∀ i, v163.frozen? ⟨v0.heap.size, i, none⟩ = false := fun i => K167.out.frozen i
                go_simp
                clear cf c0 c1 c2
                change K _ (sto3 v163 (v0.heap.size) (.int .i64 ue) (.int .i64 ul) (.int .i64 uk))
                have D170 : Hid (Below w10.heap.size w10 (sto3 v163 (v0.heap.size) (.int .i64 ue) (.int .i64 ul) (.int .i64 uk))) := Lib.hid (sto3_below D164.out (by have := z0.out; have := z121.out; have := z151.out; have := z157.out; have := z165.out; omega))
                have z171 : Hid (v163.heap.size = (sto3 v163 (v0.heap.size) (.int .i64 ue) (.int .i64 ul) (.int .i64 uk)).heap.size) := Lib.hid sto3_size.symm
                have K172 : Hid (Blk (sto3 v163 (v0.heap.size) (.int .i64 ue) (.int .i64 ul) (.int .i64 uk)) (v0.heap.size) 32 [.int .i64 ue, .int .i64 ul, .int .i64 uk]) := Lib.hid (sto3_blk K167.out)
                have K173 : Hid (Blk (sto3 v163 (v0.heap.size) (.int .i64 ue) (.int .i64 ul) (.int .i64 uk)) (v119.heap.size) 29 [.int .i64 uh, .slice uA1 un1 uc1, .slice uA2 un2 uc2, .slice uA3 un3 uc3, .slice uA4 un4 uc4, .slice uA5 un5 uc5, .slice uA6 un6 uc6]) := Lib.hid (sto3_far K166.out (by have := z0.out; have := z121.out; have := z151.out; have := z157.out; have := z165.out; omega))
                have P174 := Lib.hid (PQ.keep (w' := (sto3 v163 (v0.heap.size) (.int .i64 ue) (.int .i64 ul) (.int .i64 uk))) P168.out (fun b h1 h2 => sto3_keep (k := b) (by have := z0.out; have := z121.out; have := z151.out; have := z157.out; have := z165.out; omega)))
                generalize (sto3 v163 (v0.heap.size) (.int .i64 ue) (.int .i64 ul) (.int .i64 uk)) = v169 at *
                refine hK.out _ _ D170 (fun hHeld => ?_)
                clear hK K
                refine wpAnyH_done (by kernel_rfl) ?_ _
                go_wp2_with fail
                go_meet
                exact ⟨_, _, uh, uA1, uA2, uA3, uA4, uA5, uA6, un1, un2, un3, un4, un5, un6, uc1, uc2, uc3, uc4, uc5, uc6, ue, ul, uk, rfl, rfl, K173, K172, D170, Lib.hid ⟨_, _, (by have := z0.out; have := z121.out; have := z151.out; have := z157.out; have := z165.out; have := z171.out; omega), P174.out⟩⟩
              exact AllReadyH.nil
            exact AllReadyH.nil
          exact AllReadyH.nil
        case rest =>
          obtain ⟨s, f, uh, uA1, uA2, uA3, uA4, uA5, uA6, un1, un2, un3, un4, un5, un6, uc1, uc2, uc3, uc4, uc5, uc6, ue, ul, uk, rfl, rfl, KS, KF, BW, HPQ⟩ := hcut
          obtain ⟨lo, hi, hhi, hpq⟩ := HPQ.out
          have HHI := Lib.hid hhi
          have HSZ : Hid (((⟨l0.toArray⟩ : ByteArray) ++ ⟨#[10]⟩ ++ ⟨lr.toArray⟩).size ≤ 65536) := Lib.hid (by rw [Lib.size_eq]; simp; omega)
          clear g1 g2 q3 q4
          cases r with
          | zero =>
            have hll : lr = l0 := by
              have h1 := HLR.out
              rw [HLL.out, line_zero, ← HL0.out] at h1
              exact (Option.some.inj h1).symm
            have hR : R = .bad 7 2 1 := by
              rw [HRR.out]
              refine parse_twice HX.out.h ?_ HSZ.out
              rw [hll, ← HL0.out]
              simp
            rw [hR] at hpq
            obtain ⟨-, e2⟩ := hpq
            simp only [List.cons.injEq, Value.int.injEq, true_and, and_true] at e2
            obtain ⟨rfl, rfl, rfl⟩ := e2
            have f0 : wc.cell? ⟨f, 0, none⟩ = some (.int .i64 7) := KF.out.cell 0
            have f1 : wc.cell? ⟨f, 1, none⟩ = some (.int .i64 2) := KF.out.cell 1
            have f2 : wc.cell? ⟨f, 2, none⟩ = some (.int .i64 1) := KF.out.cell 2
            clear hll hR
            go_wp2
            go_ret
            exact ⟨rfl, keep_trans HB6.out (keep_trans B10.out BW.out)⟩
          | succ k =>
            obtain ⟨it, hit, hle2⟩ := line_succ (by rw [← HLL.out]; exact HLR.out)
            have hok := items_ok HX.out it hit
            have hR : R = .ok (oneM x.horizon it) [] := by
              rw [HRR.out]
              refine one_parse HX.out.h hok ?_ HSZ.out
              rw [← HL0.out, ← hle2]
              simp
            rw [hR] at hpq
            have HONE := Lib.hid (one_may HX.out.h hok)
            have HCNT := Lib.hid (one_count x.horizon it)
            clear hR hle2 hok hit
            obtain ⟨pc, e1, e2, hs⟩ := hpq
            generalize oneM x.horizon it = X1 at *
            simp only [shL', List.cons.injEq, Value.int.injEq, Value.slice.injEq, true_and, and_true] at e1 e2
            obtain ⟨rfl, ⟨rfl, rfl, rfl⟩, ⟨rfl, rfl, rfl⟩, ⟨rfl, rfl, rfl⟩, ⟨rfl, rfl, rfl⟩, ⟨rfl, rfl, rfl⟩, rfl, rfl, rfl⟩ := e1
            obtain ⟨rfl, rfl, rfl⟩ := e2
            have T1 : Hid (∀ w', Calls Tryz.prog 11 #[(.agg #[.int .i64 X1.horizon, .slice pc.a1 X1.stops.length pc.c1, .slice pc.a2 X1.paths.length pc.c2, .slice pc.a3 X1.doors.length pc.c3, .slice pc.a4 X1.routes.length pc.c4, .slice pc.a5 X1.trips.length pc.c5, .slice pc.a6 X1.hazards.length pc.c6])] w' (fun e w'' => e = .returned (.int .i64 1) ∧ Below w'.heap.size w' w'')) := Lib.hid (fun w' => by have := things_any X1 pc w' (mayfew HONE.out); rw [HCNT.out] at this; exact this)
            have f0 : wc.cell? ⟨f, 0, none⟩ = some (.int .i64 0) := KF.out.cell 0
            have f1 : wc.cell? ⟨f, 1, none⟩ = some (.int .i64 0) := KF.out.cell 1
            have f2 : wc.cell? ⟨f, 2, none⟩ = some (.int .i64 0) := KF.out.cell 2
            have s0 : wc.cell? ⟨s, 0, none⟩ = some (.int .i64 X1.horizon) := KS.out.cell 0
            have s1 : wc.cell? ⟨s, 1, none⟩ = some (.slice pc.a1 X1.stops.length pc.c1) := KS.out.cell 1
            have s2 : wc.cell? ⟨s, 2, none⟩ = some (.slice pc.a2 X1.paths.length pc.c2) := KS.out.cell 2
            have s3 : wc.cell? ⟨s, 3, none⟩ = some (.slice pc.a3 X1.doors.length pc.c3) := KS.out.cell 3
            have s4 : wc.cell? ⟨s, 4, none⟩ = some (.slice pc.a4 X1.routes.length pc.c4) := KS.out.cell 4
            have s5 : wc.cell? ⟨s, 5, none⟩ = some (.slice pc.a5 X1.trips.length pc.c5) := KS.out.cell 5
            have s6 : wc.cell? ⟨s, 6, none⟩ = some (.slice pc.a6 X1.hazards.length pc.c6) := KS.out.cell 6
            have hkb : (((k + 1 : Nat) : Int) == 0) = false := by rw [beq_eq_false_iff_ne]; omega
            have hkc : ((k : Int) + 1 == 0) = false := by rw [beq_eq_false_iff_ne]; omega
            have S13 : Hid (Sh wc (· < wc.heap.size) X1 pc) := Lib.hid (hs.more fun b hb => by have := HHI.out; have := hb.2; show b < wc.heap.size; omega)
            go_wp2_with (first
              | (go_at_call 11; (with_reducible refine (T1.out _).mono ?_); rintro e' w12 ⟨rfl, hb⟩; have B12 := Lib.hid (keep_trans BW.out hb); have K12 := Lib.hid (KS.out.after hb); have S12 := Lib.hid (S13.out.later hb); have t0 : w12.cell? ⟨s, 0, none⟩ = some (.int .i64 X1.horizon) := K12.out.cell 0; have t1 : w12.cell? ⟨s, 1, none⟩ = some (.slice pc.a1 X1.stops.length pc.c1) := K12.out.cell 1; have t2 : w12.cell? ⟨s, 2, none⟩ = some (.slice pc.a2 X1.paths.length pc.c2) := K12.out.cell 2; have t3 : w12.cell? ⟨s, 3, none⟩ = some (.slice pc.a3 X1.doors.length pc.c3) := K12.out.cell 3; have t4 : w12.cell? ⟨s, 4, none⟩ = some (.slice pc.a4 X1.routes.length pc.c4) := K12.out.cell 4; have t5 : w12.cell? ⟨s, 5, none⟩ = some (.slice pc.a5 X1.trips.length pc.c5) := K12.out.cell 5; have t6 : w12.cell? ⟨s, 6, none⟩ = some (.slice pc.a6 X1.hazards.length pc.c6) := K12.out.cell 6; clear hb)
              | (go_at_call 12; refine (may_check HONE.out pc _ S12.out).mono ?_; rintro e' w14 ⟨rfl, hb⟩; have B14 := Lib.hid (keep_trans B12.out hb); clear hb)
              | fail)
            go_ret
            exact ⟨rfl, keep_trans HB6.out (keep_trans B10.out B14.out)⟩
theorem back_all (x : SheetM) (p : ShA) (at_ : Int) (w : World) (hE : Tk.Env w) (h0 : -9223372036854775808 ≤ at_) (h1 : at_ ≤ 9223372036854775807) (hsh : Sh w (· < w.heap.size) x p) :
    Calls Tryz.prog 4 #[shV x p, .int .i64 at_] w fun e w' => e = .returned (.bool true) ∧ Below w.heap.size w w' := by
  cases hl : lightM x with
  | false => exact back_dark x p at_ w hE hsh hl
  | true =>
    by_cases hc : checkM x = 0
    · exact back_ok x p at_ w hE h0 h1 hsh hl (may_of hc)
    · exact back_not x p at_ w hE hsh hl hc
end Go.Proofs.YteonmabfhilcfaaGreatDoor.Sh
