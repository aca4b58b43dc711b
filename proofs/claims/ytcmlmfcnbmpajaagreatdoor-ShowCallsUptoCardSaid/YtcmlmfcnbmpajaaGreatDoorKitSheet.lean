/- The kit's lines of a sheet, proved by walking its text. Conditions: the sheet may be. -/
import Derived.Test.YtcmlmfcnbmpajaaGreatDoorKitLines
import Derived.Deep.RegionHeldLaw
namespace Go.Proofs.YtcmlmfcnbmpajaaGreatDoor.Sh
open Go.ChangeShapes Go.WideShapes Go.ChangeAt Go.RowKit
open Lx
set_option linter.unusedVariables false
set_option linter.unusedSimpArgs false

theorem when_len {k : List UInt8} {t : TimesM} (h : timesB t = true) (hk : k.length ≤ 20) : (sp (whenT k t)).length ≤ 100 := by
  simp only [timesB, List.all_cons, List.all_nil, Bool.and_true, Bool.and_eq_true] at h
  have h1 := dec_short h.1
  have h2 := dec_short h.2.1
  have h3 := dec_short h.2.2
  rw [sp_when]
  simp only [List.length_append, List.length_cons, List.length_nil]
  omega
theorem litd_at (w : World) (n : Nat) (l : Array Value) (t : TypeId) (xs : List Value) (hn : n = w.heap.size) (h : xs.toArray = l) : Rd (w.alloc (.cells l t)).drew (· < (w.alloc (.cells l t)).heap.size) (some ⟨n, 0, none⟩) xs := lit_at w n l t xs hn h
theorem below_alive {w wr W w4 : World} {t : TypeId} {l : List Value} (h1 : Below w.heap.size w wr) (h2 : Blk wr w.heap.size t l) (h3 : Below (w.heap.size + 1) W w4) (h4 : Below wr.heap.size wr W) : Below w.heap.size w w4 ∧ Blk w4 w.heap.size t l :=
  ⟨h1.trans ((h4.mono (by have := h2.lt; omega)).trans (h3.mono (by omega))), (h2.after h4).below h3 (by omega)⟩
theorem own_lit1 (w : World) (n : Nat) (e : TypeId) (u : Value) (hu : u.oneCell' = true) (hn : n ≤ w.heap.size) : (w.alloc (.cells #[u] e)).ownsRow n e 1 (.slice (some ⟨w.heap.size, 0, none⟩) 1 1) 1 [u] :=
  ⟨by simp, .inr ⟨w.heap.size, 1, #[u], rfl, hn, heap_alloc_new w _, by omega, by simp [maxLen], by simp, by simp⟩⟩
def lineOf (i : Item) : List UInt8 := lineB i.toks
/-- a sheet's lines -/
def linesT (x : SheetM) : List (List UInt8) := (sheetL x.horizon (itemsOf x)).map lineB
theorem lines_eq (x : SheetM) : linesT x = lineB (horT x.horizon) :: (x.stops.map (fun a => lineOf (.stop a)) ++ (x.paths.map (fun a => lineOf (.path a)) ++ (x.doors.map (fun a => lineOf (.door a)) ++ (x.routes.map (fun a => lineOf (.route a)) ++ (x.trips.map (fun a => lineOf (.trip a)) ++ x.hazards.map (fun a => lineOf (.haz a))))))) := by
  simp only [linesT, sheetL, itemsOf, List.map_cons, List.map_append, List.map_map, lineOf]
  rfl
/-- the row of lines so far -/
def LnRel {α : Type} (w : World) (bx : List Value) (L0 : List (List UInt8)) (N0 : Nat) (f : α → List UInt8) (l : List α) (n : Nat) (v3 vi : Value) (wr : World) : Prop :=
  ∃ (i c : Nat) (A : Option Addr), v3 = .slice A (N0 + i) c ∧ vi = .int .i64 i ∧ i ≤ n ∧ N0 + i ≤ c ∧ Hid (wr.ownsRow (w.heap.size + 1) 9 1 (.slice A (N0 + i) c) (N0 + i) (cs strC (L0 ++ (l.take i).map f))) ∧ Hid (Below w.heap.size w wr) ∧ Hid (Blk wr w.heap.size 29 bx)
theorem ln_start {α : Type} {w wr : World} {bx : List Value} {L0 : List (List UInt8)} {N0 c : Nat} {A : Option Addr} (f : α → List UInt8) (l : List α) (n : Nat) (hc : N0 ≤ c) (h : wr.ownsRow (w.heap.size + 1) 9 1 (.slice A N0 c) N0 (cs strC L0)) (hb : Below w.heap.size w wr) (hk : Blk wr w.heap.size 29 bx) :
    LnRel w bx L0 N0 f l n (.slice A N0 c) (.int .i64 0) wr := ⟨0, c, A, rfl, rfl, by omega, hc, by show World.ownsRow _ _ _ _ _ _ _; simpa using h, hb, hk⟩
theorem ln_more {α : Type} {w w' : World} {bx : List Value} {L0 : List (List UInt8)} {N0 c i : Nat} {A : Option Addr} {f : α → List UInt8} {l : List α} {n : Nat} {a : α} (ha : l[i]? = some a) (hi : i + 1 ≤ n) (hc : N0 + i + 1 ≤ c) {s : ByteArray} (hs : s = ⟨(f a).toArray⟩)
    (h : w'.ownsRow (w.heap.size + 1) 9 1 (.slice A (N0 + i + 1) c) (N0 + i + 1) (cs strC (L0 ++ (l.take i).map f) ++ [.string s])) (hb : Below w.heap.size w w') (hk : Blk w' w.heap.size 29 bx) :
    LnRel w bx L0 N0 f l n (.slice A (N0 + i + 1) c) (.int .i64 ((i : Int) + 1)) w' := by
  refine ⟨i + 1, c, A, rfl, by simp, hi, hc, ?_, hb, hk⟩
  have e : l.take (i + 1) = l.take i ++ [a] := by rw [List.take_add_one, ha]; rfl
  show World.ownsRow _ _ _ _ _ _ _
  rw [e, List.map_append, ← List.append_assoc, cs_append]
  subst hs
  exact h
theorem ln_over {α : Type} {w wr : World} {L0 : List (List UInt8)} {N0 c : Nat} {A : Option Addr} {f : α → List UInt8} {l : List α} {n : Nat} (hn : n = l.length) (h : wr.ownsRow (w.heap.size + 1) 9 1 (.slice A (N0 + n) c) (N0 + n) (cs strC (L0 ++ (l.take n).map f))) :
    wr.ownsRow (w.heap.size + 1) 9 1 (.slice A (N0 + n) c) (N0 + n) (cs strC (L0 ++ l.map f)) := by
  subst hn
  rwa [List.take_length] at h
/-- what the kit's lines answer -/
def LnPost (w : World) (L : List (List UInt8)) (e : Ending) (w' : World) : Prop :=
  ∃ (A : Option Addr) (c n : Nat), e = .returned (.slice A n c) ∧ n ≤ c ∧ Hid (n = L.length) ∧ Hid (Rd w' (fun b => w.heap.size ≤ b ∧ b < w'.heap.size) A (cs strC L)) ∧ Below w.heap.size w w'
end Go.Proofs.YtcmlmfcnbmpajaaGreatDoor.Sh

