/- The chapter's examples: timetablelaw11's example and lives. No conditions. -/
import Derived.Test.YtffddkbphdjehaaLkAs
namespace Go.Proofs.Ytffddkbphdjehaa.Lk
open Go.ChangeShapes Go.WideShapes Go.ChangeAt Go.RowKit Go.Sort
open Wn
set_option linter.unusedVariables false
set_option linter.unusedSimpArgs false
attribute [local go_sem] Oper.semAt_some

abbrev exL : Ln := ⟨0, 1, 3, true, 0, [(5, 7), (15, 17)], []⟩
abbrev exY (bo : Nat) : LnA := ⟨exL, some ⟨bo, 0, none⟩, 2, none, 0⟩
abbrev exX (r : RwA) (bc bo bl : Nat) : NtA := ⟨40, [r, ⟨[], none, 0⟩], [exY bo], some ⟨bc, 0, none⟩, 2, some ⟨bl, 0, none⟩, 1⟩
abbrev exN (z : List Win) : Nt := ⟨40, [z, []], [exL]⟩
theorem ex_mem (t : Int) : mem [(5, 7), (15, 17)] t ↔ (5 ≤ t ∧ t < 7) ∨ (15 ≤ t ∧ t < 17) := by simp [mem]
theorem ex_may (t : Int) : Lk.may (exN []) exL t ↔ 0 ≤ t ∧ t ≤ 37 ∧ ((5 ≤ t ∧ t < 7) ∨ (15 ≤ t ∧ t < 17)) := by
  show (0 ≤ t ∧ t ≤ 40 - 3 ∧ clear [] t 1 ∧ mem [(5, 7), (15, 17)] t) ↔ _
  rw [ex_mem]
  constructor
  · rintro ⟨h1, h2, _, h4⟩; exact ⟨h1, by omega, h4⟩
  · rintro ⟨h1, h2, h4⟩; exact ⟨h1, by omega, fun w hw => (by cases hw), h4⟩
theorem ex_may2 (t : Int) : Lk.may (exN [(4, 16)]) exL t ↔ 0 ≤ t ∧ t ≤ 37 ∧ ¬ (4 ≤ t ∧ t < 16) ∧ ((5 ≤ t ∧ t < 7) ∨ (15 ≤ t ∧ t < 17)) := by
  show (0 ≤ t ∧ t ≤ 40 - 3 ∧ clear [(4, 16)] t 1 ∧ mem [(5, 7), (15, 17)] t) ↔ _
  rw [ex_mem, clear_one]
  have : mem [(4, 16)] t ↔ 4 ≤ t ∧ t < 16 := by simp [mem]
  rw [this]
  constructor
  · rintro ⟨h1, h2, h3, h4⟩; exact ⟨h1, by omega, h3, h4⟩
  · rintro ⟨h1, h2, h3, h4⟩; exact ⟨h1, by omega, h3, h4⟩
theorem ex_f1 {f : Int} (h : Fst (exN []) exL 6 f) : f = 6 :=
  h.uniq ⟨Int.le_refl _, by decide, .inr ((ex_may 6).2 (by omega)), fun s h1 h2 => by omega⟩
theorem ex_f2 {f : Int} (h : Fst (exN []) exL 7 f) : f = 15 :=
  h.uniq ⟨by omega, by decide, .inr ((ex_may 15).2 (by omega)), fun s h1 h2 => by rw [ex_may]; omega⟩
theorem ex_f3 {f : Int} (h : Fst (exN [(4, 16)]) exL 1 f) : f = 16 :=
  h.uniq ⟨by omega, by decide, .inr ((ex_may2 16).2 (by omega)), fun s h1 h2 => by rw [ex_may2]; omega⟩
/-- the example's net in its blocks -/
structure ExAt (W : World) (r : RwA) (bc bo bl : Nat) : Prop where
  c : Blk W bc 33 [.slice r.p r.z.length r.c, .slice none 0 0]
  o : Blk W bo 41 [.int .i64 5, .int .i64 7, .int .i64 15, .int .i64 17]
  l : Blk W bl 35 [.int .i64 0, .int .i64 1, .int .i64 3, .bool true, .int .i64 0, .slice (some ⟨bo, 0, none⟩) 2 2, .slice none 0 0]
  r : RwOk W (· < W.heap.size) r
theorem ExAt.nt {W : World} {r : RwA} {bc bo bl : Nat} (h : ExAt W r bc bo bl) : NtOk W (· < W.heap.size) (exX r bc bo bl) := by
  refine ⟨Nat.le_refl _, Nat.le_refl _, h.c.rd h.c.lt 0, h.l.rd h.l.lt 0, fun x hx => ?_, fun x hx => ?_⟩
  · rcases List.mem_cons.1 hx with rfl | hx
    · exact h.r
    · rcases List.mem_cons.1 hx with rfl | hx
      · exact ⟨Nat.le_refl _, Rd.none_⟩
      · cases hx
  · rcases List.mem_cons.1 hx with rfl | hx
    · exact ⟨Nat.le_refl _, Nat.zero_le _, h.o.rd h.o.lt 0, Rd.none_⟩
    · cases hx
theorem ExAt.lt {r : RwA} {bc bo bl : Nat} (hr : r.z.length ≤ 10000) : Lt (exX r bc bo bl) := by
  refine ⟨show 2 ≤ 10000 by decide, show 1 ≤ 10000 by decide, fun x hx => ?_, fun x hx => ?_, fun x hx => ?_⟩
  · rcases List.mem_cons.1 hx with rfl | hx
    · exact hr
    · rcases List.mem_cons.1 hx with rfl | hx
      · show 0 ≤ 10000; decide
      · cases hx
  · rcases List.mem_cons.1 hx with rfl | hx
    · show 2 ≤ 10000; decide
    · cases hx
  · rcases List.mem_cons.1 hx with rfl | hx
    · show 0 ≤ 10000; decide
    · cases hx
theorem ExAt.later {W W' : World} {r : RwA} {bc bo bl : Nat} (h : ExAt W r bc bo bl) (hb : Below W.heap.size W W') : ExAt W' r bc bo bl := ⟨h.c.after hb, h.o.after hb, h.l.after hb, h.r.later hb⟩
abbrev exV (bc bl : Nat) : Value := .agg #[.int .i64 40, .slice (some ⟨bc, 0, none⟩) 2 2, .slice (some ⟨bl, 0, none⟩) 1 1]

theorem info_parts' {P : Program} {e : TypeId} {z : Value} {sz bytes : Nat} (h : (P.info? e).map (fun i => (i.zero, i.size, i.bytes)) = some (some z, sz, bytes)) : ∃ i, P.info? e = some i ∧ i.zero = some z ∧ i.size = sz ∧ i.bytes = bytes := by
  cases hi : P.info? e with
  | none => rw [hi] at h; simp at h
  | some i => rw [hi] at h; simp at h; exact ⟨i, rfl, h.1, h.2.1, h.2.2⟩
theorem mk_two : ∀ w : World, (Instr.makeSlice 22 (.int .i64 2) (.int .i64 2)).run Try.prog w = .ok (.slice (some ⟨w.heap.size, 0, none⟩) 2 2) (w.alloc (.cells #[.slice none 0 0, .slice none 0 0] 33)) := fun w => by
  obtain ⟨i, hi, hz, hs, hby⟩ := info_parts' (P := Try.prog) (e := 33) (z := .slice none 0 0) (sz := 1) (bytes := 24) (by kernel_rfl)
  have h := run_make (P := Try.prog) w 22 33 i (.slice none 0 0) Try.underlying22 hi hz .i64 .i64 2 2 (by omega) (by omega) (by omega) (by omega)
  have e : madeCells (Value.slice none 0 0).cells (Int.toNat 2 * 1) = #[.slice none 0 0, .slice none 0 0] := by
    rw [show (Value.slice none 0 0).cells = #[Value.slice none 0 0] from rfl, show Int.toNat 2 * 1 = 2 from rfl]
    apply Array.toList_inj.1
    rw [toList_madeCells_one]
    rfl
  rw [hs, e] at h
  exact h
set_option maxHeartbeats 2000000 in
theorem example_any (w : World) : Calls Try.prog 11 #[] w fun e w' => ∃ bc bo bl, e = .returned (exV bc bl) ∧ w.heap.size ≤ bc ∧ bc ≠ bo ∧ bc ≠ bl ∧ Hid (ExAt w' ⟨[], none, 0⟩ bc bo bl) ∧ Below w.heap.size w w' := by
  have hmk := mk_two
  go_enter Try.func11, Try.ntmps11
  go_wp2
  have b1 := ((((Blk.new (w.alloc (.cells #[.int .i64 40, .slice (some ⟨w.heap.size + 1, 0, none⟩) 2 2, .slice (some ⟨w.heap.size + 1 + 1 + 1, 0, none⟩) 1 1] 25)) 33 [.slice none 0 0, .slice none 0 0]).alloc (.cells #[.int .i64 5, .int .i64 7, .int .i64 15, .int .i64 17] 41)).alloc (.cells #[.int .i64 0, .int .i64 1, .int .i64 3, .bool true, .int .i64 0, .slice (some ⟨w.heap.size + 1 + 1, 0, none⟩) 2 2, .slice none 0 0] 35)))
  have b0 := (((Blk.new w 25 [.int .i64 40, .slice (some ⟨w.heap.size + 1, 0, none⟩) 2 2, .slice (some ⟨w.heap.size + 1 + 1 + 1, 0, none⟩) 1 1]).alloc (.cells #[.slice none 0 0, .slice none 0 0] 33)).alloc (.cells #[.int .i64 5, .int .i64 7, .int .i64 15, .int .i64 17] 41)).alloc (.cells #[.int .i64 0, .int .i64 1, .int .i64 3, .bool true, .int .i64 0, .slice (some ⟨w.heap.size + 1 + 1, 0, none⟩) 2 2, .slice none 0 0] 35)
  have b2 := (Blk.new ((w.alloc (.cells #[.int .i64 40, .slice (some ⟨w.heap.size + 1, 0, none⟩) 2 2, .slice (some ⟨w.heap.size + 1 + 1 + 1, 0, none⟩) 1 1] 25)).alloc (.cells #[.slice none 0 0, .slice none 0 0] 33)) 41 [.int .i64 5, .int .i64 7, .int .i64 15, .int .i64 17]).alloc (.cells #[.int .i64 0, .int .i64 1, .int .i64 3, .bool true, .int .i64 0, .slice (some ⟨w.heap.size + 1 + 1, 0, none⟩) 2 2, .slice none 0 0] 35)
  have b3 := Blk.new (((w.alloc (.cells #[.int .i64 40, .slice (some ⟨w.heap.size + 1, 0, none⟩) 2 2, .slice (some ⟨w.heap.size + 1 + 1 + 1, 0, none⟩) 1 1] 25)).alloc (.cells #[.slice none 0 0, .slice none 0 0] 33)).alloc (.cells #[.int .i64 5, .int .i64 7, .int .i64 15, .int .i64 17] 41)) 35 [.int .i64 0, .int .i64 1, .int .i64 3, .bool true, .int .i64 0, .slice (some ⟨w.heap.size + 1 + 1, 0, none⟩) 2 2, .slice none 0 0]
  simp only [World.size_alloc] at b0 b1 b2 b3
  refine bodyPost_ret (by simp [results, Try.f11, go_sem, bc0 b0, bc1 b0, bc2 b0]; rfl) rfl ?_
  refine ⟨w.heap.size + 1, w.heap.size + 1 + 1, w.heap.size + 1 + 1 + 1, rfl, by omega, by omega, by omega, Lib.hid ⟨b1, b2, b3, ⟨Nat.le_refl _, Rd.none_⟩⟩, ?_⟩
  exact ((((Below.refl w.heap.size w).alloc (Nat.le_refl _) _).alloc (by simp) _).alloc (by simp; omega) _).alloc (by simp; omega) _
end Go.Proofs.Ytffddkbphdjehaa.Lk
