/- order.Merge tells the merged row in new memory. Conditions: the rows hold fewer than a million keys together. -/
import Derived.Test.YtcjpimocbgeheaaOrderLay
namespace Go.Proofs.Ytcjpimocbgeheaa.Od
open Go.ChangeShapes Go.WideShapes Go.ChangeAt Go.RowKit
set_option linter.unusedVariables false

/-- the call tells a row of keys, in memory that nothing old is changed in -/
def KeysNew (w : World) (l : List Key) (e : Ending) (w' : World) : Prop :=
  ∃ (A : Option Addr) (n c : Nat), e = .returned (.slice A n c) ∧ Hid (n = l.length) ∧ n ≤ c ∧ Rd w' (fun b => w.heap.size ≤ b ∧ b < w'.heap.size) A (kc l) ∧ Below w.heap.size w w'
/-- likewise, a row of numbers -/
def IntsNew (w : World) (l : List Int) (e : Ending) (w' : World) : Prop :=
  ∃ (A : Option Addr) (n c : Nat), e = .returned (.slice A n c) ∧ Hid (n = l.length) ∧ n ≤ c ∧ Rd w' (fun b => w.heap.size ≤ b ∧ b < w'.heap.size) A (ic l) ∧ Below w.heap.size w w'

theorem info_key : (Try.prog.info? 25).map (fun i => (i.zero, i.size, i.bytes)) = some (some (.agg #[.int .i64 0, .int .i64 0]), 2, 16) := by kernel_rfl
theorem info_int : (Try.prog.info? 3).map (fun i => (i.zero, i.size, i.bytes)) = some (some (.int .i64 0), 1, 8) := by kernel_rfl
theorem info_i64 : (Try.prog.info? 2).map (fun i => (i.zero, i.size, i.bytes)) = some (some (.int .i64 0), 1, 8) := by kernel_rfl
theorem info_bool : (Try.prog.info? 4).map (fun i => (i.zero, i.size, i.bytes)) = some (some (.bool false), 1, 1) := by kernel_rfl

theorem mk_row {t e : TypeId} {z : Value} {size bytes : Nat} (ht : Try.prog.underlying t = some (.slice e)) (hinfo : (Try.prog.info? e).map (fun i => (i.zero, i.size, i.bytes)) = some (some z, size, bytes)) (hb : bytes ≤ 16)
    (n : Nat) (hn : n ≤ 1000000) : ∃ l : List Value, l.length = n * size ∧ ∀ w : World, (Instr.makeSlice t (.int .i64 (n : Int)) (.int .i64 (n : Int))).run Try.prog w = .ok (.slice (some ⟨w.heap.size, 0, none⟩) n n) (w.alloc (.cells l.toArray e)) := by
  obtain ⟨i, hi, hz, hs, hby⟩ := info_parts hinfo
  refine ⟨(madeCells z.cells (n * i.size)).toList, by simp [size_madeCells, hs], fun w => ?_⟩
  have h := run_make (P := Try.prog) w t e i z ht hi hz .i64 .i64 (n : Int) (n : Int) (by omega) (by omega) (by
    have h1 : ((i.bytes : Int)) ≤ 16 := by omega
    have h2 : (i.bytes : Int) * (n : Int) ≤ 16 * 1000000 := Int.mul_le_mul h1 (by omega) (by omega) (by omega)
    omega) (by omega)
  simpa using h

theorem mk_keys (n : Nat) (hn : n ≤ 1000000) : ∃ l : List Value, l.length = n * 2 ∧ ∀ w : World, (Instr.makeSlice 26 (.int .i64 (n : Int)) (.int .i64 (n : Int))).run Try.prog w = .ok (.slice (some ⟨w.heap.size, 0, none⟩) n n) (w.alloc (.cells l.toArray 25)) :=
  mk_row Try.underlying26 info_key (by omega) n hn
theorem mk_i64 (n : Nat) (hn : n ≤ 1000000) : ∃ l : List Value, l.length = n * 1 ∧ ∀ w : World, (Instr.makeSlice 31 (.int .i64 (n : Int)) (.int .i64 (n : Int))).run Try.prog w = .ok (.slice (some ⟨w.heap.size, 0, none⟩) n n) (w.alloc (.cells l.toArray 2)) :=
  mk_row Try.underlying31 info_i64 (by omega) n hn
theorem mk_int (n : Nat) (hn : n ≤ 1000000) : ∃ l : List Value, l.length = n * 1 ∧ ∀ w : World, (Instr.makeSlice 29 (.int .i64 (n : Int)) (.int .i64 (n : Int))).run Try.prog w = .ok (.slice (some ⟨w.heap.size, 0, none⟩) n n) (w.alloc (.cells l.toArray 3)) :=
  mk_row Try.underlying29 info_int (by omega) n hn

theorem Rd.apart {w : World} {A : Option Addr} {xs : List Value} (h : Rd w (· < w.heap.size) A xs) (o : Obj) : Rd (w.alloc o) (· ≠ w.heap.size) A xs :=
  (h.keep (w' := w.alloc o) fun b hb => Below.heap_alloc w o b hb).more fun b hb => Nat.ne_of_lt hb
theorem Blk.rd0 {w : World} {g B : Nat} {t : TypeId} {l : List Value} (h : Blk w g t l) (hB : B ≤ g) : Rd w (fun b => B ≤ b ∧ b < w.heap.size) (some ⟨g, 0, none⟩) l := by
  simpa using h.rd (S := fun b => B ≤ b ∧ b < w.heap.size) ⟨hB, h.lt⟩ 0
theorem Rd.old {w : World} {B : Nat} {A : Option Addr} {xs : List Value} (h : Rd w (fun b => B ≤ b ∧ b < w.heap.size) A xs) : Rd w (· < w.heap.size) A xs := h.more fun _ hb => hb.2
theorem Rd.at_ {w : World} {S : Nat → Prop} {A : Option Addr} {zs : List Int} (h : Rd w S A (ic zs)) {k : Nat} (hk : k < zs.length) : ∃ ad, A = some ad ∧ S ad.block ∧ ∀ j, j < zs.length → w.cell? (ad.add j) = some (.int .i64 (zs.getD j 0)) := by
  obtain ⟨ad, e, hb, hc⟩ := h (by rw [ic_length]; omega)
  exact ⟨ad, e, hb, fun j hj => hc j _ (by simp [ic, List.getD_eq_getElem?_getD, List.getElem?_eq_getElem hj])⟩
theorem Rd.key_ {w : World} {S : Nat → Prop} {A : Option Addr} {zs : List Key} (h : Rd w S A (kc zs)) {k : Nat} (hk : k < zs.length) : ∃ ad, A = some ad ∧ S ad.block ∧ ∀ j, j < zs.length → w.cell? (ad.add (j * 2)) = some (.int .i64 (zs.getD j (0, 0)).1) ∧ w.cell? (ad.add (j * 2 + 1)) = some (.int .i64 (zs.getD j (0, 0)).2) := by
  obtain ⟨ad, e, hb, hc⟩ := h (by rw [kc_length]; omega)
  refine ⟨ad, e, hb, fun j hj => ?_⟩
  have h2 := kc_at zs j (zs.getD j (0, 0)) (by simp [List.getD_eq_getElem?_getD, List.getElem?_eq_getElem hj])
  exact ⟨hc _ _ h2.1, hc _ _ h2.2⟩

theorem merge_any (w : World) (A B : Option Addr) (na nb ca cb : Nat) (xs ys : List Key)
    (hna : Hid (na = xs.length)) (hnb : Hid (nb = ys.length)) (hN : na + nb ≤ 1000000)
    (hx : Rd w (· < w.heap.size) A (kc xs)) (hy : Rd w (· < w.heap.size) B (kc ys)) (hca : na ≤ ca) (hcb : nb ≤ cb) :
    Calls Try.prog 11 #[.slice A na ca, .slice B nb cb] w (KeysNew w (mg xs ys)) := by
  obtain ⟨l, hl, hmk⟩ := mk_keys (na + nb) hN
  have HL := Lib.hid hl
  clear hl
  have HX := Lib.hid (hx.apart (.cells l.toArray 25))
  have HY := Lib.hid (hy.apart (.cells l.toArray 25))
  clear hx hy
  have hmk' := fun w => hmk w
  simp only [Int.natCast_add] at hmk'
  clear hmk
  go_enter Try.func11, Try.ntmps11
  go_wp2_with (go_at_call 30; (first | (have e1 := hna.out; have e2 := hnb.out; subst e1; subst e2)); refine (lay_any _ w.heap.size 0 _ _ ca cb A B [] l [] xs ys rfl hN rfl HL.out (by simpa using Blk.new w 25 l) HX.out HY.out hca hcb).mono ?_; rintro e w1 ⟨rfl, hb, hg⟩)
  go_ret
  refine ⟨_, _, _, rfl, ?_, Nat.le_refl _, ?_, ?_⟩
  · show _ = _
    rw [mg_length]
  · have hb' : Blk w1 w.heap.size 25 (kc (mg xs ys)) := by simpa using hb
    exact hb'.rd0 (Nat.le_refl _)
  · exact below_grown ((Below.refl _ _).alloc (Nat.le_refl _) _) hg (by simp) (Nat.le_refl _)
end Go.Proofs.Ytcjpimocbgeheaa.Od
