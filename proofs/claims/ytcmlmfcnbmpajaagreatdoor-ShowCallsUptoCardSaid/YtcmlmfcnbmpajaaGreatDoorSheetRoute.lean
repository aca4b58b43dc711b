/- Package sheet's texts: the texts of a row of tokens in new memory. Conditions: at most 131,072 tokens. · The route that is read, as it lies while its legs are gone along; what each append leaves of it. · Package sheet's reader: route lines, proved by walking their text. Conditions: a token is to come. · Package sheet's reader: horizon lines and routes that fail early, proved by walking their text. Conditions: a token is to come. -/
import Derived.Test.YtcmlmfcnbmpajaaGreatDoorSheetPut
import Derived.Deep.AppendLies
import Derived.Deep.RegionHeld3
import Derived.Deep.RegionLaw
import Derived.Deep.DeepCutAuto
import Derived.Outline
namespace Go.Proofs.YtcmlmfcnbmpajaaGreatDoor.Sh
open Go.ChangeShapes Go.WideShapes Go.ChangeAt Go.RowKit
open Lx
set_option linter.unusedVariables false

theorem run_mk {t e : TypeId} {z : Value} {bytes : Nat} (ht : Tryz.prog.underlying t = some (.slice e)) (hinfo : (Tryz.prog.info? e).map (fun i => (i.zero, i.size, i.bytes)) = some (some z, 1, bytes)) (hb : bytes ≤ 16) (hz1 : z.cells = #[z])
    (k n : Nat) (hk : k ≤ n) (hn : n ≤ 2000000) (w : World) : (Instr.makeSlice t (.int .i64 (k : Int)) (.int .i64 (n : Int))).run Tryz.prog w = .ok (.slice (some ⟨w.heap.size, 0, none⟩) k n) (w.alloc (.cells (List.replicate n z).toArray e)) := by
  obtain ⟨i, hi, hz, hs, hby⟩ := info_parts hinfo
  have h := run_make (P := Tryz.prog) w t e i z ht hi hz .i64 .i64 (k : Int) (n : Int) (by omega) (by omega) (by
    have h1 : ((i.bytes : Int)) ≤ 16 := by omega
    have h2 : (i.bytes : Int) * (n : Int) ≤ 16 * 2000000 := Int.mul_le_mul h1 (by omega) (by omega) (by omega)
    omega) (by omega)
  rw [← toList_madeCells_one, ← hz1]
  simpa [hs] using h
theorem strC_len (l : List (List UInt8)) : (cs strC l).length = l.length := by rw [cs_length strC 1 (fun _ => rfl)]; omega
theorem intC_len (l : List Int) : (cs intC l).length = l.length := by rw [cs_length intC 1 (fun _ => rfl)]; omega
theorem tok_at (zs : List Tok) {k n : Nat} (hn : Hid (n = zs.length)) (hk : k < n) : ∃ t, zs[k]? = some t := ⟨_, List.getElem?_eq_getElem (by rw [← hn.out]; exact hk)⟩
/-- the row while it is filled -/
def txR (zs : List Tok) (n k : Nat) : List Value := cs strC ((zs.take k).map (·.text)) ++ List.replicate (n - k) (.string ⟨#[]⟩)
theorem txR_len {zs : List Tok} {n k : Nat} (hn : n = zs.length) (hk : k ≤ n) : (txR zs n k).length = n := by
  unfold txR; rw [List.length_append, strC_len]; simp; omega
theorem txR_set {zs : List Tok} {n k : Nat} {t : Tok} (hn : n = zs.length) (hk : k < n) (ht : zs[k]? = some t) : (txR zs n k).set k (.string ⟨t.text.toArray⟩) = txR zs n (k + 1) := by
  have hl : (cs strC ((zs.take k).map (·.text))).length = k := by rw [strC_len]; simp; omega
  obtain ⟨m, hm⟩ : ∃ m, n - k = m + 1 := ⟨n - k - 1, by omega⟩
  have hm' : n - (k + 1) = m := by omega
  have e : zs.take (k + 1) = zs.take k ++ [t] := by rw [List.take_add_one, ht]; rfl
  unfold txR
  rw [hm, hm', e, List.map_append, cs_append, List.replicate_succ, List.set_append_right _ _ (by omega), hl, Nat.sub_self, List.set_cons_zero]
  simp [cs, strC]
def TxRel (w : World) (zs : List Tok) (n g : Nat) (v : Value) (wr : World) : Prop := ∃ k : Nat, v = .int .i64 k ∧ k ≤ n ∧ Blk wr g 9 (txR zs n k) ∧ Below g w wr
def TextsPost (w : World) (zs : List Tok) (n : Nat) (e : Ending) (w' : World) : Prop := ∃ A' : Option Addr, e = .returned (.slice A' n n) ∧ Rd w' (fun b => w.heap.size ≤ b ∧ b < w'.heap.size) A' (cs strC (zs.map (·.text))) ∧ Below w.heap.size w w'
theorem texts_fin {w wr : World} {zs : List Tok} {n g : Nat} (hn : n = zs.length) (hg : g = w.heap.size) (hb : Blk wr g 9 (txR zs n n)) (hbel : Below g w wr) : TextsPost w zs n (.returned (.slice (some ⟨g, 0, none⟩) n n)) wr := by
  refine ⟨_, rfl, ?_, by rw [← hg]; exact hbel⟩
  have h := hb.rd (S := fun b => w.heap.size ≤ b ∧ b < wr.heap.size) ⟨by omega, hb.lt⟩ 0
  have e : txR zs n n = cs strC (zs.map (·.text)) := by unfold txR; rw [hn]; simp
  rw [e] at h
  simpa using h
end Go.Proofs.YtcmlmfcnbmpajaaGreatDoor.Sh
namespace Go.Proofs.YtcmlmfcnbmpajaaGreatDoor.Sh
open Go.ChangeShapes Go.WideShapes Go.ChangeAt Go.RowKit
open Lx
set_option linter.unusedVariables false

section
variable {w wr w' : World} {B b0 : Nat} {toks ts r : List Tok} {q : List Value} {nm : List UInt8} {g : Legs} {vr vy v3 : Value}
end
end Go.Proofs.YtcmlmfcnbmpajaaGreatDoor.Sh
namespace Go.Proofs.YtcmlmfcnbmpajaaGreatDoor.Sh
open Go.ChangeShapes Go.WideShapes Go.ChangeAt Go.RowKit
open Lx
set_option linter.unusedVariables false

theorem info_int64 : (Tryz.prog.info? 2).map (fun i => (i.zero, i.size, i.bytes)) = some (some (.int .i64 0), 1, 8) := by kernel_rfl
theorem info_Tok : (Tryz.prog.info? 107).map (fun i => (i.zero, i.size, i.bytes)) = some (some (.agg #[.int .i64 0, .string ⟨#[]⟩, .int .i64 0, .int .i64 0, .int .i64 0]), 5, 48) := by kernel_rfl
/-- what becomes of a route's legs -/
def finR (x : SheetM) (first : Tok) (nm : List UInt8) (R : PR Legs) : PR SheetM :=
  R.bind fun g r => (endM x.routes.length 256 first r).bind fun _ r => overLeg g { x with routes := x.routes ++ [routeOf nm g] } r
theorem own_rd {w : World} {b e s n k c : Nat} {A : Option Addr} {xs : List Value} (h : w.ownsRow b e s (.slice A n c) k xs) : Rd w (fun i => b ≤ i ∧ i < w.heap.size) A xs := by
  obtain ⟨A', c', e', -, hr⟩ := own_form h
  injection e' with e1 e2 e3; subst e1; exact hr
end Go.Proofs.YtcmlmfcnbmpajaaGreatDoor.Sh
namespace Go.Proofs.YtcmlmfcnbmpajaaGreatDoor.Sh
open Go.ChangeShapes Go.WideShapes Go.ChangeAt Go.RowKit
open Lx
set_option linter.unusedVariables false
set_option linter.unusedSimpArgs false

end Go.Proofs.YtcmlmfcnbmpajaaGreatDoor.Sh

