/- order.keys tells each number with its place; order.Perm the places, from the least number's on. Conditions: the row holds fewer than a million numbers. -/
import Derived.Test.YtcjpimocbgeheaaOrderSorted
namespace Go.Proofs.Ytcjpimocbgeheaa.Od
open Go.ChangeShapes Go.WideShapes Go.ChangeAt Go.RowKit
set_option linter.unusedVariables false

/-- the first k numbers, each with its place -/
def kzF (zs : List Int) (k : Nat) : List Key := (List.range k).map fun i => (zs.getD i 0, (i : Int))
def kz (zs : List Int) : List Key := kzF zs zs.length
theorem kzF_succ (zs : List Int) (k : Nat) : kzF zs (k + 1) = kzF zs k ++ [(zs.getD k 0, (k : Int))] := by simp [kzF, List.range_succ]
theorem kzF_length (zs : List Int) (k : Nat) : (kzF zs k).length = k := by simp [kzF]
theorem kz_length (zs : List Int) : (kz zs).length = zs.length := kzF_length _ _
theorem Rd.key2 {w : World} {S : Nat → Prop} {A : Option Addr} {zs : List Key} (h : Rd w S A (kc zs)) {k : Nat} (hk : k < zs.length) : ∃ ad, A = some ad ∧ S ad.block ∧
    ∀ j, j < zs.length → w.cell? (ad.add (j * 2)) = some (.int .i64 (zs.getD j (0, 0)).1) ∧ w.cell? ⟨(ad.add (j * 2)).block, (ad.add (j * 2)).off + 1, none⟩ = some (.int .i64 (zs.getD j (0, 0)).2) := by
  obtain ⟨ad, e, hb, hc⟩ := h.key_ hk
  refine ⟨ad, e, hb, fun j hj => ⟨(hc j hj).1, ?_⟩⟩
  have e1 : (⟨(ad.add (j * 2)).block, (ad.add (j * 2)).off + 1, none⟩ : Addr) = (ad.add (j * 2)).add 1 := rfl
  rw [e1, add_of_add]
  exact (hc j hj).2
theorem Rd.below2 {w w' : World} {B : Nat} {A : Option Addr} {xs : List Value} (h : Rd w (· < B) A xs) (hb : Below B w w') : Rd w' (· < B) A xs := h.keep fun b hl => hb.block b hl

theorem blk_two {wr : World} {g k n : Nat} {zs : List Int} {rest : List Value} (hb : Blk wr g 25 (kc (kzF zs k) ++ rest)) (hr : rest.length = (n - k) * 2) (hk : k < n) :
    ∃ (u v : Value) (rest' : List Value), rest'.length = (n - (k + 1)) * 2 ∧ wr.cell? ⟨g, k * 2, none⟩ = some u ∧ wr.cell? ⟨g, k * 2 + 1, none⟩ = some v ∧ wr.frozen? ⟨g, k * 2, none⟩ = false ∧ wr.frozen? ⟨g, k * 2 + 1, none⟩ = false ∧
      Blk ((wr.setCell ⟨g, k * 2, none⟩ (.int .i64 (zs.getD k 0))).setCell ⟨g, k * 2 + 1, none⟩ (.int .i64 k)) g 25 (kc (kzF zs (k + 1)) ++ rest') := by
  obtain ⟨u, v, rest', e, h1, h2, h3, h4, h5⟩ := lay_cells (wr := wr) (g := g) (off := 0) (i := k) (pre := []) (post := []) (rest := rest) (done := kzF zs k) (by simpa using hb) rfl (kzF_length _ _) (by omega)
  have h6 := h5 0 (zs.getD k 0, (k : Int))
  simp only [Nat.zero_add] at h1 h2 h3 h4
  refine ⟨u, v, rest', by rw [e] at hr; simp at hr; omega, h1, h2, h3, h4, ?_⟩
  rw [kzF_succ]
  simp only [List.nil_append, List.append_nil, Nat.zero_add] at h6
  exact h6

def KeysRel (w : World) (n : Nat) (zs : List Int) (v11 : Value) (wr : World) : Prop :=
  ∃ (k : Nat) (rest : List Value), v11 = .int .i64 k ∧ k ≤ n ∧ rest.length = (n - k) * 2 ∧ Blk wr w.heap.size 25 (kc (kzF zs k) ++ rest) ∧ Below w.heap.size w wr

set_option maxHeartbeats 1000000 in
theorem keys_any (w : World) (A : Option Addr) (n c : Nat) (zs : List Int) (hn : Hid (n = zs.length)) (hN : n ≤ 1000000) (hx : Rd w (· < w.heap.size) A (ic zs)) :
    Calls Try.prog 31 #[.slice A n c] w (KeysNew w (kz zs)) := by
  obtain ⟨l, hl, hmk⟩ := mk_keys n hN
  have H0 := Lib.hid (show KeysRel w n zs (.int .i64 ((0 : Nat) : Int)) (w.alloc (.cells l.toArray 25)) from
    ⟨0, l, rfl, by omega, by omega, by simpa [kzF, kc_nil] using Blk.new w 25 l, (Below.refl _ _).alloc (Nat.le_refl _) _⟩)
  clear hl
  have HX := Lib.hid hx
  clear hx
  go_enter Try.func31, Try.ntmps31
  go_wp2
  go_loopw [11] (fun v11 wr => KeysRel w n zs v11 wr) (fun v _ => n - (intOf v).toNat)
  case atStart => exact H0.out
  case round =>
    obtain ⟨k, rest, rfl, hk, hr, hb, hbel⟩ := hrel
    clear H0
    by_cases hlt : k < n
    · obtain ⟨ad, rfl, hS, hcell⟩ := (HX.out.below2 hbel).at_ (k := k) (by rw [← hn.out]; exact hlt)
      have hx0 := hcell k (by rw [← hn.out]; exact hlt)
      obtain ⟨u, v, rest', hr', ht0, ht1, hf0, hf1, hset⟩ := blk_two hb hr hlt
      have HR := Lib.hid (show KeysRel w n zs (.int .i64 ((k + 1 : Nat) : Int)) ((wr.setCell ⟨w.heap.size, k * 2, none⟩ (.int .i64 (zs.getD k 0))).setCell ⟨w.heap.size, k * 2 + 1, none⟩ (.int .i64 k)) from
        ⟨k + 1, rest', rfl, by omega, hr', hset, (hbel.setCell (by simp) _).setCell (by simp) _⟩)
      clear hcell hr hb hbel hset hr'
      obtain ⟨z, hz⟩ : ∃ z, z = zs.getD k 0 := ⟨_, rfl⟩
      rw [← hz] at hx0 HR
      clear hz
      go_wp2
      go_roundw
      case rel => exact HR.out
      case measure => simp [intOf]; omega
    · have hkn : k = n := by omega
      have hr0 : rest = [] := List.eq_nil_of_length_eq_zero (by omega)
      have HB := Lib.hid (show Blk wr w.heap.size 25 (kc (kz zs)) from by unfold kz; rw [← hn.out, ← hkn]; simpa [hr0] using hb)
      have HE := Lib.hid hbel
      clear hr hb hbel hkn hr0
      go_wp2
      go_ret
      exact ⟨_, _, _, rfl, by show _ = _; rw [kz_length, hn.out], Nat.le_refl _, HB.out.rd0 (Nat.le_refl _), HE.out⟩
end Go.Proofs.Ytcjpimocbgeheaa.Od
