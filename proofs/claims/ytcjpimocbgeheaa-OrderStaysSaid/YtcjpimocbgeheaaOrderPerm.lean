/- order.Perm tells the places, from the least number's on. Conditions: the row holds fewer than a million numbers. -/
import Derived.Test.YtcjpimocbgeheaaOrderKeys
namespace Go.Proofs.Ytcjpimocbgeheaa.Od
open Go.ChangeShapes Go.WideShapes Go.ChangeAt Go.RowKit
set_option linter.unusedVariables false

/-- the places of zs, from the least number's on -/
def pm (zs : List Int) : List Int := (srt (kz zs)).map (·.2)
theorem pm_length (zs : List Int) : (pm zs).length = zs.length := by simp [pm, srt_length, kz_length]

theorem ic_snoc (a : List Int) (x : Int) : ic (a ++ [x]) = ic a ++ [.int .i64 x] := by simp [ic]

theorem blk_one {wr : World} {g t k n : Nat} {done : List Int} {rest : List Value} (hb : Blk wr g t (ic done ++ rest)) (hd : done.length = k) (hr : rest.length = n - k) (hk : k < n) :
    ∃ (u : Value) (rest' : List Value), rest'.length = n - (k + 1) ∧ wr.cell? ⟨g, k, none⟩ = some u ∧ wr.frozen? ⟨g, k, none⟩ = false ∧
      ∀ (w2 : World) (x : Int), Blk w2 g t (ic done ++ rest) → Blk (w2.setCell ⟨g, k, none⟩ (.int .i64 x)) g t (ic (done ++ [x]) ++ rest') := by
  match rest, (show 0 < rest.length by omega) with
  | u :: rest', _ =>
    have hl : (ic done).length = k := by rw [ic_length, hd]
    refine ⟨u, rest', by simp at hr; omega, ?_, hb.frozen _, fun w2 x h2 => ?_⟩
    · rw [hb.cell, ← hl, List.getElem?_append_right (by omega)]; simp
    · have h1 := h2.set_ k (.int .i64 x)
      rw [ic_snoc, ← hl]
      rw [← hl] at h1
      simpa using h1

def PermRel (w w2 : World) (t : TypeId) (n : Nat) (M : List Int) (v13 : Value) (wr : World) : Prop :=
  ∃ (k : Nat) (rest : List Value), v13 = .int .i64 k ∧ k ≤ n ∧ rest.length = n - k ∧ Blk wr w.heap.size t (ic (M.take k) ++ rest) ∧ w2.grownBy wr (some w.heap.size)

theorem grown_rd {w wr : World} {g : Nat} {S : Nat → Prop} {A : Option Addr} {xs : List Value} (h : Rd w S A xs) (hS : ∀ b, S b → b < w.heap.size ∧ b ≠ g) (hg : w.grownBy wr (some g)) : Rd wr S A xs :=
  h.keep fun b hb => hg.block b (hS b hb).1 (fun e => (hS b hb).2 (by injection e))

set_option maxHeartbeats 2000000 in
theorem perm_any (w : World) (A : Option Addr) (n c : Nat) (zs : List Int) (hn : Hid (n = zs.length)) (hN : n ≤ 1000000) (hc : n ≤ c) (hx : Rd w (· < w.heap.size) A (ic zs)) :
    Calls Try.prog 13 #[.slice A n c] w (IntsNew w (pm zs)) := by
  obtain ⟨l, hl, hmk⟩ := mk_int n hN
  have hx' : Rd (w.alloc (.cells l.toArray 3)) (· < (w.alloc (.cells l.toArray 3)).heap.size) A (ic zs) := (hx.keep fun b hb => Below.heap_alloc w _ b hb).more (S' := (· < (w.alloc (.cells l.toArray 3)).heap.size)) fun b hb => by
    have : (w.alloc (.cells l.toArray 3)).heap.size = w.heap.size + 1 := by simp
    omega
  have HK := Lib.hid (keys_any (w.alloc (.cells l.toArray 3)) A n c zs hn hN hx')
  have HL := Lib.hid hl
  clear hx hx' hl
  go_enter Try.func13, Try.ntmps13
  go_wp2_with (first
    | (go_at_call 31; refine HK.out.mono ?_; rintro e w1 ⟨A1, n1, c1, rfl, hn1, hc1, hr1, hb1⟩)
    | (go_at_call 19; refine (sorted_any w1 A1 n1 c1 (kz zs) hn1 (by have := hn1.out; have := hn.out; rw [kz_length] at *; omega) hr1.old hc1).mono ?_; rintro e w2 ⟨A2, n2, c2, rfl, hn2, hc2, hr2, hb2⟩))
  have hnn : n2 = n := by rw [hn2.out, srt_length, kz_length, hn.out]
  subst hnn
  have hW : (w.alloc (.cells l.toArray 3)).heap.size = w.heap.size + 1 := by simp
  have hgt : w.heap.size < w2.heap.size := by have := hb1.size; have := hb2.size; omega
  have hb0 : Below w.heap.size w w2 := (((Below.refl _ _).alloc (Nat.le_refl _) _).trans (hb1.mono (by omega))).trans (hb2.mono (by have := hb1.size; omega))
  have H0 := Lib.hid (show PermRel w w2 3 n2 (pm zs) (.int .i64 ((0 : Nat) : Int)) w2 from
    ⟨0, l, rfl, by omega, by have := HL.out; omega, by
      have h := ((Blk.new w 3 l).below hb1 (by omega)).below hb2 (by have := hb1.size; omega)
      simpa [ic] using h, only_refl _ _⟩)
  have hr3 : Rd w2 (fun b => b < w2.heap.size ∧ b ≠ w.heap.size) A2 (kc (srt (kz zs))) := hr2.more fun b hb => ⟨hb.2, by have := hb1.size; omega⟩
  have HR3 := Lib.hid hr3
  have HB0 := Lib.hid hb0
  clear hb1 hb2 hr1 hr2 hr3 hb0 hW
  go_loopw [13] (fun v13 wr => PermRel w w2 3 n2 (pm zs) v13 wr) (fun v _ => n2 - (intOf v).toNat)
  case atStart => exact H0.out
  case round =>
    obtain ⟨k, rest, rfl, hk, hr, hb, hgr⟩ := hrel
    clear H0
    by_cases hlt : k < n2
    · obtain ⟨ad, rfl, hS, hcell⟩ := (grown_rd HR3.out (fun b hb => hb) hgr).key2 (k := k) (by rw [← hn2.out]; exact hlt)
      obtain ⟨hx0, hx1⟩ := hcell k (by rw [← hn2.out]; exact hlt)
      have hkm : k < (pm zs).length := by rw [pm_length, ← hn.out]; exact hlt
      obtain ⟨u, rest', hr', ht0, hf0, hset⟩ := blk_one (done := (pm zs).take k) (n := n2) hb (by simp; omega) hr hlt
      have hbl := hb.lt
      obtain ⟨p, hp⟩ : ∃ p, p = (srt (kz zs)).getD k (0, 0) := ⟨_, rfl⟩
      rw [← hp] at hx0 hx1
      have HR := Lib.hid (fun o => (show PermRel w w2 3 n2 (pm zs) (.int .i64 ((k + 1 : Nat) : Int)) ((wr.setCell ⟨w.heap.size, k, none⟩ (.int .i64 p.2)).alloc o) from
        ⟨k + 1, rest', rfl, by omega, hr', by
          have e : (pm zs).take (k + 1) = (pm zs).take k ++ [p.2] := by
            rw [List.take_succ_eq_append_getElem hkm]
            congr 2
            have hk2 : k < (srt (kz zs)).length := by simpa [pm] using hkm
            simp [pm, hp, List.getD_eq_getElem?_getD, List.getElem?_eq_getElem hk2]
          rw [e]
          exact (hset wr p.2 hb).alloc o, only_alloc (only_setCell hgr (.inl rfl) _) o⟩))
      clear hcell hr hb hset hr' hgr hp hkm
      go_wp2
      go_roundw
      case rel => exact HR.out _
      case measure => simp [intOf]; omega
    · have hkn : k = n2 := by omega
      have hr0 : rest = [] := List.eq_nil_of_length_eq_zero (by omega)
      have HB := Lib.hid (show Blk wr w.heap.size 3 (ic (pm zs)) from by
        have e : (pm zs).take k = pm zs := List.take_of_length_le (by rw [pm_length, ← hn.out]; omega)
        rw [e] at hb; simpa [hr0] using hb)
      have HE := Lib.hid (show Below w.heap.size w wr from below_grown HB0.out hgr (by omega) (Nat.le_refl _))
      clear hr hb hgr hkn hr0
      go_wp2
      go_ret
      exact ⟨_, _, _, rfl, by show _ = _; rw [pm_length, hn.out], Nat.le_refl _, HB.out.rd0 (Nat.le_refl _), HE.out⟩
end Go.Proofs.Ytcjpimocbgeheaa.Od
