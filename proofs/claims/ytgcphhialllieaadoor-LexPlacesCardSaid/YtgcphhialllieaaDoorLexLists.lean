/- The verifier's helper Lists at lists of rows of tokens that are the same; lists of rows as they lie. Conditions: the rows hold fewer than a million tokens. -/
import Derived.Test.YtgcphhialllieaaDoorLexLines
import Derived.Test.YtgcphhialllieaaDoorLexKit
namespace Go.Proofs.YtgcphhialllieaaDoor.Lx
open Go.ChangeShapes Go.WideShapes Go.ChangeAt Go.RowKit
set_option linter.unusedVariables false

/-- a list of rows of tokens as it lies -/
def Lsts (w : World) (A : Option Addr) (LL : List (List Tok)) : Prop :=
  ∃ ss : List Value, Rd w (· < w.heap.size) A ss ∧ ss.length = LL.length ∧ ∀ (i : Nat) (l : List Tok), LL[i]? = some l → ∃ (Ai : Option Addr) (ci : Nat), ss[i]? = some (Value.slice Ai l.length ci) ∧ l.length ≤ ci ∧ Rd w (· < w.heap.size) Ai (tc l)
theorem Lsts.later {w w' : World} {A : Option Addr} {LL : List (List Tok)} (h : Lsts w A LL) (hb : Below w.heap.size w w') : Lsts w' A LL := by
  obtain ⟨ss, h1, h2, h3⟩ := h
  refine ⟨ss, h1.later hb, h2, fun i l hl => ?_⟩
  obtain ⟨Ai, ci, a, b, c⟩ := h3 i l hl
  exact ⟨Ai, ci, a, b, c.later hb⟩
theorem Lsts.cell {w : World} {A : Option Addr} {LL : List (List Tok)} (h : Lsts w A LL) {i : Nat} {l : List Tok} (hl : LL[i]? = some l) : ∃ ad Ai ci, A = some ad ∧ w.cell? (ad.add i) = some (Value.slice Ai l.length ci) ∧ l.length ≤ ci ∧ Rd w (· < w.heap.size) Ai (tc l) := by
  obtain ⟨ss, h1, h2, h3⟩ := h
  obtain ⟨Ai, ci, a, b, c⟩ := h3 i l hl
  have hlt : i < LL.length := by
    rcases Nat.lt_or_ge i LL.length with h | h
    · exact h
    · rw [List.getElem?_eq_none h] at hl; cases hl
  obtain ⟨ad, e, _, hc⟩ := h1 (by omega)
  exact ⟨ad, Ai, ci, e, hc _ _ a, b, c⟩
theorem LinesP.lsts {w : World} {zs : List Tok} {e : Ending} {W' : World} (h : LinesP w zs e W') : ∃ A c, e = .returned (.slice A (linesF [] zs).length c) ∧ (linesF [] zs).length ≤ c ∧ Lsts W' A (linesF [] zs) ∧ Below w.heap.size w W' := by
  obtain ⟨A, c, ss, h1, h2, h3, h4, h5, h6⟩ := h
  refine ⟨A, c, h1, h2, ⟨ss, h4.old, h3, fun i l hl => ?_⟩, h6⟩
  obtain ⟨Ai, ci, a, b, c⟩ := h5 i l hl
  exact ⟨Ai, ci, a, b, c.old⟩
theorem linesF_small (cur L : List Tok) (l : List Tok) (h : l ∈ linesF cur L) : l.length ≤ cur.length + L.length := by
  induction L generalizing cur with
  | nil =>
    simp only [linesF] at h
    split at h
    · cases h
    · simp at h; subst h; simp
  | cons t r ih =>
    simp only [linesF] at h
    split at h
    · split at h
      · have := ih [] h; simp at this ⊢; omega
      · rcases List.mem_cons.1 h with rfl | h
        · omega
        · have := ih [] h; simp at this ⊢; omega
    · have := ih _ h; simp at this ⊢; omega

set_option maxHeartbeats 1000000 in
theorem lists_any (w : World) (A B : Option Addr) (n c d : Nat) (LL : List (List Tok)) (hn : Hid (n = LL.length)) (hN : n ≤ 1000000) (hS : Hid (∀ l ∈ LL, l.length ≤ 1000000)) (hx : Lsts w A LL) (hy : Lsts w B LL) :
    Calls Tryd.prog 15 #[.slice A n c, .slice B n d] w fun e w' => e = .returned (.bool true) ∧ Below w.heap.size w w' := by
  have HX := Lib.hid hx
  have HY := Lib.hid hy
  clear hx hy
  go_enter Tryd.func15, Tryd.ntmps15
  go_wp2
  go_loopw [5] (fun v5 wr => ∃ k : Nat, v5 = .int .i64 k ∧ k ≤ n ∧ Below w.heap.size w wr) (fun v _ => n - (intOf v).toNat)
  case atStart => exact ⟨0, rfl, by omega, Below.refl _ _⟩
  case round =>
    obtain ⟨k, rfl, hk, hbel⟩ := hrel
    by_cases hlt : k < n
    · obtain ⟨l, hl⟩ : ∃ l, LL[k]? = some l := ⟨_, List.getElem?_eq_getElem (by rw [← hn.out]; exact hlt)⟩
      have hll := hS.out l (List.mem_of_getElem? hl)
      obtain ⟨ad, Ai, ci, rfl, a0, a1, a2⟩ := (HX.out.later hbel).cell hl
      obtain ⟨bd, Bi, di, rfl, b0, b1, b2⟩ := (HY.out.later hbel).cell hl
      have HB := Lib.hid hbel
      have CS := Lib.hid (same_tok wr.drew Ai Bi l.length ci di l rfl hll (a2.later (below_drew (Below.refl _ _))) (b2.later (below_drew (Below.refl _ _))))
      clear hbel hl a2 b2
      have hi : (k : Int) < (n : Int) := by omega
      go_wp2
      go_region_with (go_at_call 18; refine CS.out.mono ?_; rintro e w2 ⟨rfl, hb2⟩; have HB2 := Lib.hid (below_then (below_drew HB.out) hb2 HB.out.size); clear hb2)
      all_goals
        go_wp2
        go_roundw
        case rel => exact ⟨k + 1, by go_num, by omega, HB2.out⟩
        case measure => simp [intOf]; omega
    · have HB := Lib.hid hbel
      clear hbel
      go_wp2
      go_ret
      exact ⟨rfl, HB.out⟩
end Go.Proofs.YtgcphhialllieaaDoor.Lx
