/- Package lex's cursor: what pass answers and where the cursor stands then. Conditions: the cursor lies in memory as CurAt says. -/
import Derived.Test.YtgcphhialllieaaDoorLexCode
namespace Go.Proofs.YtgcphhialllieaaDoor.Lx
open Go.ChangeShapes Go.WideShapes Go.ChangeAt Go.RowKit
set_option linter.unusedVariables false

set_option maxHeartbeats 1000000 in
theorem pass_any (ks : List Nat) (hk1 : inKs ks 1 = false) (n : Nat) (hn : Hid (n = ks.length)) (hN : n ≤ 100) {w : World} {n0 B gk : Nat} {s : ByteArray} {pos line first : Nat} {toks : List Tok} (h : CurAt w n0 B s pos line first toks)
    (hk : Blk w gk 48 (kc ks)) :
    Calls Tryd.prog 21 #[.pointer (some ⟨B, 0, none⟩), .slice (some ⟨gk, 0, none⟩) n n] w (PassPost ks w n0 B s pos line first toks) := by
  have HS : Hid (PassRel ks w n0 B gk s pos line first toks (runN ks s pos) w) := Lib.hid ⟨0, by omega, by omega, h, hk, Below.refl _ _⟩
  have c1 := h.c1
  have HK1 := Lib.hid hk1
  have HR := Lib.hid (run_le ks s pos h.posLe)
  have HZ := Lib.hid h.size
  have HG : Hid (gk ≠ B) := Lib.hid (fun e => by
    obtain ⟨v, hv, _⟩ := h.obj
    subst e
    unfold Blk at hk hv
    rw [hk] at hv
    injection hv with hv
    injection hv with _ hv
    exact absurd hv (by decide))
  clear h hk hk1
  go_enter Tryd.func21, Tryd.ntmps21
  go_wp2
  go_loopg [] (runN ks s pos) (fun k wr => PassRel ks w n0 B gk s pos line first toks k wr)
  case atStart => exact HS.out
  case round =>
    obtain ⟨j, hj, hgk, hcur, hkk, hbel⟩ := hrel
    have HJ := Lib.hid hgk
    have HC := Lib.hid hcur
    have HKK := Lib.hid hkk
    have HB := Lib.hid hbel
    have hsz := HZ.out
    have hpm := HR.out
    clear hgk hcur hkk hbel
    by_cases hlt : j < runN ks s pos
    · have HY : Hid (inKs ks (nextK (rest s (pos + j))) = true) := Lib.hid (by rw [rest_add]; exact run_kin _ j hlt)
      go_wp2_with (first
        | (go_at_call 20; refine (next_any HC.out).mono ?_; rintro e w1 ⟨rfl, hb1⟩; have HB1 := Lib.hid hb1; clear hb1; have HC1 := Lib.hid (HC.out.after HB1.out); have HK2 := Lib.hid (HKK.out.after HB1.out); have d1 := HC1.out.c1; have f1 := HC1.out.fr 1)
        | (go_at_call 35; refine (contains_any ks _ _ _ n n hn hN (kinds_rd HK2.out)).mono ?_; rintro e w2 ⟨rfl, rfl⟩; rw [HY.out]))
      go_roundg (runN ks s pos - (j + 1))
      case rel => exact ⟨j + 1, by omega, rfl, HC1.out.step (by omega) (by go_num), HK2.out.far HG.out _, HC1.out.store (below_then HB.out HB1.out HC.out.base) 1 _⟩
      case measure => have := HJ.out; omega
    · obtain rfl : j = runN ks s pos := by omega
      have hy : inKs ks (nextK (rest s (pos + runN ks s pos))) = false := by rw [rest_add]; exact run_out HK1.out _
      obtain ⟨q, hq⟩ : ∃ q, q = pos + runN ks s pos := ⟨_, rfl⟩
      have HQ := Lib.hid hq
      rw [← hq] at hy HC hpm
      have HY := Lib.hid hy
      have hle : (pos : Int) ≤ (q : Int) := by omega
      have hle2 : (q : Int) ≤ (s.size : Int) := by omega
      have hle3 : pos ≤ q := by omega
      clear hy hq
      go_wp2_with (first
        | (go_at_call 20; refine (next_any HC.out).mono ?_; rintro e w1 ⟨rfl, hb1⟩; have HB1 := Lib.hid hb1; clear hb1; have HC1 := Lib.hid (HC.out.after HB1.out); have HK2 := Lib.hid (HKK.out.after HB1.out); have d1 := HC1.out.c1; have d0 := HC1.out.c0; have f1 := HC1.out.fr 1)
        | (go_at_call 35; refine (contains_any ks _ _ _ n n hn hN (kinds_rd HK2.out)).mono ?_; rintro e w2 ⟨rfl, rfl⟩; rw [HY.out]))
      go_quiet (fail)
      go_wp2
      go_ret
      have hq := HQ.out
      unfold PassPost
      rw [← hq]
      exact ⟨rfl, HC1.out.after (below_drewN (Below.refl _ _) _), below_drewN (below_then HB.out HB1.out HC.out.base) _⟩
end Go.Proofs.YtgcphhialllieaaDoor.Lx
