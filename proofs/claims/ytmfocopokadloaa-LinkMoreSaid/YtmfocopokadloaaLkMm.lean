/- A window more: what follows for the first tick. Pure mathematics. No conditions. -/
import Derived.Test.YtmfocopokadloaaLkMore
namespace Go.Proofs.Ytmfocopokadloaa.Lk
open Wn
set_option linter.unusedVariables false
theorem row_setRow (n : Nt) (s : Int) (z : List Win) (h0 : 0 ≤ s) (h1 : s < n.cl.length) : row (setRow n s.toNat z) s = z := by
  have : s.toNat < n.cl.length := by omega
  simp [row, setRow, List.getD_eq_getElem?_getD, this]
theorem more_stop {n : Nt} {l : Ln} {v : Win} {t a c : Int} (hok : ok n = true) (hlg : lgood n l = true) (hv : good [v] = true) (h : Fst n l t a) :
    ok (setRow n l.a.toNat (un (row n l.a) [v])) = true ∧ (Fst (setRow n l.a.toNat (un (row n l.a) [v])) l t c → a ≤ c ∧ at_ l a ≤ at_ l c) := by
  have hp := lgood_parts hlg
  have hg := (ok_parts hok).2.2.2.1 _ (row_mem hp.1.1 hp.1.2)
  refine ⟨ok_setRow hok (un_good' hg hv), fun k => ?_⟩
  have hac := first_le h k fun s hm => by
    obtain ⟨m1, m2, m3, m4⟩ := hm
    rw [row_setRow n l.a _ hp.1.1 hp.1.2] at m3
    exact ⟨m1, m2, clear_un hg hv (by omega) m3, m4⟩
  exact ⟨hac, at_mono hok hlg h.may k.top hac⟩
theorem lgood_of {n : Nt} {l : Ln} (k : Nat) (K : Ln) (h : lgood n l = true) (ha : K.a = l.a) (hb : K.b = l.b) (hl : K.len = l.len) (ht : timed K = true) : lgood (setLink n k K) K = true := by
  simp only [lgood, Bool.and_eq_true] at h ⊢
  refine ⟨?_, ht⟩
  rw [ha, hb, hl]
  exact h.1
theorem more_path {n : Nt} {l : Ln} {v : Win} {k : Nat} {t a c : Int} (hok : ok n = true) (hlg : lgood n l = true) (hd : l.door = false) (hv : good [v] = true) (h : Fst n l t a) :
    ok (setLink n k { l with cl := un l.cl [v] }) = true ∧ (Fst (setLink n k { l with cl := un l.cl [v] }) { l with cl := un l.cl [v] } t c → a ≤ c ∧ at_ l a ≤ at_ { l with cl := un l.cl [v] } c) := by
  have hp := lgood_parts hlg
  have hg := hp.2.2.2.2.2.1
  have hop := hp.2.2.2.2.2.2.2 hd
  have ht : timed { l with cl := un l.cl [v] } = true := by
    unfold timed; simp [hd, un_good' hg hv, hop]
  have hK := lgood_of k { l with cl := un l.cl [v] } hlg rfl rfl rfl ht
  refine ⟨ok_setLink hok ((lgood_len (n := n) (m := setLink n k { l with cl := un l.cl [v] }) rfl _).trans hK), fun g => ?_⟩
  have hac := first_le h g fun s hm => by
    obtain ⟨m1, m2, m3, m4⟩ := hm
    refine ⟨m1, m2, m3, ?_⟩
    have m4' : clear (un l.cl [v]) s l.len := by simpa [hd] using m4
    simp only [hd, Bool.false_eq_true, if_false]
    exact clear_un hg hv (by omega) m4'
  exact ⟨hac, at_le (m := n) hok hlg rfl h.may g.top hac⟩
theorem more_door {n : Nt} {l : Ln} {v : Win} {k : Nat} {t a c : Int} (hok : ok n = true) (hlg : lgood n l = true) (hd : l.door = true) (hv : good [v] = true) (h : Fst n l t a) :
    ok (setLink n k { l with op := un l.op [v] }) = true ∧ (Fst (setLink n k { l with op := un l.op [v] }) { l with op := un l.op [v] } t c → c ≤ a ∧ at_ { l with op := un l.op [v] } c ≤ at_ l a) := by
  have hp := lgood_parts hlg
  have hg := hp.2.2.2.2.1
  have hcl := hp.2.2.2.2.2.2.1 hd
  have ht : timed { l with op := un l.op [v] } = true := by
    unfold timed; simp [hd, un_good' hg hv, hcl]
  have hK := lgood_of k { l with op := un l.op [v] } hlg rfl rfl rfl ht
  have hokM := ok_setLink hok (i := k) (k := { l with op := un l.op [v] }) ((lgood_len (n := n) (m := setLink n k { l with op := un l.op [v] }) rfl _).trans hK)
  refine ⟨hokM, fun g => ?_⟩
  have hac := first_le g h fun s hm => by
    obtain ⟨m1, m2, m3, m4⟩ := hm
    refine ⟨m1, m2, m3, ?_⟩
    have m4' : mem l.op s := by simpa [hd] using m4
    show (if l.door = true then mem (un l.op [v]) s else _)
    rw [if_pos hd]
    exact (un_mem hg hv s).2 (.inl m4')
  exact ⟨hac, at_le (m := n) hokM hK rfl g.may h.top hac⟩
theorem more_stop_ok {n : Nt} {l : Ln} {v : Win} (hok : ok n = true) (hlg : lgood n l = true) (hv : good [v] = true) : ok (setRow n l.a.toNat (un (row n l.a) [v])) = true :=
  ok_setRow hok (un_good' ((ok_parts hok).2.2.2.1 _ (row_mem (lgood_parts hlg).1.1 (lgood_parts hlg).1.2)) hv)
theorem more_path_ok {n : Nt} {l : Ln} {v : Win} {k : Nat} (hok : ok n = true) (hlg : lgood n l = true) (hd : l.door = false) (hv : good [v] = true) : ok (setLink n k { l with cl := un l.cl [v] }) = true := by
  have hp := lgood_parts hlg
  have ht : timed { l with cl := un l.cl [v] } = true := by
    unfold timed; simp [hd, un_good' hp.2.2.2.2.2.1 hv, hp.2.2.2.2.2.2.2 hd]
  exact ok_setLink hok ((lgood_len (n := n) (m := setLink n k { l with cl := un l.cl [v] }) rfl _).trans (lgood_of k { l with cl := un l.cl [v] } hlg rfl rfl rfl ht))
theorem more_door_ok {n : Nt} {l : Ln} {v : Win} {k : Nat} (hok : ok n = true) (hlg : lgood n l = true) (hd : l.door = true) (hv : good [v] = true) : ok (setLink n k { l with op := un l.op [v] }) = true := by
  have hp := lgood_parts hlg
  have ht : timed { l with op := un l.op [v] } = true := by
    unfold timed; simp [hd, un_good' hp.2.2.2.2.1 hv, hp.2.2.2.2.2.2.1 hd]
  exact ok_setLink hok ((lgood_len (n := n) (m := setLink n k { l with op := un l.op [v] }) rfl _).trans (lgood_of k { l with op := un l.op [v] } hlg rfl rfl rfl ht))
end Go.Proofs.Ytmfocopokadloaa.Lk
