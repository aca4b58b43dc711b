/- A net of one's own, with another row of a link, or of a stop, stored in it. No conditions. -/
import Derived.Test.YtffddkbphdjehaaLkOn
import Derived.Test.YtffddkbphdjehaaLkMore
namespace Go.Proofs.Ytffddkbphdjehaa.Lk
open Go.ChangeShapes Go.WideShapes Go.ChangeAt Go.RowKit
open Wn
set_option linter.unusedVariables false
set_option linter.unusedSimpArgs false

theorem cs_set {α : Type} (f : α → List Value) (size : Nat) (hf : ∀ a, (f a).length = size) (Z : List α) (k : Nat) (a a' : α) (j : Nat) (v : Value) (hk : Z[k]? = some a) (hj : j < size) (ha : f a' = (f a).set j v) : cs f (Z.set k a') = (cs f Z).set (k * size + j) v := by
  induction Z generalizing k with
  | nil => simp at hk
  | cons b Z ih =>
    cases k with
    | zero =>
      simp at hk; subst hk
      show f a' ++ cs f Z = (f b ++ cs f Z).set (0 * size + j) v
      rw [Nat.zero_mul, Nat.zero_add, List.set_append_left _ _ (by rw [hf]; exact hj), ha]
    | succ k =>
      have hk' : Z[k]? = some a := by simpa using hk
      show f b ++ cs f (Z.set k a') = (f b ++ cs f Z).set ((k + 1) * size + j) v
      rw [ih k hk', List.set_append_right _ _ (by rw [hf, Nat.add_mul]; omega), hf, show (k + 1) * size + j - size = k * size + j by rw [Nat.add_mul]; omega]
theorem own_kept_ty {W : World} {B B' e e' s s' n n' g c : Nat} {v u : Value} {xs xs' : List Value} {j : Nat} (h : W.ownsRow B e s v n xs) (h' : W.ownsRow B' e' s' (.slice (some ⟨g, 0, none⟩) n' c) n' xs') (he : e ≠ e') : (W.setCell ⟨g, j, none⟩ u).ownsRow B e s v n xs :=
  World.ownsRow.kept h (h'.stored j u).2 (own_ne h h' he)
theorem OwnN.nt {W : World} {B : Nat} {y : NtA} (h : OwnN W B y) : NtOk W (· < W.heap.size) y := by
  obtain ⟨A, c, hv, hc, hr⟩ := own_form h.c
  obtain ⟨A', c', hv', hc', hr'⟩ := own_form h.l
  injection hv with a1 a2 a3
  injection hv' with b1 b2 b3
  have ro : ∀ q : RwA, OwnR W B q → RwOk W (· < W.heap.size) q := fun q hq => hq.rw_.more fun b hb => hb.2
  refine ⟨by rw [a3]; exact hc, by rw [b3]; exact hc', ?_, ?_, fun q hq => ro q (h.r q hq), fun k hk => ?_⟩
  · rw [a1]; exact hr.more fun b hb => hb.2
  · rw [b1]; exact hr'.more fun b hb => hb.2
  · have o := ro _ (h.k k hk).o
    have c := ro _ (h.k k hk).c
    exact ⟨o.cap, c.cap, o.rd, c.rd⟩
theorem OwnN.qs {W : World} {B : Nat} {y : NtA} (h : OwnN W B y) (hn : 0 < y.ls.length) : ∃ g, y.q = some ⟨g, 0, none⟩ ∧ B ≤ g ∧ g < W.heap.size := by
  have := h.l.2
  rcases this with ⟨-, h0⟩ | ⟨g, cap, cur, hv, hb, -⟩
  · omega
  · injection hv with h1 h2 h3
    exact ⟨g, h1, hb, (h.l.lt g (by rw [h1]; rfl)).2⟩
theorem OwnN.ps {W : World} {B : Nat} {y : NtA} (h : OwnN W B y) (hn : 0 < y.rs.length) : ∃ g, y.p = some ⟨g, 0, none⟩ ∧ B ≤ g ∧ g < W.heap.size := by
  have := h.c.2
  rcases this with ⟨-, h0⟩ | ⟨g, cap, cur, hv, hb, -⟩
  · omega
  · injection hv with h1 h2 h3
    exact ⟨g, h1, hb, (h.c.lt g (by rw [h1]; rfl)).2⟩
theorem rd_off {W : World} {g j : Nat} {u : Value} {A : Option Addr} {xs : List Value} (h : Rd W (fun b => b ≠ g ∧ b < W.heap.size) A xs) : Rd (W.setCell ⟨g, j, none⟩ u) (· < (W.setCell ⟨g, j, none⟩ u).heap.size) A xs :=
  (h.keep fun b hb => Below.heap_setCell W ⟨g, j, none⟩ u b hb.1).more fun b hb => by simpa [World.setCell] using hb.2
/-- a link's windows, stored anew -/
theorem OwnN.setL {W : World} {B k g j : Nat} {y : NtA} {ky kz : LnA} {u : Value} (h : OwnN W B y) (hq : y.q = some ⟨g, 0, none⟩) (hk : y.ls[k]? = some ky) (hj : j < 7) (hz : lnC kz = (lnC ky).set j u)
    (hkz : LnOk (W.setCell ⟨g, k * 7 + j, none⟩ u) (· < (W.setCell ⟨g, k * 7 + j, none⟩ u).heap.size) kz) :
    NtOk (W.setCell ⟨g, k * 7 + j, none⟩ u) (· < (W.setCell ⟨g, k * 7 + j, none⟩ u).heap.size) { y with ls := y.ls.set k kz } := by
  have hl := h.l
  rw [hq] at hl
  have hs := (hl.stored (k * 7 + j) u).1
  rw [← cs_set lnC 7 (fun _ => rfl) y.ls k ky kz j u hk hj hz] at hs
  have hc : (W.setCell ⟨g, k * 7 + j, none⟩ u).ownsRow B 33 1 (.slice y.p y.rs.length y.c) y.rs.length (cs rwC y.rs) := own_kept_ty h.c hl (by decide)
  have hr : ∀ q, OwnR W B q → RwOk (W.setCell ⟨g, k * 7 + j, none⟩ u) (· < (W.setCell ⟨g, k * 7 + j, none⟩ u).heap.size) q := fun q hq => (OwnR.rw_ (own_kept_ty hq hl (by decide) : OwnR _ B q)).more fun b hb => hb.2
  obtain ⟨A, c, hv, hcc, hrc⟩ := own_form hc
  injection hv with a1 a2 a3
  obtain ⟨A', c', hv', hcl, hrl⟩ := own_form hs
  injection hv' with b1 b2 b3
  refine ⟨by show y.rs.length ≤ y.c; rw [a3]; exact hcc, by show (y.ls.set k kz).length ≤ y.d; rw [List.length_set, b3]; exact hcl, ?_, ?_, fun q hq => hr q (h.r q hq), fun q hqm => ?_⟩
  · show Rd _ _ y.p _; rw [a1]; exact hrc.more fun b hb => hb.2
  · show Rd _ _ y.q _; rw [hq, b1]; exact hrl.more fun b hb => hb.2
  · rcases List.mem_or_eq_of_mem_set hqm with hm | hm
    · have o := hr _ (h.k q hm).o
      have c := hr _ (h.k q hm).c
      exact ⟨o.cap, c.cap, o.rd, c.rd⟩
    · rw [hm]; exact hkz
/-- a stop's windows, stored anew -/
theorem OwnN.setR {W : World} {B k g : Nat} {y : NtA} {ky kz : RwA} (h : OwnN W B y) (hq : y.p = some ⟨g, 0, none⟩) (hk : y.rs[k]? = some ky)
    (hkz : RwOk (W.setCell ⟨g, k, none⟩ (rwV kz)) (· < (W.setCell ⟨g, k, none⟩ (rwV kz)).heap.size) kz) :
    NtOk (W.setCell ⟨g, k, none⟩ (rwV kz)) (· < (W.setCell ⟨g, k, none⟩ (rwV kz)).heap.size) { y with rs := y.rs.set k kz } := by
  have hl := h.c
  rw [hq] at hl
  have hs := (hl.stored k (rwV kz)).1
  have e := cs_set rwC 1 (fun _ => rfl) y.rs k ky kz 0 (rwV kz) hk (by omega) rfl
  rw [Nat.mul_one, Nat.add_zero] at e
  rw [← e] at hs
  have hc : (W.setCell ⟨g, k, none⟩ (rwV kz)).ownsRow B 35 7 (.slice y.q y.ls.length y.d) y.ls.length (cs lnC y.ls) := own_kept_ty h.l hl (by decide)
  have hr : ∀ q, OwnR W B q → RwOk (W.setCell ⟨g, k, none⟩ (rwV kz)) (· < (W.setCell ⟨g, k, none⟩ (rwV kz)).heap.size) q := fun q hq => (OwnR.rw_ (own_kept_ty hq hl (by decide) : OwnR _ B q)).more fun b hb => hb.2
  obtain ⟨A, c, hv, hcc, hrc⟩ := own_form hc
  injection hv with a1 a2 a3
  obtain ⟨A', c', hv', hcl, hrl⟩ := own_form hs
  injection hv' with b1 b2 b3
  refine ⟨by show (y.rs.set k kz).length ≤ y.c; rw [List.length_set, b3]; exact hcl, by show y.ls.length ≤ y.d; rw [a3]; exact hcc, ?_, ?_, fun q hqm => ?_, fun q hqm => ?_⟩
  · show Rd _ _ y.p _; rw [hq, b1]; exact hrl.more fun b hb => hb.2
  · show Rd _ _ y.q _; rw [a1]; exact hrc.more fun b hb => hb.2
  · rcases List.mem_or_eq_of_mem_set hqm with hm | hm
    · exact hr q (h.r q hm)
    · rw [hm]; exact hkz
  · have o := hr _ (h.k q hqm).o
    have c := hr _ (h.k q hqm).c
    exact ⟨o.cap, c.cap, o.rd, c.rd⟩
/-- the net of it -/
theorem net_setL (y : NtA) (k : Nat) (kz : LnA) : NtA.net { y with ls := y.ls.set k kz } = setLink y.net k kz.l := by simp [NtA.net, setLink, List.map_set]
theorem net_setR (y : NtA) (k : Nat) (kz : RwA) : NtA.net { y with rs := y.rs.set k kz } = setRow y.net k kz.z := by simp [NtA.net, setRow, List.map_set]
end Go.Proofs.Ytffddkbphdjehaa.Lk
