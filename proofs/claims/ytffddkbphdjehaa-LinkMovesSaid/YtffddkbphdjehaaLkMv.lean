/- A net of one's own, whose rows are moved one by one. No conditions. -/
import Derived.Test.YtffddkbphdjehaaLkOnP
import Derived.Test.YtffddkbphdjehaaLkLa
namespace Go.Proofs.Ytffddkbphdjehaa.Lk
open Go.ChangeShapes Go.WideShapes Go.ChangeAt Go.RowKit
open Wn
set_option linter.unusedVariables false
set_option linter.unusedSimpArgs false

/-- a list whose first i are as f has them -/
def lts {α : Type} (f : α → α) (i : Nat) (l : List α) : List α := (l.take i).map f ++ l.drop i
theorem lts_zero {α : Type} (f : α → α) (l : List α) : lts f 0 l = l := by simp [lts]
theorem lts_all {α : Type} (f : α → α) (l : List α) : lts f l.length l = l.map f := by simp [lts]
theorem lts_length {α : Type} (f : α → α) (i : Nat) (l : List α) : (lts f i l).length = l.length := by simp [lts]; omega
theorem lts_at {α : Type} (f : α → α) (i : Nat) (l : List α) (a : α) (h : l[i]? = some a) : (lts f i l)[i]? = some a := by
  have hlt : i < l.length := (List.getElem?_eq_some_iff.1 h).1
  unfold lts
  rw [List.getElem?_append_right (by simp; omega)]
  simp only [List.length_map, List.length_take, List.getElem?_drop]
  rw [show i + (i - min i l.length) = i by omega]; exact h
theorem lts_set {α : Type} (f : α → α) (i : Nat) (l : List α) (a : α) (h : l[i]? = some a) : (lts f i l).set i (f a) = lts f (i + 1) l := by
  have hlt : i < l.length := (List.getElem?_eq_some_iff.1 h).1
  unfold lts
  rw [List.set_append_right _ _ (by simp; omega)]
  simp only [List.length_map, List.length_take]
  rw [show i - min i l.length = 0 by omega, List.take_add_one, h, List.drop_eq_getElem?_toList_append, h]
  simp
/-- a row's block -/
def ob (q : RwA) : Option Nat := (rwV q).ownBlock
theorem ob_same (z z' : List Win) (p : Option Addr) (c c' : Nat) : ob ⟨z, p, c⟩ = ob ⟨z', p, c'⟩ := by cases p <;> rfl
theorem pw_ob {l l' : List RwA} (h : PW l) (e : l'.map ob = l.map ob) : PW l' := by
  have h1 : (l.map ob).Pairwise fun a b => ∀ g, a = some g → b ≠ some g := List.pairwise_map.2 h
  rw [← e] at h1
  exact (List.pairwise_map (f := ob) (R := fun a b => ∀ g, a = some g → b ≠ some g)).1 h1
theorem dis_ne {a b : RwA} (h : Dis a b) : ob a = none ∨ ob a ≠ ob b := by
  cases ha : ob a with
  | none => exact .inl rfl
  | some g => exact .inr fun e => h g ha e.symm
theorem pw_apart {A C : List RwA} {q : RwA} (h : PW (A ++ q :: C)) : (∀ p ∈ A, ob p = none ∨ ob p ≠ ob q) ∧ ∀ p ∈ C, ob p = none ∨ ob p ≠ ob q := by
  obtain ⟨-, h2, h3⟩ := List.pairwise_append.1 h
  obtain ⟨h4, -⟩ := List.pairwise_cons.1 h2
  exact ⟨fun p hp => dis_ne (h3 p hp q (List.mem_cons_self ..)), fun p hp => dis_ne (h4 p hp).symm⟩
theorem own_rest {W W' : World} {B : Nat} {a b : RwA} (h : OwnR W B a) (hd : ob a = none ∨ ob a ≠ ob b) (hg : W.grownBy W' (ob b)) : OwnR W' B a := World.ownsRow.kept h hg hd
/-- a row moved; a link's open, its closed windows moved -/
def lr (d : Int) (q : RwA) : RwA := ⟨laterL d q.z, q.p, q.c⟩
def lo (d : Int) (k : LnA) : LnA := { k with l := { k.l with op := laterL d k.l.op } }
def lc (d : Int) (k : LnA) : LnA := { k with l := { k.l with cl := laterL d k.l.cl } }
def lk (d : Int) (k : LnA) : LnA := lc d (lo d k)
theorem laterL_length (d : Int) (z : List Win) : (laterL d z).length = z.length := by simp [laterL]
theorem split_at {α : Type} {l : List α} {i : Nat} {a : α} (h : l[i]? = some a) : ∃ l1 l2, l = l1 ++ a :: l2 ∧ i = l1.length := by
  have hlt : i < l.length := (List.getElem?_eq_some_iff.1 h).1
  have ha : l[i] = a := (List.getElem?_eq_some_iff.1 h).2
  refine ⟨l.take i, l.drop (i + 1), ?_, by simp; omega⟩
  rw [← ha, ← List.drop_eq_getElem_cons hlt, List.take_append_drop]
theorem set_mid {α : Type} (l1 l2 : List α) (a b : α) : (l1 ++ a :: l2).set l1.length b = l1 ++ b :: l2 := by
  rw [List.set_append_right _ _ (Nat.le_refl _)]; simp
/-- one's own net, all rows apart -/
def Mw (W : World) (B : Nat) (y : NtA) : Prop := OwnN W B y ∧ PW (y.rs ++ y.ls.flatMap kr)
theorem Mw.stepR {W W' : World} {B i : Nat} {d : Int} {y : NtA} {q : RwA} (h : Mw W B y) (hi : y.rs[i]? = some q) (hq : OwnR W' B (lr d q)) (hg : W.grownBy W' (ob q)) : Mw W' B { y with rs := y.rs.set i (lr d q) } := by
  obtain ⟨hz, rs, ls, P, c, Q, e⟩ := y
  obtain ⟨⟨h1, h2, h3, h4⟩, hp⟩ := h
  dsimp only at h1 h2 h3 h4 hp hi
  obtain ⟨l1, l2, rfl, rfl⟩ := split_at hi
  have hqo : OwnR W B q := h3 q (by simp)
  have hlen : (l1 ++ lr d q :: l2).length = (l1 ++ q :: l2).length := by simp
  have hC : cs rwC (l1 ++ lr d q :: l2) = cs rwC (l1 ++ q :: l2) := by simp [cs, rwC, lr, laterL_length]
  have hpa : PW (l1 ++ q :: (l2 ++ ls.flatMap kr)) := by simpa using hp
  obtain ⟨a1, a2⟩ := pw_apart hpa
  rw [set_mid]
  refine ⟨⟨?_, ?_, fun p hpm => ?_, fun k hk => ?_⟩, ?_⟩
  · show W'.ownsRow B _ 1 (.slice P (l1 ++ lr d q :: l2).length c) (l1 ++ lr d q :: l2).length (cs rwC (l1 ++ lr d q :: l2))
    rw [hlen, hC]
    exact World.ownsRow.kept h1 hg (own_ne h1 hqo (by decide))
  · exact World.ownsRow.kept h2 hg (own_ne h2 hqo (by decide))
  · rcases List.mem_append.1 hpm with hm | hm
    · exact own_rest (h3 p (by simp [hm])) (a1 p hm) hg
    · rcases List.mem_cons.1 hm with rfl | hm
      · exact hq
      · exact own_rest (h3 p (by simp [hm])) (a2 p (by simp [hm])) hg
  · exact ⟨own_rest (h4 k hk).o (a2 _ (List.mem_append_right _ (List.mem_flatMap.2 ⟨k, hk, by simp [kr]⟩))) hg, own_rest (h4 k hk).c (a2 _ (List.mem_append_right _ (List.mem_flatMap.2 ⟨k, hk, by simp [kr]⟩))) hg⟩
  · refine pw_ob hp ?_
    simp [lr, ob_same (laterL d q.z) q.z q.p q.c q.c]
theorem Mw.stepO {W W' : World} {B i : Nat} {d : Int} {y : NtA} {k : LnA} (h : Mw W B y) (hi : y.ls[i]? = some k) (hq : OwnR W' B ⟨laterL d k.l.op, k.p, k.c⟩) (hg : W.grownBy W' (ob ⟨k.l.op, k.p, k.c⟩)) : Mw W' B { y with ls := y.ls.set i (lo d k) } := by
  obtain ⟨hz, rs, ls, P, c, Q, e⟩ := y
  obtain ⟨⟨h1, h2, h3, h4⟩, hp⟩ := h
  dsimp only at h1 h2 h3 h4 hp hi
  obtain ⟨l1, l2, rfl, rfl⟩ := split_at hi
  have hk0 : OwnK W B k := h4 k (by simp)
  have hlen : (l1 ++ lo d k :: l2).length = (l1 ++ k :: l2).length := by simp
  have hC : cs lnC (l1 ++ lo d k :: l2) = cs lnC (l1 ++ k :: l2) := by simp [cs, lnC, lo, laterL_length]
  have hpa : PW ((rs ++ l1.flatMap kr) ++ (⟨k.l.op, k.p, k.c⟩ : RwA) :: ((⟨k.l.cl, k.q, k.d⟩ : RwA) :: l2.flatMap kr)) := by simpa [kr] using hp
  obtain ⟨a1, a2⟩ := pw_apart hpa
  rw [set_mid]
  refine ⟨⟨?_, ?_, fun p hpm => own_rest (h3 p hpm) (a1 p (List.mem_append_left _ hpm)) hg, fun k' hk' => ?_⟩, ?_⟩
  · exact World.ownsRow.kept h1 hg (own_ne h1 hk0.o (by decide))
  · show W'.ownsRow B _ 7 (.slice Q (l1 ++ lo d k :: l2).length e) (l1 ++ lo d k :: l2).length (cs lnC (l1 ++ lo d k :: l2))
    rw [hlen, hC]
    exact World.ownsRow.kept h2 hg (own_ne h2 hk0.o (by decide))
  · rcases List.mem_append.1 hk' with hm | hm
    · have hh := h4 k' (by simp [hm])
      exact ⟨own_rest hh.o (a1 _ (List.mem_append_right _ (List.mem_flatMap.2 ⟨k', hm, by simp [kr]⟩))) hg, own_rest hh.c (a1 _ (List.mem_append_right _ (List.mem_flatMap.2 ⟨k', hm, by simp [kr]⟩))) hg⟩
    · rcases List.mem_cons.1 hm with rfl | hm
      · exact ⟨hq, own_rest hk0.c (a2 _ (List.mem_cons_self ..)) hg⟩
      · have hh := h4 k' (by simp [hm])
        exact ⟨own_rest hh.o (a2 _ (List.mem_cons_of_mem _ (List.mem_flatMap.2 ⟨k', hm, by simp [kr]⟩))) hg, own_rest hh.c (a2 _ (List.mem_cons_of_mem _ (List.mem_flatMap.2 ⟨k', hm, by simp [kr]⟩))) hg⟩
  · refine pw_ob hp ?_
    have e : (kr (lo d k)).map ob = (kr k).map ob := by simp [lo, kr, ob_same (laterL d k.l.op) k.l.op k.p k.c k.c]
    simp only [List.map_append, List.flatMap_append, List.flatMap_cons, e]
theorem Mw.stepC {W W' : World} {B i : Nat} {d : Int} {y : NtA} {k : LnA} (h : Mw W B y) (hi : y.ls[i]? = some k) (hq : OwnR W' B ⟨laterL d k.l.cl, k.q, k.d⟩) (hg : W.grownBy W' (ob ⟨k.l.cl, k.q, k.d⟩)) : Mw W' B { y with ls := y.ls.set i (lc d k) } := by
  obtain ⟨hz, rs, ls, P, c, Q, e⟩ := y
  obtain ⟨⟨h1, h2, h3, h4⟩, hp⟩ := h
  dsimp only at h1 h2 h3 h4 hp hi
  obtain ⟨l1, l2, rfl, rfl⟩ := split_at hi
  have hk0 : OwnK W B k := h4 k (by simp)
  have hlen : (l1 ++ lc d k :: l2).length = (l1 ++ k :: l2).length := by simp
  have hC : cs lnC (l1 ++ lc d k :: l2) = cs lnC (l1 ++ k :: l2) := by simp [cs, lnC, lc, laterL_length]
  have hpa : PW ((rs ++ l1.flatMap kr ++ [(⟨k.l.op, k.p, k.c⟩ : RwA)]) ++ (⟨k.l.cl, k.q, k.d⟩ : RwA) :: l2.flatMap kr) := by simpa [kr] using hp
  obtain ⟨a1, a2⟩ := pw_apart hpa
  rw [set_mid]
  refine ⟨⟨?_, ?_, fun p hpm => own_rest (h3 p hpm) (a1 p (by simp [hpm])) hg, fun k' hk' => ?_⟩, ?_⟩
  · exact World.ownsRow.kept h1 hg (own_ne h1 hk0.c (by decide))
  · show W'.ownsRow B _ 7 (.slice Q (l1 ++ lc d k :: l2).length e) (l1 ++ lc d k :: l2).length (cs lnC (l1 ++ lc d k :: l2))
    rw [hlen, hC]
    exact World.ownsRow.kept h2 hg (own_ne h2 hk0.c (by decide))
  · rcases List.mem_append.1 hk' with hm | hm
    · have hh := h4 k' (by simp [hm])
      exact ⟨own_rest hh.o (a1 _ (List.mem_append_left _ (List.mem_append_right _ (List.mem_flatMap.2 ⟨k', hm, by simp [kr]⟩)))) hg, own_rest hh.c (a1 _ (List.mem_append_left _ (List.mem_append_right _ (List.mem_flatMap.2 ⟨k', hm, by simp [kr]⟩)))) hg⟩
    · rcases List.mem_cons.1 hm with rfl | hm
      · exact ⟨own_rest hk0.o (a1 _ (List.mem_append_right _ (List.mem_singleton.2 rfl))) hg, hq⟩
      · have hh := h4 k' (by simp [hm])
        exact ⟨own_rest hh.o (a2 _ (List.mem_flatMap.2 ⟨k', hm, by simp [kr]⟩)) hg, own_rest hh.c (a2 _ (List.mem_flatMap.2 ⟨k', hm, by simp [kr]⟩)) hg⟩
  · refine pw_ob hp ?_
    have e : (kr (lc d k)).map ob = (kr k).map ob := by simp [lc, kr, ob_same (laterL d k.l.cl) k.l.cl k.q k.d k.d]
    simp only [List.map_append, List.flatMap_append, List.flatMap_cons, e]
theorem Mw.rowAt {W : World} {B k : Nat} {y : NtA} {q : RwA} (h : Mw W B y) (hk : y.rs[k]? = some q) : ∃ g, y.p = some ⟨g, 0, none⟩ ∧ W.cell? ⟨g, k, none⟩ = some (.slice q.p q.z.length q.c) ∧ OwnR W B q := by
  have hlt : k < y.rs.length := (List.getElem?_eq_some_iff.1 hk).1
  obtain ⟨g, hg, -⟩ := h.1.ps (by omega)
  obtain ⟨ad, had, -, hc, -⟩ := h.1.nt.row_ hk
  rw [hg] at had
  obtain rfl := Option.some.inj had
  rw [add0, Nat.mul_one] at hc
  exact ⟨g, hg, hc, h.1.r q (List.mem_of_getElem? hk)⟩
theorem Mw.linkAt {W : World} {B k : Nat} {y : NtA} {q : LnA} (h : Mw W B y) (hk : y.ls[k]? = some q) : ∃ g, y.q = some ⟨g, 0, none⟩ ∧ W.cell? ⟨g, k * 7 + 5, none⟩ = some (.slice q.p q.l.op.length q.c) ∧ W.cell? ⟨g, k * 7 + 6, none⟩ = some (.slice q.q q.l.cl.length q.d) ∧ OwnK W B q := by
  have hlt : k < y.ls.length := (List.getElem?_eq_some_iff.1 hk).1
  obtain ⟨g, hg, -⟩ := h.1.qs (by omega)
  obtain ⟨ad, had, -, ⟨-, -, -, -, -, h5, h6⟩, -⟩ := h.1.nt.link hk
  rw [hg] at had
  obtain rfl := Option.some.inj had
  rw [add0] at h5 h6
  exact ⟨g, hg, h5, h6, h.1.k q (List.mem_of_getElem? hk)⟩
theorem Mw.after {W W' : World} {B : Nat} {y : NtA} (h : Mw W B y) (hb : Below W.heap.size W W') : Mw W' B y :=
  ⟨⟨own_after h.1.c hb, own_after h.1.l hb, fun q hq => (h.1.r q hq).after hb, fun q hq => (h.1.k q hq).after hb⟩, h.2⟩
theorem Mw.hz {W : World} {B : Nat} {y : NtA} (h : Mw W B y) (z : Int) : Mw W B { y with hz := z } := ⟨⟨h.1.c, h.1.l, h.1.r, h.1.k⟩, h.2⟩
/-- all moved -/
theorem net_moved (y : NtA) (d : Int) : NtA.net { y with hz := y.hz + d, rs := y.rs.map (lr d), ls := y.ls.map (lk d) } = laterN d y.net := by
  simp only [NtA.net, laterN, List.map_map]
  refine congr (congrArg _ ?_) ?_
  · exact List.map_congr_left fun _ _ => rfl
  · exact List.map_congr_left fun _ _ => rfl
theorem win_lim {z : List Win} (h : good z = true) : ∀ p ∈ z, (0 ≤ p.1 ∧ p.1 ≤ 2199023255552) ∧ 0 ≤ p.2 ∧ p.2 ≤ 2199023255552 := fun p hp => by
  have hb := (good_gd h).all p hp
  omega
end Go.Proofs.Ytffddkbphdjehaa.Lk
