/- What follows of first ticks: earlier is never worse; windows more; all moved. Pure mathematics. No conditions. -/
import Derived.Test.YtffddkbphdjehaaLkMath
namespace Go.Proofs.Ytffddkbphdjehaa.Lk
open Wn
set_option linter.unusedVariables false

theorem may_inf {n : Nt} {l : Ln} (hn : ok n = true) (h : lgood n l = true) {t : Int} (hm : Lk.may n l t) : t ≠ inf ∧ t + l.len ≤ n.hz ∧ n.hz ≤ 1099511627776 := by
  have hh := (tick_iff _).1 (ok_parts hn).1
  have hl := (lgood_parts h).2.2.2.1
  have := hm.2.1
  simp only [inf]; omega
/-- earlier is never worse -/
theorem Fst.mono {n : Nt} {l : Ln} {s t a c : Int} (h : Fst n l s a) (k : Fst n l t c) (hst : s ≤ t) : a ≤ c := by
  rcases k.may with e | e
  · have := h.top; omega
  · by_cases hc : c < a
    · exact absurd e (h.none_ c (by have := k.le; omega) hc)
    · omega
theorem at_mono {n : Nt} {l : Ln} {a c : Int} (hn : ok n = true) (h : lgood n l = true) (ha : a = inf ∨ Lk.may n l a) (hc : c ≤ inf) (hac : a ≤ c) : at_ l a ≤ at_ l c := by
  have hl := (lgood_parts h).2.2.2.1
  unfold at_
  rcases ha with e | e
  · rw [if_pos e, if_pos (by omega)]; exact Int.le_refl _
  · have := may_inf hn h e
    rw [if_neg this.1]
    split
    · simp only [inf]; omega
    · omega
theorem at_inf {n : Nt} {l : Ln} {a : Int} (hn : ok n = true) (h : lgood n l = true) (ha : a = inf ∨ Lk.may n l a) : at_ l a = inf ↔ a = inf := by
  unfold at_
  rcases ha with e | e
  · simp [e]
  · have := may_inf hn h e
    rw [if_neg this.1]
    constructor
    · intro he; have h2 := this.2; rw [he] at h2; exfalso; have := h2.1; have := h2.2; simp only [inf] at *; omega
    · intro he; exact absurd he this.1
/-- clear, by ticks -/
theorem clear_iff {zs : List Win} (hg : good zs = true) {t n : Int} (hn : 1 ≤ n) : clear zs t n ↔ ∀ s, t ≤ s → s < t + n → ¬ mem zs s := by
  constructor
  · rintro h s h1 h2 ⟨w, hw, h3, h4⟩; exact h w hw ⟨by omega, by omega⟩
  · rintro h w hw ⟨h1, h2⟩
    have hb := (good_gd hg).all w hw
    exact h (max t w.1) (by omega) (by omega) ⟨w, hw, by omega, by omega⟩
theorem clear_un {a b : List Win} (ha : good a = true) (hb : good b = true) {t n : Int} (hn : 1 ≤ n) (h : clear (un a b) t n) : clear a t n := by
  rw [clear_iff (un_good' ha hb) hn] at h
  rw [clear_iff ha hn]
  intro s h1 h2 hm
  exact h s h1 h2 ((un_mem ha hb s).2 (.inl hm))
/-- a net whose link may be taken no earlier -/
theorem first_le {n m : Nt} {l k : Ln} {t a c : Int} (h : Fst n l t a) (g : Fst m k t c) (himp : ∀ s, Lk.may m k s → Lk.may n l s) : a ≤ c := by
  rcases g.may with e | e
  · have := h.top; omega
  · by_cases hc : c < a
    · exact absurd (himp c e) (h.none_ c g.le hc)
    · omega
theorem at_le {n m : Nt} {l k : Ln} {a c : Int} (hn : ok n = true) (h : lgood n l = true) (hlen : l.len = k.len) (ha : a = inf ∨ Lk.may n l a) (hc : c ≤ inf) (hac : a ≤ c) : at_ l a ≤ at_ k c := by
  have e : at_ k c = at_ l c := by unfold at_; rw [hlen]
  rw [e]; exact at_mono hn h ha hc hac
/-- another row of a stop -/
def setRow (n : Nt) (i : Nat) (z : List Win) : Nt := ⟨n.hz, n.cl.set i z, n.lk⟩
/-- another link -/
def setLink (n : Nt) (i : Nat) (k : Ln) : Nt := ⟨n.hz, n.cl, n.lk.set i k⟩
theorem lgood_len {n m : Nt} (h : n.cl.length = m.cl.length) (l : Ln) : lgood n l = lgood m l := by unfold lgood leads isStop; rw [h]
theorem ok_setRow {n : Nt} (hn : ok n = true) {i : Nat} {z : List Win} (hz : good z = true) : ok (setRow n i z) = true := by
  obtain ⟨h1, h2, h3, h4, h5⟩ := ok_parts hn
  have hl : (setRow n i z).cl.length = n.cl.length := by simp [setRow]
  simp only [ok, sized, closedOk, linksOk, Bool.and_eq_true, List.all_eq_true, decide_eq_true_eq]
  refine ⟨⟨⟨⟨h1, by rw [hl]; exact h2⟩, h3⟩, fun y hy => ?_⟩, fun l hl' => ?_⟩
  · rcases List.mem_or_eq_of_mem_set hy with h | h
    · exact h4 y h
    · rw [h]; exact hz
  · rw [lgood_len hl]; exact h5 l hl'
theorem ok_setLink {n : Nt} (hn : ok n = true) {i : Nat} {k : Ln} (hk : lgood n k = true) : ok (setLink n i k) = true := by
  obtain ⟨h1, h2, h3, h4, h5⟩ := ok_parts hn
  simp only [ok, sized, closedOk, linksOk, Bool.and_eq_true, List.all_eq_true, decide_eq_true_eq]
  refine ⟨⟨⟨⟨h1, h2⟩, by simpa [setLink] using h3⟩, h4⟩, fun l hl' => ?_⟩
  rcases List.mem_or_eq_of_mem_set hl' with h | h
  · exact h5 l h
  · rw [h]; exact hk
/-- windows moved -/
def laterL (d : Int) (z : List Win) : List Win := z.map fun w => (w.1 + d, w.2 + d)
theorem mem_later {d : Int} {z : List Win} {s : Int} : mem (laterL d z) (s + d) ↔ mem z s := by
  unfold mem laterL
  constructor
  · rintro ⟨w, hw, h1, h2⟩
    obtain ⟨v, hv, rfl⟩ := List.mem_map.1 hw
    exact ⟨v, hv, by dsimp only at h1; omega, by dsimp only at h2; omega⟩
  · rintro ⟨v, hv, h1, h2⟩
    exact ⟨_, List.mem_map.2 ⟨v, hv, rfl⟩, by dsimp only; omega, by dsimp only; omega⟩
theorem clear_later {d : Int} {z : List Win} {s n : Int} : clear (laterL d z) (s + d) n ↔ clear z s n := by
  unfold clear laterL
  constructor
  · rintro h w hw ⟨h1, h2⟩
    exact h _ (List.mem_map.2 ⟨w, hw, rfl⟩) ⟨by dsimp only; omega, by dsimp only; omega⟩
  · rintro h w hw ⟨h1, h2⟩
    obtain ⟨v, hv, rfl⟩ := List.mem_map.1 hw
    exact h v hv ⟨by dsimp only at h1; omega, by dsimp only at h2; omega⟩
def laterK (d : Int) (l : Ln) : Ln := { l with op := laterL d l.op, cl := laterL d l.cl }
def laterN (d : Int) (n : Nt) : Nt := ⟨n.hz + d, n.cl.map (laterL d), n.lk.map (laterK d)⟩
theorem row_later {n : Nt} {d s : Int} : row (laterN d n) s = laterL d (row n s) := by
  unfold row laterN
  simp only [List.getD_eq_getElem?_getD, List.getElem?_map]
  cases n.cl[s.toNat]? with
  | none => rfl
  | some z => rfl
theorem may_later {n : Nt} {l : Ln} {d s : Int} (hs : 0 ≤ s) (hd : 0 ≤ d) : Lk.may (laterN d n) (laterK d l) (s + d) ↔ Lk.may n l s := by
  unfold Lk.may
  show (0 ≤ s + d ∧ s + d ≤ n.hz + d - l.len ∧ clear (row (laterN d n) l.a) (s + d) 1 ∧ (if l.door = true then mem (laterL d l.op) (s + d) else clear (laterL d l.cl) (s + d) l.len)) ↔ _
  rw [row_later, clear_later, mem_later, clear_later]
  constructor
  · rintro ⟨h1, h2, h3, h4⟩; exact ⟨hs, by omega, h3, h4⟩
  · rintro ⟨h1, h2, h3, h4⟩; exact ⟨by omega, by omega, h3, h4⟩
theorem first_later {n : Nt} {l : Ln} {d t a c : Int} (ht : 0 ≤ t) (hd : 0 ≤ d) (hd2 : d ≤ 1000) (hn : ok n = true) (hl : lgood n l = true) (h : Fst n l t a) (g : Fst (laterN d n) (laterK d l) (t + d) c) : (a = inf ∧ c = inf) ∨ (a ≠ inf ∧ c ≠ inf ∧ a + d = c) := by
  have hle := h.le
  have gle := g.le
  rcases h.may with e | e
  · rcases g.may with f | f
    · exact .inl ⟨e, f⟩
    · exfalso
      have : Lk.may n l (c - d) := (may_later (by omega) hd).1 (by rw [Int.sub_add_cancel]; exact f)
      have i := may_inf hn hl this
      have hl0 := (lgood_parts hl).2.2.2.1
      exact h.none_ (c - d) (by omega) (by rw [e]; simp only [inf]; omega) this
  · have i := may_inf hn hl e
    have hl0 := (lgood_parts hl).2.2.2.1
    have m : Lk.may (laterN d n) (laterK d l) (a + d) := (may_later (by omega) hd).2 e
    right
    rcases g.may with f | f
    · exact absurd m (g.none_ (a + d) (by omega) (by rw [f]; simp only [inf]; omega))
    · have f' : Lk.may n l (c - d) := (may_later (by omega) hd).1 (by rw [Int.sub_add_cancel]; exact f)
      have j := may_inf hn hl f'
      refine ⟨i.1, by simp only [inf]; omega, ?_⟩
      rcases Int.lt_trichotomy (a + d) c with h1 | h1 | h1
      · exact absurd m (g.none_ (a + d) (by omega) h1)
      · exact h1
      · exact absurd f' (h.none_ (c - d) (by omega) (by omega))
end Go.Proofs.Ytffddkbphdjehaa.Lk
