/- Package expand: Later, whatever it is asked. Conditions: rows of at most a million numbers. -/
import Derived.Test.YtfefnfifeaihhaaGreatExP
set_option linter.unusedVariables false
set_option linter.unusedSimpArgs false
set_option maxHeartbeats 4000000
set_option maxRecDepth 100000
namespace Go.Proofs.YtfefnfifeaihhaaGreat.Wo
open Go.ChangeShapes Go.WideShapes Go.ChangeAt Go.RowKit Go.Maps
open Lx Sh
/-- a run that is told, in rows of its own, with an error -/
def RunAny (w : World) (tr no : Int) (n : Nat) (a d : List Int) (er : Int) (e : Ending) (w' : World) : Prop := ∃ (A B : Option Addr) (c c' : Nat), e = .returned (.tuple #[.agg #[.int .i64 tr, .int .i64 no, .slice A n c, .slice B n c'], .int .i64 er]) ∧ Hid (Fr w' w.heap.size A (cs intC a)) ∧ Hid (Fr w' w.heap.size B (cs intC d)) ∧ Hid (Below w.heap.size w w')
theorem la_no {w : World} {er : Int} {e : Ending} {w' : World} (h : LaNo w er e w') : RunAny w 0 0 0 [] [] er e w' := ⟨none, none, 0, 0, h.1, HH (fun h => by simp [cs] at h), HH (fun h => by simp [cs] at h), HH h.2⟩
theorem la_ok {w : World} {tr no : Int} {n : Nat} {a d : List Int} {e : Ending} {w' : World} (h1 : a.length = n) (h2 : d.length = n) (h : LaPost w tr no a d e w') : RunAny w tr no n a d 0 e w' := by
  obtain ⟨A, B, c, c', he, h3, h4, h5⟩ := h
  rw [h1, h2] at he
  exact ⟨A, B, c, c', he, h3, h4, h5⟩
/-- what Later answers, as plain lists: its error -/
def latE (a d : List Int) (f b : Int) : Int := if timB a d = false ∨ f < 0 ∨ (a.length : Int) - 1 ≤ f ∨ b < 0 then 2 else if 1099511627776 - a[a.length - 1]?.getD 0 < b then 9 else 0
def latR (tr no : Int) (a d : List Int) (f b : Int) : RunM := if latE a d f b = 0 then ⟨tr, no, laA f.toNat b a, mvT f.toNat (d.length - f.toNat) b d⟩ else zRu
theorem later_any (w : World) (tr no : Int) (A B : Option Addr) (n m c d : Nat) (a e : List Int) (f b : Int) (hn : Hid (n = a.length)) (hm : Hid (m = e.length)) (hN : n ≤ 1000000) (hM : m ≤ 1000000) (hx : Rd w (· < w.heap.size) A (cs intC a)) (hy : Rd w (· < w.heap.size) B (cs intC e)) :
    Calls Tryz.prog 12 #[.agg #[.int .i64 tr, .int .i64 no, .slice A n c, .slice B m d], .int .i64 f, .int .i64 b] w (RunAny w (latR tr no a e f b).trip (latR tr no a e f b).no (latR tr no a e f b).arr.length (latR tr no a e f b).arr (latR tr no a e f b).dep (latE a e f b)) := by
  by_cases hbad : timB a e = false ∨ f < 0 ∨ (a.length : Int) - 1 ≤ f ∨ b < 0
  · have h2 : latE a e f b = 2 := by unfold latE; rw [if_pos hbad]
    unfold latR
    rw [h2, if_neg (by omega)]
    exact (later_bad w tr no A B n m c d a e f b hn hm hN hM hx hy (by rw [hn.out]; exact hbad)).mono fun _ _ h => la_no h
  · have ht : timB a e = true := by
      cases h : timB a e with
      | true => rfl
      | false => exact absurd (.inl h) hbad
    obtain ⟨g1, g2, g3, g4, g5, g6⟩ := tim_iff.1 ht
    have hf : ∃ k : Nat, f = (k : Int) ∧ k + 1 < a.length := ⟨f.toNat, by omega, by omega⟩
    obtain ⟨k, rfl, hk⟩ := hf
    obtain ⟨z, hz⟩ : ∃ z, a[a.length - 1]? = some z := ⟨_, List.getElem?_eq_getElem (by omega)⟩
    have hzd : e[a.length - 1]? = some z := g4 ▸ hz
    have hzb := g5 _ z z hz hzd
    have hmn : m = n := by have := hn.out; have := hm.out; omega
    subst hmn
    have hz' : a[m - 1]? = some z := by rw [hn.out]; exact hz
    by_cases hfar : 1099511627776 - z < b
    · have h2 : latE a e k b = 9 := by unfold latE; rw [if_neg hbad, hz, Option.getD_some, if_pos hfar]
      unfold latR
      rw [h2, if_neg (by omega)]
      exact (later_far w tr no A B m c d a e k b z hn hm hN hx hy (HH ht) (by rw [hn.out]; exact hk) (by omega) hz' hfar hzb.1 (by omega)).mono fun _ _ h => la_no h
    · have h2 : latE a e k b = 0 := by unfold latE; rw [if_neg hbad, hz, Option.getD_some, if_neg hfar]
      unfold latR
      rw [h2, if_pos rfl]
      have := later_ok w tr no A B m c d a e k b z hn hm hN hx hy (HH ht) (by rw [hn.out]; exact hk) (by omega) hz' (by omega) hzb.1
      refine this.mono fun r w' h => ?_
      rw [hm.out] at h
      exact la_ok rfl (by rw [mvT_len]; simp only [laA_len]; exact g2) h
theorem lat_no {tr no : Int} {a d : List Int} {f b : Int} (h : latE a d f b ≠ 0) : latR tr no a d f b = zRu := by unfold latR; rw [if_neg h]
theorem lat_yes {a d : List Int} {f b : Int} (h : latE a d f b = 0) : Tim a d ∧ ∃ k : Nat, f = (k : Int) ∧ k + 1 < a.length ∧ 0 ≤ b ∧ ∃ z, a[a.length - 1]? = some z ∧ b ≤ 1099511627776 - z := by
  unfold latE at h
  split at h
  · cases h
  next hb =>
  have ht : timB a d = true := by
    cases hh : timB a d with
    | true => rfl
    | false => exact absurd (.inl hh) hb
  have hT := tim_iff.1 ht
  have h2 := hT.1
  split at h
  · cases h
  next hf =>
  have hz := List.getElem?_eq_getElem (l := a) (i := a.length - 1) (by omega)
  rw [hz, Option.getD_some] at hf
  exact ⟨hT, f.toNat, by omega, by omega, by omega, _, hz, by omega⟩
theorem laA_two (k : Nat) (b b' : Int) (a : List Int) : laA k b' (laA k b a) = laA k (b + b') a := by
  apply List.ext_getElem?; intro i
  rw [laA_at, laA_at, laA_at]
  cases a[i]? with
  | none => rfl
  | some x => simp only [Option.map_some, Option.some.injEq]; split <;> omega
theorem laD_two (k : Nat) (b b' : Int) (d : List Int) : mvT k ((mvT k (d.length - k) b d).length - k) b' (mvT k (d.length - k) b d) = mvT k (d.length - k) (b + b') d := by
  apply List.ext_getElem?; intro i
  rw [laD_at, laD_at, laD_at]
  cases d[i]? with
  | none => rfl
  | some x => simp only [Option.map_some, Option.some.injEq]; split <;> omega
/-- later by both is later twice -/
theorem lat_two {tr no : Int} {a d : List Int} {f b b' : Int} (h : latE a d f b = 0) (hb' : 0 ≤ b') :
    latE (latR tr no a d f b).arr (latR tr no a d f b).dep f b' = latE a d f (b + b') ∧ latR tr no (latR tr no a d f b).arr (latR tr no a d f b).dep f b' = latR tr no a d f (b + b') := by
  obtain ⟨hT, k, rfl, hk, hb, z, hz, hbz⟩ := lat_yes h
  have hX := la_tim hT hk hb hz hbz
  have hR : latR tr no a d k b = ⟨tr, no, laA k b a, mvT k (d.length - k) b d⟩ := by unfold latR; rw [if_pos h]; rfl
  rw [hR]
  have hxz : (laA k b a)[(laA k b a).length - 1]? = some (z + b) := by rw [laA_len, laA_at, hz, Option.map_some, if_pos (by omega)]
  have hE : latE (laA k b a) (mvT k (d.length - k) b d) k b' = latE a d k (b + b') := by
    unfold latE
    rw [tim_iff.2 hX, tim_iff.2 hT, hxz, hz, laA_len]
    simp only [Option.getD_some]
    have n0 : ∀ c : Int, 0 ≤ c → ¬ (true = false ∨ (k : Int) < 0 ∨ (a.length : Int) - 1 ≤ k ∨ c < 0) := fun c hc h => by
      rcases h with h | h | h | h
      · cases h
      · omega
      · omega
      · omega
    rw [if_neg (n0 b' hb'), if_neg (n0 (b + b') (by omega))]
    by_cases hf : 1099511627776 - (z + b) < b'
    · rw [if_pos hf, if_pos (by omega)]
    · rw [if_neg hf, if_neg (by omega)]
  refine ⟨hE, ?_⟩
  unfold latR
  simp only
  rw [hE]
  split
  · rw [show ((k : Int)).toNat = k by omega, laA_two, laD_two]
  · rfl
theorem lat_lens (tr no : Int) {a d : List Int} {f b : Int} : (latR tr no a d f b).dep.length = (latR tr no a d f b).arr.length := by
  unfold latR
  split
  · next h =>
    have := (lat_yes h).1.2.1
    simp only [mvT_len, laA_len]; exact this
  · rfl
theorem lat_len (tr no : Int) {a d : List Int} {f b : Int} : (latR tr no a d f b).arr.length ≤ a.length := by
  unfold latR
  split
  · simp only [laA_len]; omega
  · simp
/-- what the law asks of each place -/
theorem lat_at {a d : List Int} {k : Nat} {b : Int} (hT : Tim a d) (hX : Tim (laA k b a) (mvT k (d.length - k) b d)) {j : Nat} (hj : j < a.length) : ∃ p q : Int, a[j]? = some p ∧ d[j]? = some q ∧ (0 ≤ p ∧ p ≤ 1099511627776) ∧ (0 ≤ q ∧ q ≤ 1099511627776) ∧ (laA k b a)[j]? = some (if k < j ∨ (j = 0 ∧ k = 0) then p + b else p) ∧ (mvT k (d.length - k) b d)[j]? = some (if k ≤ j then q + b else q) ∧ (if k < j ∨ (j = 0 ∧ k = 0) then p + b else p) ≤ (if k ≤ j then q + b else q) ∧ ∀ i, j = i + 1 → ∃ u, (mvT k (d.length - k) b d)[i]? = some u ∧ u < (if k < j ∨ (j = 0 ∧ k = 0) then p + b else p) := by
  have hp := List.getElem?_eq_getElem hj
  have hq := List.getElem?_eq_getElem (l := d) (i := j) (by have := hT.2.1; omega)
  have g := hT.2.2.2.2.1 j _ _ hp hq
  have h1 : (laA k b a)[j]? = some (if k < j ∨ (j = 0 ∧ k = 0) then a[j] + b else a[j]) := by rw [laA_at, hp]; rfl
  have h2 := laD_at k b d j
  rw [hq, Option.map_some] at h2
  have g2 := hX.2.2.2.2.1 j _ _ h1 h2
  refine ⟨_, _, hp, hq, ⟨g.1, by omega⟩, ⟨by omega, g.2.2⟩, h1, h2, g2.2.1, fun i e => ?_⟩
  subst e
  have hu := List.getElem?_eq_getElem (l := mvT k (d.length - k) b d) (i := i) (by rw [mvT_len]; have := hT.2.1; omega)
  exact ⟨_, hu, hX.2.2.2.2.2 i _ _ hu h1⟩
end Go.Proofs.YtfefnfifeaihhaaGreat.Wo
