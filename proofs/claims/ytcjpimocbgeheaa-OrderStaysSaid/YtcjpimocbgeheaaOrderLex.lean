/- Plain lists: what sorting makes of keys whose places rise: rising by number and place, all that was there, and the only such row; moved, and turned about. -/
import Derived.Test.YtcjpimocbgeheaaOrderViews
namespace Go.Proofs.Ytcjpimocbgeheaa.Od
set_option linter.unusedVariables false

def lexLt (a b : Key) : Prop := a.1 < b.1 ∨ a.1 = b.1 ∧ a.2 < b.2
theorem lex_trans {a b c : Key} (h : lexLt a b) (k : lexLt b c) : lexLt a c := by unfold lexLt at *; omega
theorem ins_perm (x : Key) (s : List Key) : (ins x s).Perm (x :: s) := by
  induction s with
  | nil => exact List.Perm.refl _
  | cons y t ih =>
    unfold ins
    split
    · exact List.Perm.refl _
    · exact (ih.cons y).trans (List.Perm.swap x y t)
theorem fold_perm (b : List Key) : ∀ t, (b.foldl (fun s x => ins x s) t).Perm (b ++ t) := by
  induction b with
  | nil => intro t; exact List.Perm.refl _
  | cons x b ih =>
    intro t
    simp only [List.foldl_cons, List.cons_append]
    exact (ih (ins x t)).trans (((ins_perm x t).append_left b).trans List.perm_middle)
theorem srt_perm (l : List Key) : (srt l).Perm l := by simpa [srt] using fold_perm l []
theorem ins_lex {x : Key} {s : List Key} (h : s.Pairwise lexLt) (hx : ∀ y ∈ s, y.2 < x.2) : (ins x s).Pairwise lexLt := by
  induction s with
  | nil => simp [ins]
  | cons y t ih =>
    rw [List.pairwise_cons] at h
    unfold ins
    split
    · rename_i hlt
      rw [List.pairwise_cons, List.pairwise_cons]
      refine ⟨fun z hz => ?_, h⟩
      rcases List.mem_cons.1 hz with rfl | hz
      · exact .inl hlt
      · exact lex_trans (.inl hlt) (h.1 z hz)
    · rename_i hge
      rw [List.pairwise_cons]
      refine ⟨fun z hz => ?_, ih h.2 (fun z hz => hx z (by simp [hz]))⟩
      rcases List.mem_cons.1 ((ins_perm x t).mem_iff.1 hz) with rfl | hz
      · have := hx y (by simp)
        unfold lexLt
        omega
      · exact h.1 z hz
theorem fold_lex (b : List Key) : ∀ t, t.Pairwise lexLt → b.Pairwise (fun a c => a.2 < c.2) → (∀ y ∈ t, ∀ x ∈ b, y.2 < x.2) → (b.foldl (fun s x => ins x s) t).Pairwise lexLt := by
  induction b with
  | nil => intro t h _ _; exact h
  | cons x b ih =>
    intro t h hb hx
    rw [List.pairwise_cons] at hb
    refine ih _ (ins_lex h (fun y hy => hx y hy x (by simp))) hb.2 (fun y hy z hz => ?_)
    rcases List.mem_cons.1 ((ins_perm x t).mem_iff.1 hy) with rfl | hy
    · exact hb.1 z hz
    · exact hx y hy z (by simp [hz])
theorem srt_lex {l : List Key} (h : l.Pairwise (fun a c => a.2 < c.2)) : (srt l).Pairwise lexLt := fold_lex l [] List.Pairwise.nil h (by simp)
theorem lex_unique {a b : List Key} (h : a.Perm b) (ha : a.Pairwise lexLt) (hb : b.Pairwise lexLt) : a = b := by
  induction a generalizing b with
  | nil => exact h.nil_eq
  | cons x a ih =>
    cases b with
    | nil => exact absurd h.symm.nil_eq (by simp)
    | cons y b =>
      rw [List.pairwise_cons] at ha hb
      have hxy : x = y := by
        rcases List.mem_cons.1 (h.mem_iff.1 (List.mem_cons_self)) with e | e
        · exact e
        · rcases List.mem_cons.1 (h.mem_iff.2 (List.mem_cons_self)) with e' | e'
          · exact e'.symm
          · have h1 := hb.1 x e
            have h2 := ha.1 y e'
            unfold lexLt at h1 h2
            omega
      subst hxy
      rw [ih (List.Perm.cons_inv h) ha.2 hb.2]
theorem kz_rise (zs : List Int) : (kz zs).Pairwise (fun a c => a.2 < c.2) := by
  unfold kz kzF
  rw [List.pairwise_map]
  exact (List.pairwise_lt_range).imp (fun {a b} h => by simpa using h)
theorem kz_lex (zs : List Int) : (srt (kz zs)).Pairwise lexLt := srt_lex (kz_rise zs)

/-- moved by the same -/
theorem ins_map (f : Key → Key) (hf : ∀ a b : Key, (f a).1 < (f b).1 ↔ a.1 < b.1) (x : Key) (s : List Key) : ins (f x) (s.map f) = (ins x s).map f := by
  induction s with
  | nil => rfl
  | cons y t ih =>
    simp only [List.map_cons, ins]
    by_cases h : x.1 < y.1
    · rw [if_pos h, if_pos ((hf x y).2 h)]; rfl
    · rw [if_neg h, if_neg (fun e => h ((hf x y).1 e)), ih]; rfl
theorem srt_map (f : Key → Key) (hf : ∀ a b : Key, (f a).1 < (f b).1 ↔ a.1 < b.1) (l : List Key) : srt (l.map f) = (srt l).map f := by
  have h : ∀ t, (l.map f).foldl (fun s x => ins x s) (t.map f) = (l.foldl (fun s x => ins x s) t).map f := by
    induction l with
    | nil => intro t; rfl
    | cons x l ih => intro t; simp only [List.map_cons, List.foldl_cons]; rw [ins_map f hf, ih]
  exact h []
theorem getD_map (f : Int → Int) (zs : List Int) (i : Nat) (h : i < zs.length) : (zs.map f).getD i 0 = f (zs.getD i 0) := by
  simp [List.getD_eq_getElem?_getD, List.getElem?_eq_getElem h]
theorem kz_map (zs : List Int) (by_ : Int) : kz (zs.map (· + by_)) = (kz zs).map (fun p => (p.1 + by_, p.2)) := by
  unfold kz kzF
  rw [List.length_map, List.map_map]
  refine List.map_congr_left (fun i hi => ?_)
  have hi' : i < zs.length := by simpa using hi
  rw [getD_map _ _ _ hi']; rfl
theorem pm_moved (zs : List Int) (by_ : Int) : pm (zs.map (· + by_)) = pm zs := by
  unfold pm
  rw [kz_map, srt_map _ (fun a b => by simp), List.map_map]
  rfl

/-- turned about -/
def turn (n : Nat) (p : Key) : Key := (-p.1, (n : Int) - 1 - p.2)
def backZ (zs : List Int) : List Int := (List.range zs.length).map fun j => -(zs.getD (zs.length - 1 - j) 0)
theorem backZ_length (zs : List Int) : (backZ zs).length = zs.length := by simp [backZ]
theorem kz_back (zs : List Int) : kz (backZ zs) = ((kz zs).reverse).map (turn zs.length) := by
  refine List.ext_getElem (by simp [kz_length, backZ_length]) (fun i h1 h2 => ?_)
  have hi : i < zs.length := by simpa [kz_length, backZ_length] using h1
  simp only [kz, kzF, List.getElem_map, List.getElem_range, List.getElem_reverse, turn, List.length_map, List.length_range]
  have e : (backZ zs).getD i 0 = -(zs.getD (zs.length - 1 - i) 0) := by
    simp [backZ, List.getD_eq_getElem?_getD, hi]
  rw [e]
  refine Prod.ext rfl ?_
  show (i : Int) = (zs.length : Int) - 1 - ((zs.length - 1 - i : Nat) : Int)
  omega
theorem srt_back (zs : List Int) : srt (kz (backZ zs)) = ((srt (kz zs)).reverse).map (turn zs.length) := by
  refine lex_unique ?_ (kz_lex _) ?_
  · refine (srt_perm _).trans ?_
    rw [kz_back]
    exact (((List.reverse_perm _).trans (srt_perm (kz zs)).symm).trans (List.reverse_perm _).symm).map _
  · rw [List.pairwise_map, List.pairwise_reverse]
    exact (kz_lex zs).imp (fun {a b} h => by unfold lexLt turn at *; simp only at *; omega)
theorem pm_back (zs : List Int) (i : Nat) (h : i < zs.length) : (pm (backZ zs)).getD i 0 = (zs.length : Int) - 1 - (pm zs).getD (zs.length - 1 - i) 0 := by
  have hl : (srt (kz zs)).length = zs.length := by rw [srt_length, kz_length]
  unfold pm
  rw [srt_back]
  have hj : zs.length - 1 - i < (srt (kz zs)).length := by omega
  have hi : i < (srt (kz zs)).reverse.length := by simpa [hl] using h
  simp only [List.getD_eq_getElem?_getD, List.map_map]
  rw [List.getElem?_eq_getElem (by simpa using hi), List.getElem?_eq_getElem (by simpa using hj)]
  simp only [Option.getD_some, List.getElem_map, List.getElem_reverse, Function.comp, turn]
  simp only [hl]
theorem pm_bound (zs : List Int) (i : Nat) (h : i < zs.length) : 0 ≤ (pm zs).getD i 0 ∧ (pm zs).getD i 0 < zs.length := by
  have hl : i < (pm zs).length := by rw [pm_length]; exact h
  have hm : (pm zs).getD i 0 ∈ pm zs := by
    simp only [List.getD_eq_getElem?_getD, List.getElem?_eq_getElem hl, Option.getD_some]; exact List.getElem_mem hl
  unfold pm at hm ⊢
  obtain ⟨p, hp, e⟩ := List.mem_map.1 hm
  rw [← e]
  have hp2 := (srt_perm _).mem_iff.1 hp
  unfold kz kzF at hp2
  obtain ⟨j, hj, rfl⟩ := List.mem_map.1 hp2
  have : j < zs.length := by simpa using hj
  simp only
  omega
end Go.Proofs.Ytcjpimocbgeheaa.Od
