/- Windows as lists: good rows, joined, merged, their ticks, sums, what Next, Free and Gap tell, the windows of times. Pure mathematics. No conditions. -/
import Derived.Test.YtffddkbphdjehaaRows
namespace Go.Proofs.Ytffddkbphdjehaa.Wn
set_option linter.unusedVariables false

/-- a window: where it begins, where it ends -/
abbrev Win := Int × Int
/-- good, behind an end -/
def goodB : Int → List Win → Bool
  | _, [] => true
  | e, w :: r => if w.1 ≤ e ∨ w.2 ≤ w.1 ∨ 2199023255552 < w.2 then false else goodB w.2 r
/-- in order and apart, behind lo -/
def Gd (lo : Int) : List Win → Prop
  | [] => True
  | w :: r => lo < w.1 ∧ w.1 < w.2 ∧ w.2 ≤ 2199023255552 ∧ Gd w.2 r
theorem goodB_iff (e : Int) (l : List Win) : goodB e l = true ↔ Gd e l := by
  induction l generalizing e with
  | nil => simp [goodB, Gd]
  | cons w r ih =>
    simp only [goodB, Gd]
    split
    · rename_i h
      constructor
      · intro h'; cases h'
      · intro h'; omega
    · rename_i h
      rw [ih]
      constructor
      · intro h'; exact ⟨by omega, by omega, by omega, h'⟩
      · intro h'; exact h'.2.2.2
/-- is the row good? -/
def good (l : List Win) : Bool := goodB (-1) l
theorem good_gd {l : List Win} (h : good l = true) : Gd (-1) l := (goodB_iff _ _).1 h
theorem gd_good {l : List Win} (h : Gd (-1) l) : good l = true := (goodB_iff _ _).2 h
theorem Gd.mono {lo lo' : Int} {l : List Win} (h : Gd lo l) (hl : lo' ≤ lo) : Gd lo' l := by
  cases l with
  | nil => trivial
  | cons w r => exact ⟨by have := h.1; omega, h.2⟩
/-- x is in a window of l -/
def mem (l : List Win) (x : Int) : Prop := ∃ w ∈ l, w.1 ≤ x ∧ x < w.2
theorem mem_nil (x : Int) : ¬ mem [] x := fun ⟨_, h, _⟩ => by cases h
theorem mem_cons (w : Win) (r : List Win) (x : Int) : mem (w :: r) x ↔ (w.1 ≤ x ∧ x < w.2) ∨ mem r x := by
  constructor
  · rintro ⟨v, hv, h⟩
    rcases List.mem_cons.1 hv with rfl | hv
    · exact .inl h
    · exact .inr ⟨v, hv, h⟩
  · rintro (h | ⟨v, hv, h⟩)
    · exact ⟨w, List.mem_cons_self .., h⟩
    · exact ⟨v, List.mem_cons_of_mem _ hv, h⟩
theorem Gd.mem_gt {lo : Int} {l : List Win} (h : Gd lo l) {x : Int} (hx : mem l x) : lo < x ∧ x < 2199023255552 := by
  induction l generalizing lo with
  | nil => exact (mem_nil _ hx).elim
  | cons w r ih =>
    obtain ⟨h1, h2, h3, h4⟩ := h
    rcases (mem_cons _ _ _).1 hx with hw | hr
    · omega
    · have := ih h4 hr; omega
theorem Gd.ext {a b : List Win} {lo lo' : Int} (ha : Gd lo a) (hb : Gd lo' b) (h : ∀ x, mem a x ↔ mem b x) : a = b := by
  induction a generalizing b lo lo' with
  | nil =>
    cases b with
    | nil => rfl
    | cons v s => exact (mem_nil _ ((h v.1).2 ((mem_cons _ _ _).2 (.inl ⟨by omega, hb.2.1⟩)))).elim
  | cons w r ih =>
    cases b with
    | nil => exact (mem_nil _ ((h w.1).1 ((mem_cons _ _ _).2 (.inl ⟨by omega, ha.2.1⟩)))).elim
    | cons v s =>
      obtain ⟨a1, a2, a3, a4⟩ := ha
      obtain ⟨b1, b2, b3, b4⟩ := hb
      have least : ∀ {u : Win} {t : List Win} {x : Int}, u.1 < u.2 → Gd u.2 t → mem (u :: t) x → u.1 ≤ x := fun hu ht hx => by
        rcases (mem_cons _ _ _).1 hx with h | h
        · exact h.1
        · have := ht.mem_gt h; omega
      have e1 : w.1 = v.1 := by
        have h1 := least b2 b4 ((h w.1).1 ((mem_cons _ _ _).2 (.inl ⟨by omega, a2⟩)))
        have h2 := least a2 a4 ((h v.1).2 ((mem_cons _ _ _).2 (.inl ⟨by omega, b2⟩)))
        omega
      have endOf : ∀ {u : Win} {t : List Win}, u.1 < u.2 → Gd u.2 t → ¬ mem (u :: t) u.2 := fun hu ht hx => by
        rcases (mem_cons _ _ _).1 hx with h | h
        · omega
        · have := ht.mem_gt h; omega
      have e2 : w.2 = v.2 := by
        rcases Int.lt_trichotomy w.2 v.2 with hlt | heq | hgt
        · exact (endOf a2 a4 ((h w.2).2 ((mem_cons _ _ _).2 (.inl ⟨by omega, hlt⟩)))).elim
        · exact heq
        · exact (endOf b2 b4 ((h v.2).1 ((mem_cons _ _ _).2 (.inl ⟨by omega, hgt⟩)))).elim
      have e : w = v := Prod.ext e1 e2
      subst e
      congr 1
      refine ih a4 b4 fun x => ?_
      constructor
      · intro hx
        have := a4.mem_gt hx
        rcases (mem_cons _ _ _).1 ((h x).1 ((mem_cons _ _ _).2 (.inr hx))) with h' | h'
        · omega
        · exact h'
      · intro hx
        have := b4.mem_gt hx
        rcases (mem_cons _ _ _).1 ((h x).2 ((mem_cons _ _ _).2 (.inr hx))) with h' | h'
        · omega
        · exact h'

/-- one more window onto what is joined -/
def jstep (acc : List Win) (w : Win) : List Win :=
  match acc.getLast? with
  | none => [w]
  | some c => if w.1 ≤ c.2 then acc.dropLast ++ [(c.1, max c.2 w.2)] else acc ++ [w]
/-- joined -/
def jn (l : List Win) : List Win := l.foldl jstep []
/-- joined onto a window -/
def jr : Win → List Win → List Win
  | c, [] => [c]
  | c, w :: r => if w.1 ≤ c.2 then jr (c.1, max c.2 w.2) r else c :: jr w r
theorem jstep_last (pre : List Win) (c w : Win) : jstep (pre ++ [c]) w = if w.1 ≤ c.2 then pre ++ [(c.1, max c.2 w.2)] else pre ++ [c] ++ [w] := by
  simp [jstep]
theorem jstep_nil (w : Win) : jstep [] w = [w] := rfl
theorem fold_jr (l pre : List Win) (c : Win) : l.foldl jstep (pre ++ [c]) = pre ++ jr c l := by
  induction l generalizing pre c with
  | nil => rfl
  | cons w r ih =>
    rw [List.foldl_cons, jstep_last]
    simp only [jr]
    split
    · exact ih _ _
    · rw [ih]; simp
theorem jn_cons (w : Win) (l : List Win) : jn (w :: l) = jr w l := by
  show (w :: l).foldl jstep [] = _
  rw [List.foldl_cons, jstep_nil]
  simpa using fold_jr l [] w
theorem jn_nil : jn [] = [] := rfl
theorem jn_snoc (l : List Win) (w : Win) : jn (l ++ [w]) = jstep (jn l) w := by simp [jn, List.foldl_append]
theorem jn_length (l : List Win) : (jn l).length ≤ l.length := by
  have : ∀ (l : List Win) (c : Win), (jr c l).length ≤ l.length + 1 := by
    intro l
    induction l with
    | nil => intro c; simp [jr]
    | cons w r ih =>
      intro c
      simp only [jr]
      split
      · have := ih (c.1, max c.2 w.2); simp; omega
      · have := ih w; simp; omega
  cases l with
  | nil => simp [jn_nil]
  | cons w r => rw [jn_cons]; exact this r w

/-- by rising beginnings -/
def Up (lo : Int) : List Win → Prop
  | [] => True
  | w :: r => lo ≤ w.1 ∧ w.1 < w.2 ∧ w.2 ≤ 2199023255552 ∧ Up w.1 r
theorem Up.mono {lo lo' : Int} {l : List Win} (h : Up lo l) (hl : lo' ≤ lo) : Up lo' l := by
  cases l with
  | nil => trivial
  | cons w r => exact ⟨by have := h.1; omega, h.2⟩
theorem Up.at_ {lo lo' : Int} {w : Win} {l : List Win} (h : Up lo (w :: l)) (hl : lo' ≤ w.1) : Up lo' (w :: l) := ⟨hl, h.2⟩
theorem Gd.up {lo : Int} {l : List Win} (h : Gd lo l) : Up (lo + 1) l := by
  induction l generalizing lo with
  | nil => trivial
  | cons w r ih =>
    obtain ⟨h1, h2, h3, h4⟩ := h
    exact ⟨by omega, h2, h3, (ih h4).mono (by omega)⟩
theorem jr_gd {l : List Win} {c : Win} {lo : Int} (hu : Up c.1 l) (h1 : lo < c.1) (h2 : c.1 < c.2) (h3 : c.2 ≤ 2199023255552) : Gd lo (jr c l) := by
  induction l generalizing c lo with
  | nil => exact ⟨h1, h2, h3, trivial⟩
  | cons w r ih =>
    obtain ⟨u1, u2, u3, u4⟩ := hu
    simp only [jr]
    split
    · exact ih (c := (c.1, max c.2 w.2)) (u4.mono u1) h1 (by show c.1 < max _ _; omega) (by show max _ _ ≤ 2199023255552; omega)
    · exact ⟨h1, h2, h3, ih u4 (by omega) u2 u3⟩
theorem jr_mem {l : List Win} {c : Win} (hu : Up c.1 l) (h2 : c.1 < c.2) (x : Int) : mem (jr c l) x ↔ mem (c :: l) x := by
  induction l generalizing c with
  | nil => exact Iff.rfl
  | cons w r ih =>
    obtain ⟨u1, u2, u3, u4⟩ := hu
    simp only [jr]
    split
    · rename_i h
      rw [ih (c := (c.1, max c.2 w.2)) (u4.mono u1) (by show c.1 < max _ _; omega), mem_cons, mem_cons, mem_cons]
      dsimp only
      constructor
      · rintro (⟨a, b⟩ | a)
        · by_cases hx : x < c.2
          · exact .inl ⟨a, hx⟩
          · exact .inr (.inl ⟨by omega, by omega⟩)
        · exact .inr (.inr a)
      · rintro (⟨a, b⟩ | ⟨a, b⟩ | a)
        · exact .inl ⟨a, by omega⟩
        · exact .inl ⟨by omega, by omega⟩
        · exact .inr a
    · rw [mem_cons, ih u4 u2, mem_cons (w := c)]
theorem jn_gd {l : List Win} {lo : Int} (hu : Up (lo + 1) l) : Gd lo (jn l) := by
  cases l with
  | nil => trivial
  | cons w r => rw [jn_cons]; exact jr_gd hu.2.2.2 (by have := hu.1; omega) hu.2.1 hu.2.2.1
theorem jn_mem {l : List Win} {lo : Int} (hu : Up lo l) (x : Int) : mem (jn l) x ↔ mem l x := by
  cases l with
  | nil => exact Iff.rfl
  | cons w r => rw [jn_cons]; exact jr_mem hu.2.2.2 hu.2.1 x

/-- all of both, each time from the one that is ahead, the two changing their places -/
def ms : List Win → List Win → List Win
  | [], b => b
  | a :: s, [] => a :: s
  | a :: s, b :: t => if b.1 < a.1 then b :: ms t (a :: s) else a :: ms s (b :: t)
termination_by a b => a.length + b.length
decreasing_by all_goals simp <;> omega
theorem ms_nil_l (b : List Win) : ms [] b = b := by unfold ms; rfl
theorem ms_nil_r (a : List Win) : ms a [] = a := by cases a <;> (unfold ms; rfl)
theorem ms_lt {a b : Win} {s t : List Win} (h : b.1 < a.1) : ms (a :: s) (b :: t) = b :: ms t (a :: s) := by rw [ms, if_pos h]
theorem ms_ge {a b : Win} {s t : List Win} (h : ¬ b.1 < a.1) : ms (a :: s) (b :: t) = a :: ms s (b :: t) := by rw [ms, if_neg h]
theorem ms_length (a b : List Win) : (ms a b).length = a.length + b.length := by
  induction a, b using ms.induct with
  | case1 b => rw [ms_nil_l]; simp
  | case2 a s => rw [ms_nil_r]; simp
  | case3 a s b t h ih => rw [ms_lt h]; simp [ih]; omega
  | case4 a s b t h ih => rw [ms_ge h]; simp [ih]; omega
theorem ms_mem (a b : List Win) (x : Int) : mem (ms a b) x ↔ mem a x ∨ mem b x := by
  induction a, b using ms.induct with
  | case1 b => rw [ms_nil_l]; exact ⟨.inr, fun h => h.elim (fun h => (mem_nil _ h).elim) id⟩
  | case2 a s => rw [ms_nil_r]; exact ⟨.inl, fun h => h.elim id (fun h => (mem_nil _ h).elim)⟩
  | case3 a s b t h ih => rw [ms_lt h, mem_cons, ih, mem_cons (w := b)]; constructor <;> (intro h; rcases h with h | h | h <;> simp [h])
  | case4 a s b t h ih => rw [ms_ge h, mem_cons, ih, mem_cons (w := a), or_assoc]
theorem ms_up {a b : List Win} {lo : Int} (ha : Up lo a) (hb : Up lo b) : Up lo (ms a b) := by
  induction a, b using ms.induct generalizing lo with
  | case1 b => rw [ms_nil_l]; exact hb
  | case2 a s => rw [ms_nil_r]; exact ha
  | case3 a s b t h ih => rw [ms_lt h]; exact ⟨hb.1, hb.2.1, hb.2.2.1, ih hb.2.2.2 (Up.at_ ha (by omega))⟩
  | case4 a s b t h ih => rw [ms_ge h]; exact ⟨ha.1, ha.2.1, ha.2.2.1, ih ha.2.2.2 (Up.at_ hb (by omega))⟩

/-- all of both, the first one's ahead where they begin together (the document's order) -/
def md : List Win → List Win → List Win
  | [], b => b
  | a :: s, [] => a :: s
  | a :: s, b :: t => if b.1 < a.1 then b :: md (a :: s) t else a :: md s (b :: t)
termination_by a b => a.length + b.length
theorem md_nil_l (b : List Win) : md [] b = b := by unfold md; rfl
theorem md_nil_r (a : List Win) : md a [] = a := by cases a <;> (unfold md; rfl)
theorem md_lt {a b : Win} {s t : List Win} (h : b.1 < a.1) : md (a :: s) (b :: t) = b :: md (a :: s) t := by rw [md, if_pos h]
theorem md_ge {a b : Win} {s t : List Win} (h : ¬ b.1 < a.1) : md (a :: s) (b :: t) = a :: md s (b :: t) := by rw [md, if_neg h]
theorem md_mem (a b : List Win) (x : Int) : mem (md a b) x ↔ mem a x ∨ mem b x := by
  induction a, b using md.induct with
  | case1 b => rw [md_nil_l]; exact ⟨.inr, fun h => h.elim (fun h => (mem_nil _ h).elim) id⟩
  | case2 a s => rw [md_nil_r]; exact ⟨.inl, fun h => h.elim id (fun h => (mem_nil _ h).elim)⟩
  | case3 a s b t h ih => rw [md_lt h, mem_cons, ih, mem_cons (w := b)]; constructor <;> (intro h; rcases h with h | h | h <;> simp [h])
  | case4 a s b t h ih => rw [md_ge h, mem_cons, ih, mem_cons (w := a), or_assoc]
theorem md_up {a b : List Win} {lo : Int} (ha : Up lo a) (hb : Up lo b) : Up lo (md a b) := by
  induction a, b using md.induct generalizing lo with
  | case1 b => rw [md_nil_l]; exact hb
  | case2 a s => rw [md_nil_r]; exact ha
  | case3 a s b t h ih => rw [md_lt h]; exact ⟨hb.1, hb.2.1, hb.2.2.1, ih (Up.at_ ha (by omega)) hb.2.2.2⟩
  | case4 a s b t h ih => rw [md_ge h]; exact ⟨ha.1, ha.2.1, ha.2.2.1, ih ha.2.2.2 (Up.at_ hb (by omega))⟩

/-- the union of two rows: nothing, unless both are good -/
def un (a b : List Win) : List Win := if good a = true ∧ good b = true then jn (ms a b) else []
theorem un_good {a b : List Win} (ha : good a = true) (hb : good b = true) : Gd (-1) (un a b) ∧ ∀ x, mem (un a b) x ↔ mem a x ∨ mem b x := by
  have hu : Up (-1 + 1) (ms a b) := ms_up (good_gd ha).up (good_gd hb).up
  rw [un, if_pos ⟨ha, hb⟩]
  exact ⟨jn_gd hu, fun x => by rw [jn_mem hu, ms_mem]⟩
theorem un_good' {a b : List Win} (ha : good a = true) (hb : good b = true) : good (un a b) = true := gd_good (un_good ha hb).1
theorem un_mem {a b : List Win} (ha : good a = true) (hb : good b = true) (x : Int) : mem (un a b) x ↔ mem a x ∨ mem b x := (un_good ha hb).2 x
theorem un_ext {a b c : List Win} (ha : good a = true) (hb : good b = true) (hc : good c = true) (h : ∀ x, (mem a x ∨ mem b x) ↔ mem c x) : un a b = c :=
  (un_good ha hb).1.ext (good_gd hc) fun x => ((un_good ha hb).2 x).trans (h x)
theorem un_comm {a b : List Win} (ha : good a = true) (hb : good b = true) : un a b = un b a :=
  un_ext ha hb (un_good' hb ha) fun x => by rw [un_mem hb ha]; exact or_comm
theorem un_self {a : List Win} (ha : good a = true) : un a a = a := un_ext ha ha ha fun x => by simp
theorem un_nil {a : List Win} (ha : good a = true) : un a [] = a := un_ext ha rfl ha fun x => by simp [mem_nil]
theorem un_absorb {a b : List Win} (ha : good a = true) (hb : good b = true) : un (un a b) a = un a b :=
  un_ext (un_good' ha hb) ha (un_good' ha hb) fun x => by rw [un_mem ha hb]; constructor <;> (intro h; rcases h with h | h <;> simp_all)
theorem un_assoc {a b c : List Win} (ha : good a = true) (hb : good b = true) (hc : good c = true) : un (un a b) c = un a (un b c) :=
  un_ext (un_good' ha hb) hc (un_good' ha (un_good' hb hc)) fun x => by rw [un_mem ha hb, un_mem ha (un_good' hb hc), un_mem hb hc, or_assoc]
theorem un_doc (a b : List Win) : un a b = if good a = true ∧ good b = true then jn (md a b) else [] := by
  unfold un
  split
  · rename_i h
    have h1 : Up (-1 + 1) (ms a b) := ms_up (good_gd h.1).up (good_gd h.2).up
    have h2 : Up (-1 + 1) (md a b) := md_up (good_gd h.1).up (good_gd h.2).up
    exact (jn_gd h1).ext (jn_gd h2) fun x => by rw [jn_mem h1, jn_mem h2, ms_mem, md_mem]
  · rfl
theorem un_length (a b : List Win) : (un a b).length ≤ a.length + b.length := by
  unfold un
  split
  · exact Nat.le_trans (jn_length _) (by rw [ms_length]; exact Nat.le_refl _)
  · simp

/-- how many ticks are in windows -/
def sm (l : List Win) : Int := (l.map fun w => w.2 - w.1).sum
theorem sm_nil : sm [] = 0 := rfl
theorem sm_cons (w : Win) (r : List Win) : sm (w :: r) = w.2 - w.1 + sm r := rfl
theorem sm_snoc (l : List Win) (w : Win) : sm (l ++ [w]) = sm l + (w.2 - w.1) := by simp [sm]
theorem Gd.sm_le {lo : Int} {l : List Win} (h : Gd lo l) (hl : lo ≤ 2199023255552) : 0 ≤ sm l ∧ sm l ≤ 2199023255552 - lo := by
  induction l generalizing lo with
  | nil => rw [sm_nil]; exact ⟨by omega, by omega⟩
  | cons w r ih => obtain ⟨h1, h2, h3, h4⟩ := h; have := ih h4 h3; rw [sm_cons]; omega
/-- how many of the first n ticks are so -/
def cnt (p : Int → Bool) : Nat → Nat
  | 0 => 0
  | n + 1 => cnt p n + if p n then 1 else 0
theorem cnt_mono {p q : Int → Bool} (h : ∀ x, p x = true → q x = true) (n : Nat) : cnt p n ≤ cnt q n := by
  induction n with
  | zero => exact Nat.le_refl _
  | succ n ih =>
    simp only [cnt]
    have := h n
    by_cases hp : p n = true
    · rw [if_pos hp, if_pos (this hp)]; omega
    · rw [if_neg hp]; omega
theorem cnt_or (p q : Int → Bool) (n : Nat) : cnt (fun x => p x || q x) n ≤ cnt p n + cnt q n := by
  induction n with
  | zero => exact Nat.le_refl _
  | succ n ih =>
    simp only [cnt]
    rcases Bool.eq_false_or_eq_true (p n) with hp | hp <;> rcases Bool.eq_false_or_eq_true (q n) with hq | hq <;> simp [hp, hq] <;> omega
theorem cnt_two (p q : Int → Bool) (h : ∀ x, p x = true → q x = true → False) (n : Nat) : cnt (fun x => p x || q x) n = cnt p n + cnt q n := by
  induction n with
  | zero => rfl
  | succ n ih =>
    simp only [cnt]
    rcases Bool.eq_false_or_eq_true (p n) with hp | hp <;> rcases Bool.eq_false_or_eq_true (q n) with hq | hq
    · exact (h n hp hq).elim
    all_goals simp [hp, hq]; omega
theorem cnt_in (f t : Int) (hf : 0 ≤ f) (ht : f ≤ t) (n : Nat) (hn : t ≤ n) : (cnt (fun x => decide (f ≤ x ∧ x < t)) n : Int) = t - f := by
  have : ∀ n : Nat, (cnt (fun x => decide (f ≤ x ∧ x < t)) n : Int) = max 0 (min t n - f) := by
    intro n
    induction n with
    | zero => simp only [cnt]; omega
    | succ n ih =>
      simp only [cnt, decide_eq_true_eq]
      split <;> omega
  rw [this]; omega
def memB (l : List Win) (x : Int) : Bool := l.any fun w => decide (w.1 ≤ x ∧ x < w.2)
theorem memB_iff (l : List Win) (x : Int) : memB l x = true ↔ mem l x := by simp [memB, mem]
theorem Gd.cnt {lo : Int} {l : List Win} (h : Gd lo l) (hl : -1 ≤ lo) (n : Nat) (hn : 2199023255552 ≤ n) : (cnt (memB l) n : Int) = sm l := by
  induction l generalizing lo with
  | nil =>
    have : ∀ n, Wn.cnt (memB []) n = 0 := by intro n; induction n with
      | zero => rfl
      | succ n ih => simp [Wn.cnt, ih, memB]
    rw [this]; rfl
  | cons w r ih =>
    obtain ⟨h1, h2, h3, h4⟩ := h
    have e : memB (w :: r) = fun x => decide (w.1 ≤ x ∧ x < w.2) || memB r x := by funext x; simp [memB]
    rw [e, cnt_two]
    · have := ih h4 (by omega)
      have h5 := cnt_in w.1 w.2 (by omega) (by omega) n (by omega)
      rw [sm_cons]; omega
    · intro x hx hr
      have := h4.mem_gt ((memB_iff _ _).1 hr)
      simp at hx; omega
theorem sm_mono {a b : List Win} (ha : good a = true) (hb : good b = true) (h : ∀ x, mem a x → mem b x) : sm a ≤ sm b := by
  rw [← (good_gd ha).cnt (by omega) 2199023255552 (by decide), ← (good_gd hb).cnt (by omega) 2199023255552 (by decide)]
  exact Int.ofNat_le.2 (cnt_mono (fun x hx => (memB_iff _ _).2 (h x ((memB_iff _ _).1 hx))) _)
theorem sm_un {a b : List Win} (ha : good a = true) (hb : good b = true) : sm (un a b) ≤ sm a + sm b := by
  rw [← (good_gd ha).cnt (by omega) 2199023255552 (by decide), ← (good_gd hb).cnt (by omega) 2199023255552 (by decide), ← (un_good ha hb).1.cnt (by omega) 2199023255552 (by decide)]
  have e : Wn.cnt (memB (un a b)) 2199023255552 = Wn.cnt (fun x => memB a x || memB b x) 2199023255552 := by
    congr 1; funext x
    apply Bool.eq_iff_iff.2
    rw [memB_iff, un_mem ha hb, Bool.or_eq_true, memB_iff, memB_iff]
  rw [e]
  have := cnt_or (memB a) (memB b) 2199023255552
  omega
theorem sm_un_l {a b : List Win} (ha : good a = true) (hb : good b = true) : sm a ≤ sm (un a b) := sm_mono ha (un_good' ha hb) fun x hx => (un_mem ha hb x).2 (.inl hx)
theorem sm_un_r {a b : List Win} (ha : good a = true) (hb : good b = true) : sm b ≤ sm (un a b) := sm_mono hb (un_good' ha hb) fun x hx => (un_mem ha hb x).2 (.inr hx)

/-- the windows that end behind x -/
def bh (x : Int) (l : List Win) : List Win := l.filter fun w => decide (x < w.2)
/-- the first tick from x on in a window, of windows that end behind x -/
def nxB (x : Int) : List Win → Int
  | [] => 4611686018427387904
  | w :: _ => max x w.1
/-- from where n ticks are free, of windows that end behind x -/
def gpB (n : Int) : Int → List Win → Int
  | x, [] => x
  | x, w :: r => if n ≤ w.1 - x then x else gpB n w.2 r
def tick (x : Int) : Bool := decide (0 ≤ x ∧ x ≤ 1099511627776)
def nx (l : List Win) (x : Int) : Int := if good l = true ∧ tick x = true then nxB x (bh x l) else 4611686018427387904
def hs (l : List Win) (x : Int) : Bool := tick x && decide (nx l x = x)
def gp (l : List Win) (x n : Int) : Int := if good l = true ∧ tick x = true ∧ tick n = true then (if n = 0 then x else gpB n x (bh x l)) else 4611686018427387904

theorem tick_iff (x : Int) : tick x = true ↔ 0 ≤ x ∧ x ≤ 1099511627776 := by simp [tick]
theorem bh_mem {l : List Win} {x : Int} {w : Win} : w ∈ bh x l ↔ w ∈ l ∧ x < w.2 := by simp [bh]
theorem bh_nil (x : Int) : bh x [] = [] := rfl
theorem bh_cons (x : Int) (w : Win) (r : List Win) : bh x (w :: r) = if x < w.2 then w :: bh x r else bh x r := by
  unfold bh; rw [List.filter_cons]; simp
theorem Gd.all {lo : Int} {l : List Win} (h : Gd lo l) : ∀ w ∈ l, lo < w.1 ∧ w.1 < w.2 ∧ w.2 ≤ 2199023255552 := by
  induction l generalizing lo with
  | nil => intro w hw; cases hw
  | cons v r ih =>
    obtain ⟨h1, h2, h3, h4⟩ := h
    intro w hw
    rcases List.mem_cons.1 hw with rfl | hw
    · exact ⟨h1, h2, h3⟩
    · have := ih h4 w hw; omega
theorem Gd.bh {lo : Int} {l : List Win} (h : Gd lo l) (x : Int) : Gd lo (bh x l) := by
  induction l generalizing lo with
  | nil => trivial
  | cons v r ih =>
    obtain ⟨h1, h2, h3, h4⟩ := h
    rw [bh_cons]
    split
    · exact ⟨h1, h2, h3, ih h4⟩
    · exact (ih h4).mono (by omega)
theorem Gd.bh_self {lo x : Int} {l : List Win} (h : Gd lo l) (hx : x ≤ lo) : Wn.bh x l = l := by
  unfold Wn.bh
  rw [List.filter_eq_self]
  intro w hw
  have := h.all w hw
  simp; omega

/-- Next tells the least one in a window -/
theorem nxB_spec {lo x : Int} {l : List Win} (h : Gd lo l) (hx : x ≤ 1099511627776) : x ≤ nxB x (bh x l) ∧ (nxB x (bh x l) = 4611686018427387904 → ∀ y, x ≤ y → ¬ mem l y) ∧ (nxB x (bh x l) ≠ 4611686018427387904 → mem l (nxB x (bh x l))) ∧ (∀ y, x ≤ y → mem l y → nxB x (bh x l) ≤ y) := by
  induction l generalizing lo with
  | nil => exact ⟨by show x ≤ 4611686018427387904; omega, fun _ y _ hy => mem_nil _ hy, fun h => (h rfl).elim, fun y _ hy => (mem_nil _ hy).elim⟩
  | cons v r ih =>
    obtain ⟨h1, h2, h3, h4⟩ := h
    rw [bh_cons]
    split
    · rename_i hv
      refine ⟨by show x ≤ max x v.1; omega, fun e => ?_, fun _ => ?_, fun y hy hm => ?_⟩
      · exfalso; have : max x v.1 = 4611686018427387904 := e; omega
      · exact (mem_cons _ _ _).2 (.inl ⟨by show v.1 ≤ max x v.1; omega, by show max x v.1 < v.2; omega⟩)
      · show max x v.1 ≤ y
        rcases (mem_cons _ _ _).1 hm with h' | h'
        · omega
        · have := h4.mem_gt h'; omega
    · rename_i hv
      obtain ⟨i1, i2, i3, i4⟩ := ih h4
      refine ⟨i1, fun e y hy hm => ?_, fun e => (mem_cons _ _ _).2 (.inr (i3 e)), fun y hy hm => ?_⟩
      · rcases (mem_cons _ _ _).1 hm with h' | h'
        · omega
        · exact i2 e y hy h'
      · rcases (mem_cons _ _ _).1 hm with h' | h'
        · omega
        · exact i4 y hy h'
theorem hs_mem {l : List Win} (hg : good l = true) {x : Int} (hx : tick x = true) : hs l x = true ↔ mem l x := by
  obtain ⟨h0, h1⟩ := (tick_iff x).1 hx
  obtain ⟨i1, i2, i3, i4⟩ := nxB_spec (good_gd hg) h1
  unfold hs nx
  rw [if_pos ⟨hg, hx⟩, hx]
  simp only [Bool.true_and, decide_eq_true_eq]
  constructor
  · intro e
    have : nxB x (bh x l) ≠ 4611686018427387904 := by rw [e]; omega
    have := i3 this
    rwa [e] at this
  · intro hm
    have := i4 x (by omega) hm
    omega

/-- Gap: free, and nothing ahead of it is -/
theorem gpB_spec {lo x n : Int} {l : List Win} (h : Gd lo l) : x ≤ gpB n x (bh x l) ∧ (∀ w ∈ bh x l, ¬ (w.1 < gpB n x (bh x l) + n ∧ gpB n x (bh x l) < w.2)) ∧ (∀ y, x ≤ y → y < gpB n x (bh x l) → ∃ w ∈ bh x l, w.1 < y + n ∧ y < w.2) := by
  have main : ∀ (l : List Win) (lo x : Int), Gd lo l → (∀ w ∈ l, x < w.2) → x ≤ gpB n x l ∧ (∀ w ∈ l, ¬ (w.1 < gpB n x l + n ∧ gpB n x l < w.2)) ∧ (∀ y, x ≤ y → y < gpB n x l → ∃ w ∈ l, w.1 < y + n ∧ y < w.2) := by
    intro l
    induction l with
    | nil => intro lo x _ _; exact ⟨by show x ≤ x; omega, fun w hw => (by cases hw), fun y h1 h2 => (by have : y < x := h2; omega)⟩
    | cons v r ih =>
      intro lo x h ha
      have hg := h
      obtain ⟨h1, h2, h3, h4⟩ := h
      simp only [gpB]
      split
      · refine ⟨by omega, fun w hw => ?_, fun y _ _ => by omega⟩
        have h5 : v.1 ≤ w.1 := by
          rcases List.mem_cons.1 hw with rfl | hw
          · omega
          · have := h4.all w hw; omega
        omega
      · obtain ⟨i1, i2, i3⟩ := ih v.2 v.2 h4 (fun w hw => by have := h4.all w hw; omega)
        have hv := ha v (List.mem_cons_self ..)
        refine ⟨by omega, fun w hw => ?_, fun y hy1 hy2 => ?_⟩
        · rcases List.mem_cons.1 hw with rfl | hw
          · omega
          · exact i2 w hw
        · by_cases hy : y < v.2
          · exact ⟨v, List.mem_cons_self .., by omega, hy⟩
          · obtain ⟨w, hw, h'⟩ := i3 y (by omega) hy2
            exact ⟨w, List.mem_cons_of_mem _ hw, h'⟩
  exact main (bh x l) lo x (h.bh x) fun w hw => (bh_mem.1 hw).2
theorem gp_spec {l : List Win} (hg : good l = true) {x n : Int} (hx : tick x = true) (hn : tick n = true) (h1 : 1 ≤ n) : x ≤ gp l x n ∧ (∀ w ∈ l, ¬ (w.1 < gp l x n + n ∧ gp l x n < w.2)) ∧ (∀ y, x ≤ y → y < gp l x n → ∃ w ∈ l, w.1 < y + n ∧ y < w.2) := by
  obtain ⟨i1, i2, i3⟩ := gpB_spec (x := x) (n := n) (good_gd hg)
  unfold gp
  rw [if_pos ⟨hg, hx, hn⟩, if_neg (by omega)]
  refine ⟨i1, fun w hw => ?_, fun y h2 h3 => ?_⟩
  · by_cases h : x < w.2
    · exact i2 w (bh_mem.2 ⟨hw, h⟩)
    · omega
  · obtain ⟨w, hw, h'⟩ := i3 y h2 h3
    exact ⟨w, (bh_mem.1 hw).1, h'⟩
theorem gpB_le {n : Int} : ∀ (l : List Win) (x : Int), x ≤ 2199023255552 → (∀ w ∈ l, w.2 ≤ 2199023255552) → gpB n x l ≤ 2199023255552 := by
  intro l
  induction l with
  | nil => intro x hx _; exact hx
  | cons v r ih =>
    intro x hx h
    simp only [gpB]
    split
    · exact hx
    · exact ih _ (h v (List.mem_cons_self ..)) fun w hw => h w (List.mem_cons_of_mem _ hw)

/-- the document's Next, as it is gone through -/
def nxD (x : Int) : List Win → Int
  | [] => 4611686018427387904
  | w :: r => if x < w.2 then max x w.1 else nxD x r
theorem nxD_eq (x : Int) (l : List Win) : nxD x l = nxB x (bh x l) := by
  induction l with
  | nil => rfl
  | cons w r ih =>
    simp only [nxD]
    rw [bh_cons]
    split
    · rfl
    · exact ih
/-- the document's Gap -/
def gpD (n : Int) : Int → List Win → Int
  | y, [] => y
  | y, w :: r => if w.1 < y + n ∧ y < w.2 then gpD n w.2 r else gpD n y r
theorem gpD_far {n y : Int} : ∀ l : List Win, (∀ w ∈ l, y + n ≤ w.1) → gpD n y l = y := by
  intro l
  induction l with
  | nil => intro _; rfl
  | cons w r ih =>
    intro h
    have := h w (List.mem_cons_self ..)
    simp only [gpD]
    rw [if_neg (by omega)]
    exact ih fun w hw => h w (List.mem_cons_of_mem _ hw)
theorem gpD_in {n : Int} (hn : 0 < n) : ∀ (l : List Win) (lo y : Int), Gd lo l → (∀ w ∈ l, y < w.2) → gpD n y l = gpB n y l := by
  intro l
  induction l with
  | nil => intro _ _ _ _; rfl
  | cons w r ih =>
    intro lo y h ha
    obtain ⟨h1, h2, h3, h4⟩ := h
    have hw := ha w (List.mem_cons_self ..)
    simp only [gpD, gpB]
    by_cases hc : n ≤ w.1 - y
    · rw [if_pos hc, if_neg (by omega)]
      exact gpD_far r fun v hv => by have := h4.all v hv; omega
    · rw [if_neg hc, if_pos (by omega)]
      exact ih w.2 w.2 h4 fun v hv => by have := h4.all v hv; omega
theorem gpD_eq {n lo x : Int} {l : List Win} (hn : 0 < n) (h : Gd lo l) : gpD n x l = gpB n x (bh x l) := by
  induction l generalizing lo with
  | nil => rfl
  | cons w r ih =>
    have hg := h
    obtain ⟨h1, h2, h3, h4⟩ := h
    rw [bh_cons]
    by_cases hw : x < w.2
    · rw [if_pos hw, h4.bh_self (by omega)]
      exact gpD_in hn (w :: r) lo x hg fun v hv => by
        rcases List.mem_cons.1 hv with rfl | hv
        · exact hw
        · have := h4.all v hv; omega
    · rw [if_neg hw]
      simp only [gpD]
      rw [if_neg (by omega)]
      exact ih h4

/-- times -/
structure Tm where
  f : Int
  e : Int
  l : Int
/-- what Check tells of times: 0, or ErrArg -/
def ck (t : Tm) : Int := if 0 ≤ t.f ∧ t.f ≤ 1099511627776 ∧ 1 ≤ t.l ∧ t.l ≤ 1099511627776 ∧ (t.e = 0 ∨ (t.l ≤ t.e ∧ t.e ≤ 1099511627776)) then 0 else 2
/-- the first n windows of times -/
def ws (t : Tm) (n : Nat) : List Win := (List.range n).map fun (i : Nat) => (t.f + t.e * (i : Int), t.f + t.e * (i : Int) + t.l)
/-- how many windows begin at most at the horizon -/
def cn (t : Tm) (h : Int) : Int := if t.f > h then 0 else if t.e = 0 then 1 else (h - t.f) / t.e + 1
/-- Wins' error -/
def we (t : Tm) (h : Int) : Int := if ck t ≠ 0 then ck t else if tick h = false then 9 else if 256 < cn t h then 3 else 0
/-- Wins' row -/
def wn (t : Tm) (h : Int) : List Win := if we t h = 0 then jn (ws t (cn t h).toNat) else []
theorem ck_ok {t : Tm} (h : ck t = 0) : 0 ≤ t.f ∧ t.f ≤ 1099511627776 ∧ 1 ≤ t.l ∧ t.l ≤ 1099511627776 ∧ (t.e = 0 ∨ (t.l ≤ t.e ∧ t.e ≤ 1099511627776)) := by
  unfold ck at h
  split at h
  · assumption
  · omega
theorem we_ok {t : Tm} {h : Int} (hw : we t h = 0) : ck t = 0 ∧ tick h = true ∧ cn t h ≤ 256 := by
  unfold we at hw
  split at hw
  · exact absurd hw ‹_›
  · split at hw
    · omega
    · split at hw
      · omega
      · rename_i h1 h2 h3
        exact ⟨by omega, by simpa using h2, by omega⟩
theorem cn_nonneg {t : Tm} {h : Int} (hc : ck t = 0) : 0 ≤ cn t h := by
  have := ck_ok hc
  unfold cn
  split
  · omega
  · split
    · omega
    · have := Int.ediv_nonneg (a := h - t.f) (b := t.e) (by omega) (by omega); omega
/-- each tick of the row is at most the horizon -/
theorem cn_at {t : Tm} {h : Int} (hc : ck t = 0) {i : Nat} (hi : (i : Int) < cn t h) : t.f + t.e * (i : Int) ≤ h := by
  have hk := ck_ok hc
  unfold cn at hi
  split at hi
  · omega
  · split at hi
    · rename_i h0; rw [h0]; have : (i : Int) = 0 := by omega
      rw [this]; omega
    · have he : 0 < t.e := by omega
      have h1 : (i : Int) ≤ (h - t.f) / t.e := by omega
      have h2 := (Int.le_ediv_iff_mul_le he).1 h1
      rw [Int.mul_comm]; omega
theorem ws_length (t : Tm) (n : Nat) : (ws t n).length = n := by simp [ws]
theorem ws_succ (t : Tm) (n : Nat) : ws t (n + 1) = ws t n ++ [(t.f + t.e * (n : Int), t.f + t.e * (n : Int) + t.l)] := by simp [ws, List.range_succ]
theorem ws_at (t : Tm) (n i : Nat) (h : i < n) : (ws t n)[i]? = some (t.f + t.e * (i : Int), t.f + t.e * (i : Int) + t.l) := by simp [ws, h]
theorem mem_ws (t : Tm) (n : Nat) (x : Int) : mem (ws t n) x ↔ ∃ i : Nat, i < n ∧ t.f + t.e * (i : Int) ≤ x ∧ x < t.f + t.e * (i : Int) + t.l := by
  unfold mem ws
  constructor
  · rintro ⟨w, hw, h⟩
    obtain ⟨i, hi, rfl⟩ := List.mem_map.1 hw
    exact ⟨i, List.mem_range.1 hi, h⟩
  · rintro ⟨i, hi, h⟩
    exact ⟨_, List.mem_map.2 ⟨i, List.mem_range.2 hi, rfl⟩, h⟩
theorem up_of_pair {l : List Win} {lo : Int} (h0 : ∀ w, l[0]? = some w → lo ≤ w.1) (h1 : ∀ w ∈ l, w.1 < w.2 ∧ w.2 ≤ 2199023255552) (h2 : ∀ (i : Nat) (v w : Win), l[i]? = some v → l[i + 1]? = some w → v.1 ≤ w.1) : Up lo l := by
  induction l generalizing lo with
  | nil => trivial
  | cons w r ih =>
    have := h1 w (List.mem_cons_self ..)
    refine ⟨h0 w rfl, this.1, this.2, ih (fun v hv => ?_) (fun v hv => h1 v (List.mem_cons_of_mem _ hv)) (fun i u v hu hv => h2 (i + 1) u v hu hv)⟩
    exact h2 0 w v rfl hv
theorem ws_up {t : Tm} {h : Int} (hc : ck t = 0) (hh : tick h = true) (n : Nat) (hn : (n : Int) ≤ cn t h) : Up 0 (ws t n) := by
  have hk := ck_ok hc
  have ht := (tick_iff h).1 hh
  have hat : ∀ (i : Nat) (w : Win), (ws t n)[i]? = some w → i < n ∧ w = (t.f + t.e * (i : Int), t.f + t.e * (i : Int) + t.l) := by
    intro i w hw
    have hi : i < n := by have := (List.getElem?_eq_some_iff.1 hw).1; rwa [ws_length] at this
    rw [ws_at t n i hi] at hw
    exact ⟨hi, (Option.some.inj hw).symm⟩
  have he : 0 ≤ t.e := by omega
  refine up_of_pair (fun w hw => ?_) (fun w hw => ?_) (fun i v w hv hw => ?_)
  · obtain ⟨h1, rfl⟩ := hat 0 w hw
    show 0 ≤ t.f + t.e * ((0 : Nat) : Int); simp; omega
  · obtain ⟨i, hi⟩ := List.mem_iff_getElem?.1 hw
    obtain ⟨h1, rfl⟩ := hat i w hi
    have := cn_at hc (i := i) (h := h) (by omega)
    exact ⟨by dsimp only; omega, by dsimp only; omega⟩
  · obtain ⟨h1, rfl⟩ := hat i v hv
    obtain ⟨h2, rfl⟩ := hat (i + 1) w hw
    dsimp only
    have h3 : t.e * (i : Int) ≤ t.e * ((i + 1 : Nat) : Int) := Int.mul_le_mul_of_nonneg_left (by omega) he
    omega
theorem wn_good {t : Tm} {h : Int} (hw : we t h = 0) : Gd (-1) (wn t h) ∧ ∀ x, mem (wn t h) x ↔ ∃ i : Nat, (i : Int) < cn t h ∧ t.f + t.e * (i : Int) ≤ x ∧ x < t.f + t.e * (i : Int) + t.l := by
  obtain ⟨hc, hh, hn⟩ := we_ok hw
  have h0 := cn_nonneg (h := h) hc
  have hu : Up (-1 + 1) (ws t (cn t h).toNat) := ws_up hc hh _ (by omega)
  rw [wn, if_pos hw]
  refine ⟨jn_gd hu, fun x => ?_⟩
  rw [jn_mem hu, mem_ws]
  constructor <;> (rintro ⟨i, hi, h'⟩; exact ⟨i, by omega, h'⟩)
theorem wn_good' (t : Tm) (h : Int) : good (wn t h) = true := by
  by_cases hw : we t h = 0
  · exact gd_good (wn_good hw).1
  · rw [wn, if_neg hw]; rfl
theorem wn_length (t : Tm) (h : Int) : (wn t h).length ≤ 256 := by
  unfold wn
  split
  · rename_i hw
    obtain ⟨hc, hh, hn⟩ := we_ok hw
    have h0 := cn_nonneg (h := h) hc
    exact Nat.le_trans (jn_length _) (by rw [ws_length]; omega)
  · simp

/-- is a tick in a window of the times, by numbers alone? -/
def inn (t : Tm) (h x : Int) : Bool :=
  if x < t.f ∨ t.f > h then false
  else if t.e = 0 then decide (x < t.f + t.l)
  else if t.f + (x - t.f) / t.e * t.e > h then decide (x < t.f + (h - t.f) / t.e * t.e + t.l)
  else decide (x < t.f + (x - t.f) / t.e * t.e + t.l)
theorem inn_mem {t : Tm} {h : Int} (hw : we t h = 0) (x : Int) : mem (wn t h) x ↔ inn t h x = true := by
  rw [(wn_good hw).2]
  obtain ⟨hc, hh, hn⟩ := we_ok hw
  have hk := ck_ok hc
  unfold inn
  by_cases h1 : x < t.f ∨ t.f > h
  · rw [if_pos h1]
    constructor
    · rintro ⟨i, hi, h2, h3⟩
      exfalso
      have he : 0 ≤ t.e * (i : Int) := Int.mul_nonneg (by omega) (by omega)
      have h4 := cn_at hc hi
      omega
    · intro h2; cases h2
  · rw [if_neg h1]
    by_cases h2 : t.e = 0
    · rw [if_pos h2]
      have hcn : cn t h = 1 := by unfold cn; rw [if_neg (by omega), if_pos h2]
      rw [hcn, decide_eq_true_eq]
      constructor
      · rintro ⟨i, hi, h3, h4⟩
        rw [h2] at h3 h4; omega
      · intro h3
        exact ⟨0, by omega, by simp; omega, by simp; omega⟩
    · rw [if_neg h2]
      have he : 0 < t.e := by omega
      have hcn : cn t h = (h - t.f) / t.e + 1 := by unfold cn; rw [if_neg (by omega), if_neg h2]
      obtain ⟨k, hk1⟩ : ∃ k, k = (x - t.f) / t.e := ⟨_, rfl⟩
      obtain ⟨m, hm1⟩ : ∃ m, m = (h - t.f) / t.e := ⟨_, rfl⟩
      have a1 : t.e * k ≤ x - t.f := by rw [hk1]; exact Int.mul_ediv_self_le h2
      have a2 : x - t.f < t.e * k + t.e := by rw [hk1]; exact Int.lt_mul_ediv_self_add he
      have b1 : t.e * m ≤ h - t.f := by rw [hm1]; exact Int.mul_ediv_self_le h2
      have b2 : h - t.f < t.e * m + t.e := by rw [hm1]; exact Int.lt_mul_ediv_self_add he
      have k0 : 0 ≤ k := by rw [hk1]; exact Int.ediv_nonneg (by omega) (by omega)
      have m0 : 0 ≤ m := by rw [hm1]; exact Int.ediv_nonneg (by omega) (by omega)
      rw [hcn, ← hk1, ← hm1, Int.mul_comm k, Int.mul_comm m]
      have step : ∀ {p q : Int}, p < q → t.e * p + t.e ≤ t.e * q := fun {p q} hpq => by
        have := Int.mul_le_mul_of_nonneg_left (show p + 1 ≤ q by omega) (show 0 ≤ t.e by omega)
        rw [Int.mul_add, Int.mul_one] at this; exact this
      by_cases h3 : t.f + t.e * k > h
      · rw [if_pos h3, decide_eq_true_eq]
        constructor
        · rintro ⟨i, hi, h4, h5⟩
          rcases Int.lt_trichotomy (i : Int) k with c | c | c
          · have := step c; omega
          · have := cn_at hc (h := h) (i := i) (by omega); rw [c] at this; omega
          · have := step c; omega
        · intro h4
          exfalso
          rcases Int.lt_trichotomy m k with c | c | c
          · have := step c; omega
          · rw [c] at b1; omega
          · have := step c; omega
      · rw [if_neg h3, decide_eq_true_eq]
        constructor
        · rintro ⟨i, hi, h4, h5⟩
          rcases Int.lt_trichotomy (i : Int) k with c | c | c
          · have := step c; omega
          · rw [c] at h5; exact h5
          · have := step c; omega
        · intro h4
          refine ⟨k.toNat, ?_, ?_, ?_⟩
          · rcases Int.lt_trichotomy m k with c | c | c
            · have := step c; omega
            · omega
            · omega
          · rw [Int.toNat_of_nonneg k0]; omega
          · rw [Int.toNat_of_nonneg k0]; exact h4

end Go.Proofs.Ytffddkbphdjehaa.Wn
