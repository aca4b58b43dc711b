/- Links as mathematics: a net, when it may be, when a link may be taken, the three moves of which each goes on to no tick that is too late, and what the least tick is. No conditions. -/
import Derived.Test.YtffddkbphdjehaaWinMath
namespace Go.Proofs.Ytffddkbphdjehaa.Lk
open Wn
set_option linter.unusedVariables false

/-- the tick that never comes -/
abbrev inf : Int := 4611686018427387904
/-- a link -/
structure Ln where
  a : Int
  b : Int
  len : Int
  door : Bool
  of : Int
  op : List Win
  cl : List Win
/-- a net -/
structure Nt where
  hz : Int
  cl : List (List Win)
  lk : List Ln
/-- a stop that is there -/
def isStop (n : Nt) (s : Int) : Bool := decide (0 ≤ s ∧ s < (n.cl.length : Int))
/-- an edge that may be -/
def leads (n : Nt) (a b len : Int) : Bool := isStop n a && isStop n b && decide (a ≠ b) && decide (0 < len ∧ len ≤ 1099511627776)
/-- windows that may be -/
def timed (l : Ln) : Bool := if l.door = true then good l.op && decide (l.cl.length = 0) else good l.cl && decide (l.op.length = 0)
def lgood (n : Nt) (l : Ln) : Bool := leads n l.a l.b l.len && timed l
def closedOk (n : Nt) : Bool := n.cl.all good
def linksOk (n : Nt) : Bool := n.lk.all (lgood n)
def sized (n : Nt) : Bool := tick n.hz && decide (n.cl.length ≤ 256) && decide (n.lk.length ≤ 2304)
/-- a net that may be -/
def ok (n : Nt) : Bool := sized n && closedOk n && linksOk n
/-- what Check tells -/
def ck (n : Nt) : Int := if ok n = true then 0 else 2
theorem ck_ok {n : Nt} : ck n = 0 ↔ ok n = true := by unfold ck; split <;> simp_all
theorem ok_parts {n : Nt} (h : ok n = true) : tick n.hz = true ∧ n.cl.length ≤ 256 ∧ n.lk.length ≤ 2304 ∧ (∀ z ∈ n.cl, good z = true) ∧ ∀ l ∈ n.lk, lgood n l = true := by
  simp only [ok, sized, closedOk, linksOk, Bool.and_eq_true, List.all_eq_true, decide_eq_true_eq] at h
  exact ⟨h.1.1.1.1, h.1.1.1.2, h.1.1.2, h.1.2, h.2⟩
theorem lgood_parts {n : Nt} {l : Ln} (h : lgood n l = true) : (0 ≤ l.a ∧ l.a < n.cl.length) ∧ (0 ≤ l.b ∧ l.b < n.cl.length) ∧ l.a ≠ l.b ∧ (0 < l.len ∧ l.len ≤ 1099511627776) ∧ good l.op = true ∧ good l.cl = true ∧ (l.door = true → l.cl = []) ∧ (l.door = false → l.op = []) := by
  simp only [lgood, leads, timed, isStop, Bool.and_eq_true, decide_eq_true_eq] at h
  obtain ⟨⟨⟨⟨h1, h2⟩, h3⟩, h4⟩, h5⟩ := h
  refine ⟨h1, h2, h3, h4, ?_⟩
  split at h5
  · rename_i hd
    simp only [Bool.and_eq_true, decide_eq_true_eq] at h5
    have e : l.cl = [] := List.length_eq_zero_iff.1 h5.2
    exact ⟨h5.1, by rw [e]; rfl, fun _ => e, fun h => by rw [hd] at h; cases h⟩
  · rename_i hd
    simp only [Bool.and_eq_true, decide_eq_true_eq] at h5
    have e : l.op = [] := List.length_eq_zero_iff.1 h5.2
    exact ⟨by rw [e]; rfl, h5.1, fun h => absurd h hd, fun _ => e⟩

/-- the row of a stop -/
def row (n : Nt) (s : Int) : List Win := n.cl.getD s.toNat []
theorem row_mem {n : Nt} {s : Int} (h0 : 0 ≤ s) (h1 : s < n.cl.length) : row n s ∈ n.cl := by
  have : s.toNat < n.cl.length := by omega
  simp [row, List.getD_eq_getElem?_getD, List.getElem?_eq_getElem this]
/-- closed at none of the ticks from t on -/
def clear (zs : List Win) (t len : Int) : Prop := ∀ w ∈ zs, ¬ (w.1 < t + len ∧ t < w.2)
/-- a link may be taken at a tick -/
def may (n : Nt) (l : Ln) (t : Int) : Prop := 0 ≤ t ∧ t ≤ n.hz - l.len ∧ clear (row n l.a) t 1 ∧ (if l.door = true then mem l.op t else clear l.cl t l.len)
theorem clear_one {zs : List Win} {t : Int} : clear zs t 1 ↔ ¬ mem zs t := by
  unfold clear mem
  constructor
  · rintro h ⟨w, hw, h1, h2⟩; exact h w hw ⟨by omega, h2⟩
  · rintro h w hw ⟨h1, h2⟩; exact h ⟨w, hw, by omega, h2⟩
/-- a move: on to a tick that is not ahead, past none at which all is well; it stands where all is well -/
structure Mv (p : Int → Prop) (m : Int → Int) : Prop where
  on : ∀ t, 0 ≤ t → t ≤ inf → t ≤ m t ∧ m t ≤ inf
  past : ∀ t s, 0 ≤ t → t ≤ s → s < m t → t ≤ inf → ¬ p s
  still : ∀ t, 0 ≤ t → m t = t → t = inf ∨ p t
/-- the first window that ends behind t, alone -/
def near (zs : List Win) (t : Int) : List Win := (bh t zs).take 1
theorem near_nil {zs : List Win} {t : Int} (h : bh t zs = []) : near zs t = [] := by simp [near, h]
theorem near_cons {zs r : List Win} {w : Win} {t : Int} (h : bh t zs = w :: r) : near zs t = [w] := by simp [near, h]
theorem good_near {zs : List Win} (hg : good zs = true) (t : Int) : good (near zs t) = true := by
  cases h : bh t zs with
  | nil => rw [near_nil h]; rfl
  | cons w r =>
    rw [near_cons h]
    have := (good_gd hg).bh t
    rw [h] at this
    exact gd_good ⟨this.1, this.2.1, this.2.2.1, trivial⟩
theorem bh_first {zs r : List Win} {w : Win} {t : Int} (hg : good zs = true) (h : bh t zs = w :: r) : t < w.2 ∧ w ∈ zs ∧ w.1 < w.2 ∧ w.2 ≤ 2199023255552 ∧ ∀ v ∈ zs, t < v.2 → w.1 ≤ v.1 ∧ w.2 ≤ v.2 := by
  have h0 : w ∈ bh t zs := by rw [h]; exact List.mem_cons_self ..
  have h1 := bh_mem.1 h0
  have h2 := (good_gd hg).all w h1.1
  refine ⟨h1.2, h1.1, h2.2.1, h2.2.2, fun v hv ht => ?_⟩
  have h3 : v ∈ bh t zs := bh_mem.2 ⟨hv, ht⟩
  have h4 := (good_gd hg).bh t
  rw [h] at h3 h4
  rcases List.mem_cons.1 h3 with rfl | h3
  · omega
  · have := h4.2.2.2.all v h3; omega
theorem bh_none {zs : List Win} {t : Int} (h : bh t zs = []) : ∀ v ∈ zs, v.2 ≤ t := by
  intro v hv
  by_cases ht : t < v.2
  · have : v ∈ bh t zs := bh_mem.2 ⟨hv, ht⟩
    rw [h] at this; cases this
  · omega
theorem gp_far {zs : List Win} {x n : Int} (h : tick x = false) : gp zs x n = inf := by unfold gp; rw [if_neg (by simp [h])]
theorem nx_far {zs : List Win} {x : Int} (h : tick x = false) : nx zs x = inf := by unfold nx; rw [if_neg (by simp [h])]
theorem tick_no {x : Int} (h : tick x = false) (h0 : 0 ≤ x) : 1099511627776 < x := by
  have : ¬ tick x = true := by simp [h]
  rw [tick_iff] at this; omega
/-- a gap's move -/
theorem mv_gap {zs : List Win} (hg : good zs = true) {n : Int} (h1 : 1 ≤ n) (h2 : n ≤ 1099511627776) : Mv (fun s => s ≤ 1099511627776 ∧ clear zs s n) (fun t => gp (near zs t) t n) := by
  have hn : tick n = true := (tick_iff n).2 (by omega)
  have key : ∀ t, tick t = true → (gp (near zs t) t n = t ∧ clear zs t n) ∨ (∃ w, w ∈ zs ∧ w.1 < t + n ∧ t < w.2 ∧ gp (near zs t) t n = w.2 ∧ w.2 ≤ 2199023255552) := by
    intro t ht
    have hgp : gp (near zs t) t n = gpB n t (bh t (near zs t)) := by
      unfold gp; rw [if_pos ⟨good_near hg t, ht, hn⟩, if_neg (by omega)]
    cases h : bh t zs with
    | nil =>
      left
      refine ⟨by rw [hgp, near_nil h]; rfl, fun w hw => ?_⟩
      have := bh_none h w hw; omega
    | cons w r =>
      obtain ⟨b1, b2, b3, b4, b5⟩ := bh_first hg h
      have e : bh t [w] = [w] := by rw [bh_cons, if_pos b1]; rfl
      rw [hgp, near_cons h, e]
      by_cases hc : n ≤ w.1 - t
      · left
        refine ⟨by simp only [gpB]; rw [if_pos hc], fun v hv hh => ?_⟩
        have := b5 v hv hh.2; omega
      · right
        exact ⟨w, b2, by omega, b1, by simp only [gpB]; rw [if_neg hc], b4⟩
  refine ⟨fun t h0 hi => ?_, fun t s h0 hts hs hi => ?_, fun t h0 he => ?_⟩
  · show t ≤ _ ∧ _ ≤ inf
    cases ht : tick t with
    | false => rw [gp_far ht]; simp only [inf] at hi ⊢; omega
    | true =>
      rcases key t ht with ⟨e, _⟩ | ⟨w, _, _, h3, e, h4⟩
      · rw [e]; simp only [inf] at hi ⊢; omega
      · rw [e]; simp only [inf] at hi ⊢; omega
  · revert hs; intro hs
    cases ht : tick t with
    | false => have := tick_no ht h0; rintro ⟨hp, _⟩; omega
    | true =>
      rcases key t ht with ⟨e, _⟩ | ⟨w, h1, h2, h3, e, h4⟩
      · rw [e] at hs; omega
      · rw [e] at hs; rintro ⟨_, hp⟩; exact hp w h1 ⟨by omega, hs⟩
  · revert he; intro he
    cases ht : tick t with
    | false => left; rw [gp_far ht] at he; exact he.symm
    | true =>
      rcases key t ht with ⟨e, h⟩ | ⟨w, h1, h2, h3, e, h4⟩
      · have := (tick_iff t).1 ht; exact .inr ⟨by omega, h⟩
      · rw [e] at he; omega
/-- a door's move -/
theorem mv_next {zs : List Win} (hg : good zs = true) : Mv (fun s => s ≤ 1099511627776 ∧ mem zs s) (fun t => nx (near zs t) t) := by
  have key : ∀ t, tick t = true → (nx (near zs t) t = inf ∧ ∀ s, t ≤ s → ¬ mem zs s) ∨ (∃ w, w ∈ zs ∧ t < w.2 ∧ nx (near zs t) t = max t w.1 ∧ w.1 < w.2 ∧ w.2 ≤ 2199023255552 ∧ ∀ s, t ≤ s → mem zs s → w.1 ≤ s) := by
    intro t ht
    have hnx : nx (near zs t) t = nxB t (bh t (near zs t)) := by
      unfold nx; rw [if_pos ⟨good_near hg t, ht⟩]
    cases h : bh t zs with
    | nil =>
      left
      refine ⟨by rw [hnx, near_nil h]; rfl, fun s hs hm => ?_⟩
      obtain ⟨v, hv, h1, h2⟩ := hm
      have := bh_none h v hv; omega
    | cons w r =>
      obtain ⟨b1, b2, b3, b4, b5⟩ := bh_first hg h
      have e : bh t [w] = [w] := by rw [bh_cons, if_pos b1]; rfl
      right
      refine ⟨w, b2, b1, by rw [hnx, near_cons h, e]; rfl, b3, b4, fun s hs hm => ?_⟩
      obtain ⟨v, hv, h1, h2⟩ := hm
      have := b5 v hv (by omega); omega
  refine ⟨fun t h0 hi => ?_, fun t s h0 hts hs hi => ?_, fun t h0 he => ?_⟩
  · show t ≤ _ ∧ _ ≤ inf
    cases ht : tick t with
    | false => rw [nx_far ht]; simp only [inf] at hi ⊢; omega
    | true =>
      rcases key t ht with ⟨e, _⟩ | ⟨w, _, h3, e, h4, h5, _⟩
      · rw [e]; simp only [inf] at hi ⊢; omega
      · rw [e]; simp only [inf] at hi ⊢; omega
  · revert hs; intro hs
    cases ht : tick t with
    | false => have := tick_no ht h0; rintro ⟨hp, _⟩; omega
    | true =>
      rcases key t ht with ⟨e, h⟩ | ⟨w, h1, h2, e, h3, h4, h5⟩
      · rintro ⟨_, hm⟩; exact h s hts hm
      · rw [e] at hs; rintro ⟨_, hm⟩; have := h5 s hts hm; omega
  · revert he; intro he
    cases ht : tick t with
    | false => left; rw [nx_far ht] at he; exact he.symm
    | true =>
      rcases key t ht with ⟨e, h⟩ | ⟨w, h1, h2, e, h3, h4, h5⟩
      · left; rw [e] at he; exact he.symm
      · rw [e] at he
        have := (tick_iff t).1 ht
        exact .inr ⟨by omega, w, h1, by omega, h2⟩
/-- the horizon's move -/
def arr (h len t : Int) : Int := if h - len < t then inf else t
theorem mv_arr (h len : Int) : Mv (fun s => s ≤ h - len) (arr h len) := by
  refine ⟨fun t h0 hi => ?_, fun t s h0 hts hs hi => ?_, fun t h0 he => ?_⟩
  · unfold arr; simp only [inf] at hi ⊢; split <;> omega
  · unfold arr at hs; split at hs <;> omega
  · unfold arr at he
    split at he
    · left; exact he.symm
    · right; omega
/-- moved on by the pass of a link -/
def pas (l : Ln) (t : Int) : Int := if l.door = true then nx (near l.op t) t else gp (near l.cl t) t l.len
def lea (n : Nt) (l : Ln) (t : Int) : Int := gp (near (row n l.a) t) t 1
/-- moved on by each once -/
def moved (n : Nt) (l : Ln) (t : Int) : Int := arr n.hz l.len (pas l (lea n l t))
theorem mv_pas {n : Nt} {l : Ln} (h : lgood n l = true) : Mv (fun s => s ≤ 1099511627776 ∧ (if l.door = true then mem l.op s else clear l.cl s l.len)) (pas l) := by
  obtain ⟨_, _, _, h4, h5, h6, _, _⟩ := lgood_parts h
  cases hd : l.door with
  | true =>
    have e : pas l = fun t => nx (near l.op t) t := by funext t; simp [pas, hd]
    rw [e]; simpa using mv_next h5
  | false =>
    have e : pas l = fun t => gp (near l.cl t) t l.len := by funext t; simp [pas, hd]
    rw [e]; simpa using mv_gap h6 (by omega) h4.2
theorem mv_lea {n : Nt} {l : Ln} (hn : ok n = true) (h : lgood n l = true) : Mv (fun s => s ≤ 1099511627776 ∧ clear (row n l.a) s 1) (lea n l) :=
  mv_gap ((ok_parts hn).2.2.2.1 _ (row_mem (lgood_parts h).1.1 (lgood_parts h).1.2)) (by omega) (by omega)
/-- all three, one behind the other -/
theorem mv_moved {n : Nt} {l : Ln} (hn : ok n = true) (h : lgood n l = true) : Mv (may n l) (moved n l) := by
  have m1 := mv_lea hn h
  have m2 := mv_pas h
  have m3 := mv_arr n.hz l.len
  have hh := (tick_iff _).1 (ok_parts hn).1
  have hl := (lgood_parts h).2.2.2.1
  have split : ∀ s, may n l s → (s ≤ 1099511627776 ∧ clear (row n l.a) s 1) ∧ (s ≤ 1099511627776 ∧ (if l.door = true then mem l.op s else clear l.cl s l.len)) ∧ s ≤ n.hz - l.len := by
    rintro s ⟨h1, h2, h3, h4⟩
    exact ⟨⟨by omega, h3⟩, ⟨by omega, h4⟩, h2⟩
  refine ⟨fun t h0 hi => ?_, fun t s h0 hts hs hi hm => ?_, fun t h0 he => ?_⟩
  · have a1 := m1.on t h0 hi
    have a2 := m2.on _ (by omega) a1.2
    have a3 := m3.on _ (by omega) a2.2
    exact ⟨by unfold moved; omega, a3.2⟩
  · have a1 := m1.on t h0 hi
    have a2 := m2.on _ (by omega) a1.2
    obtain ⟨p1, p2, p3⟩ := split s hm
    by_cases c1 : s < lea n l t
    · exact m1.past t s h0 hts c1 hi p1
    by_cases c2 : s < pas l (lea n l t)
    · exact m2.past _ s (by omega) (by omega) c2 a1.2 p2
    · exact m3.past _ s (by omega) (by omega) hs a2.2 p3
  · by_cases hi : t ≤ inf
    · have a1 := m1.on t h0 hi
      have a2 := m2.on _ (by omega) a1.2
      have a3 := m3.on _ (by omega) a2.2
      have he' : arr n.hz l.len (pas l (lea n l t)) = t := he
      have e1 : lea n l t = t := by omega
      have e2 : pas l t = t := by rw [e1] at he' a2 a3; omega
      have e3 : arr n.hz l.len t = t := by rw [e1, e2] at he'; exact he'
      by_cases hx : t = inf
      · exact .inl hx
      · right
        have q1 := (m1.still t h0 e1).resolve_left hx
        have q2 := (m2.still t h0 e2).resolve_left hx
        have q3 := (m3.still t h0 e3).resolve_left hx
        exact ⟨h0, q3, q1.2, q2.2⟩
    · exfalso
      have he' : arr n.hz l.len (pas l (lea n l t)) = t := he
      have ht : tick t = false := by
        cases h' : tick t with
        | false => rfl
        | true => have := (tick_iff t).1 h'; simp only [inf] at hi; omega
      have e1 : lea n l t = inf := gp_far ht
      have hti : tick inf = false := by decide
      have e2 : pas l inf = inf := by unfold pas; split; exact nx_far hti; exact gp_far hti
      rw [e1, e2] at he'
      have := m3.on inf (by decide) (Int.le_refl _)
      omega
theorem may_moved {n : Nt} {l : Ln} (hn : ok n = true) (h : lgood n l = true) {t : Int} (ht : tick t = true) : may n l t ↔ moved n l t = t := by
  have m := mv_moved hn h
  have h0 := (tick_iff t).1 ht
  constructor
  · intro hm
    have a := m.on t h0.1 (by simp only [inf]; omega)
    by_cases c : t < moved n l t
    · exact absurd hm (m.past t t h0.1 (Int.le_refl _) c (by simp only [inf]; omega))
    · omega
  · intro e
    exact (m.still t h0.1 e).resolve_left (by simp only [inf]; omega)
/-- f is the least tick from t on at which the link may be taken, or Inf -/
structure Fst (n : Nt) (l : Ln) (t f : Int) : Prop where
  le : t ≤ f
  top : f ≤ inf
  may : f = inf ∨ may n l f
  none_ : ∀ s, t ≤ s → s < f → ¬ Lk.may n l s
theorem Fst.uniq {n : Nt} {l : Ln} {t f g : Int} (h : Fst n l t f) (k : Fst n l t g) : f = g := by
  rcases Int.lt_trichotomy f g with c | c | c
  · rcases h.may with e | e
    · have := k.top; omega
    · exact absurd e (k.none_ f h.le c)
  · exact c
  · rcases k.may with e | e
    · have := h.top; omega
    · exact absurd e (h.none_ g k.le c)
theorem may_tick {n : Nt} {l : Ln} (hn : ok n = true) (h : lgood n l = true) {t : Int} (hm : may n l t) : tick t = true := by
  have hh := (tick_iff _).1 (ok_parts hn).1
  have hl := (lgood_parts h).2.2.2.1
  obtain ⟨h1, h2, _⟩ := hm
  exact (tick_iff t).2 (by omega)
/-- one more round -/
theorem Fst.step {n : Nt} {l : Ln} (hn : ok n = true) (h : lgood n l = true) {t u : Int} (h0 : 0 ≤ t) (htu : t ≤ u) (hu : u ≤ inf) (hp : ∀ s, t ≤ s → s < u → ¬ Lk.may n l s) :
    u ≤ moved n l u ∧ moved n l u ≤ inf ∧ (∀ s, t ≤ s → s < moved n l u → ¬ Lk.may n l s) ∧ (moved n l u = u → Fst n l t u) := by
  have m := mv_moved hn h
  have a := m.on u (by omega) hu
  refine ⟨a.1, a.2, fun s h1 h2 => ?_, fun e => ⟨htu, hu, (m.still u (by omega) e), hp⟩⟩
  by_cases c : s < u
  · exact hp s h1 c
  · exact m.past u s (by omega) (by omega) h2 hu
/-- when one is at B -/
def at_ (l : Ln) (f : Int) : Int := if f = inf then inf else f + l.len
end Go.Proofs.Ytffddkbphdjehaa.Lk
