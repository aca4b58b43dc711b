/- Windows as lists: good rows, joined, merged, their ticks, sums, what Next, Free and Gap tell, the windows of times. Pure mathematics. No conditions. · Contracts of package tick, in the form that says that all that was there stands as it stood (Below): what Check, Is, Add, Sub, Mul, Count and At answer at any int64, each proved by walking its text. No conditions but that numbers are int64. · Words for package window: rows of windows and of numbers as they lie in memory; what keeps them; append onto a row of the call's own. No conditions. · Contracts of package window's small functions: within, finite, Check, Good and Sum, each proved by walking its text. Conditions: rows hold fewer than a million windows. · The document's Good: its great test (45 operations), taken out of the translation by a function: its order in the text is one that its edges allow. A closed fact, in a text of its own for its memory. · Contract of window.Check. No conditions. · The document's answers of chapter 8 for Check, Good, Sum, Has, Next, Gap and Free, at any times, row and numbers, each proved by walking its text. Conditions: rows hold fewer than a million windows. · Package window's iterator of the windows of times: it hands over each in its order, whatever a round does with it that leaves alone what lay and the iterator's own boxes. No conditions but that the ticks are ticks. · Package window's iterator of the windows that end behind a tick: it hands over each in its order, until it is told to sto -/
import Derived.Test.YtfefnfifeaihhaaGreatSq
import Derived.Test.YtfefnfifeaihhaaGreatRows
import Derived.WalkKit
import Derived.ProofKit
import Derived.OpenShut
import Derived.Handy
import Derived.Lib.Hide
import Derived.Laws.AppendOwnNone
import Derived.Deep.RegionHeld3
import Derived.RegionTactic
import Derived.BigRegion
import Derived.ChangeAlike
import Derived.LoopTactic
import Derived.Deep.Draws
import Derived.Deep.QuietTactic
import Derived.BigQuiet
import Derived.Laws.OwnMore
import Derived.Laws.Rows
import Derived.Maps.AppendAt
import Derived.Deep.AppendLies
import Derived.Deep.LoopGhost
import Derived.IntWalk
import Derived.RangeFuncBox
import Derived.RangeFuncLeaves
import Derived.Shelf.Abstract
import Derived.OwnWalkIn
import Derived.TacticsInMore
import Derived.LoopNIn
import Derived.LoopIn
import Derived.Lib.SliceRun
import Derived.BigRegionIn
set_option linter.unusedVariables false
set_option linter.unusedSimpArgs false
set_option maxHeartbeats 2000000
set_option maxRecDepth 100000
namespace Go.Proofs.YtfefnfifeaihhaaGreat.Wn
/-- a window: where it begins, where it ends -/
abbrev Win := Int × Int
/-- one more window onto what is joined -/
def jstep (acc : List Win) (w : Win) : List Win :=
  match acc.getLast? with
  | none => [w]
  | some c => if w.1 ≤ c.2 then acc.dropLast ++ [(c.1, max c.2 w.2)] else acc ++ [w]
/-- joined -/
def jn (l : List Win) : List Win := l.foldl jstep []
/-- joined onto a window -/
def jr : Win → List Win → List Win
  | c, [] => [c]
  | c, w :: r => if w.1 ≤ c.2 then jr (c.1, max c.2 w.2) r else c :: jr w r
theorem jstep_last (pre : List Win) (c w : Win) : jstep (pre ++ [c]) w = if w.1 ≤ c.2 then pre ++ [(c.1, max c.2 w.2)] else pre ++ [c] ++ [w] := by
  simp [jstep]
theorem jstep_nil (w : Win) : jstep [] w = [w] := rfl
theorem fold_jr (l pre : List Win) (c : Win) : l.foldl jstep (pre ++ [c]) = pre ++ jr c l := by
  induction l generalizing pre c with
  | nil => rfl
  | cons w r ih =>
    rw [List.foldl_cons, jstep_last]
    simp only [jr]
    split
    · exact ih _ _
    · rw [ih]; simp
theorem jn_cons (w : Win) (l : List Win) : jn (w :: l) = jr w l := by
  show (w :: l).foldl jstep [] = _
  rw [List.foldl_cons, jstep_nil]
  simpa using fold_jr l [] w
theorem jn_nil : jn [] = [] := rfl
theorem jn_snoc (l : List Win) (w : Win) : jn (l ++ [w]) = jstep (jn l) w := by simp [jn, List.foldl_append]
theorem jn_length (l : List Win) : (jn l).length ≤ l.length := by
  have : ∀ (l : List Win) (c : Win), (jr c l).length ≤ l.length + 1 := by
    intro l
    induction l with
    | nil => intro c; simp [jr]
    | cons w r ih =>
      intro c
      simp only [jr]
      split
      · have := ih (c.1, max c.2 w.2); simp; omega
      · have := ih w; simp; omega
  cases l with
  | nil => simp [jn_nil]
  | cons w r => rw [jn_cons]; exact this r w
def tick (x : Int) : Bool := decide (0 ≤ x ∧ x ≤ 1099511627776)
theorem tick_iff (x : Int) : tick x = true ↔ 0 ≤ x ∧ x ≤ 1099511627776 := by simp [tick]
/-- times -/
structure Tm where
  f : Int
  e : Int
  l : Int
/-- what Check tells of times: 0, or ErrArg -/
def ck (t : Tm) : Int := if 0 ≤ t.f ∧ t.f ≤ 1099511627776 ∧ 1 ≤ t.l ∧ t.l ≤ 1099511627776 ∧ (t.e = 0 ∨ (t.l ≤ t.e ∧ t.e ≤ 1099511627776)) then 0 else 2
/-- the first n windows of times -/
def ws (t : Tm) (n : Nat) : List Win := (List.range n).map fun (i : Nat) => (t.f + t.e * (i : Int), t.f + t.e * (i : Int) + t.l)
/-- how many windows begin at most at the horizon -/
def cn (t : Tm) (h : Int) : Int := if t.f > h then 0 else if t.e = 0 then 1 else (h - t.f) / t.e + 1
/-- Wins' error -/
def we (t : Tm) (h : Int) : Int := if ck t ≠ 0 then ck t else if tick h = false then 9 else if 256 < cn t h then 3 else 0
/-- Wins' row -/
def wn (t : Tm) (h : Int) : List Win := if we t h = 0 then jn (ws t (cn t h).toNat) else []
theorem ck_ok {t : Tm} (h : ck t = 0) : 0 ≤ t.f ∧ t.f ≤ 1099511627776 ∧ 1 ≤ t.l ∧ t.l ≤ 1099511627776 ∧ (t.e = 0 ∨ (t.l ≤ t.e ∧ t.e ≤ 1099511627776)) := by
  unfold ck at h
  split at h
  · assumption
  · omega
theorem we_ok {t : Tm} {h : Int} (hw : we t h = 0) : ck t = 0 ∧ tick h = true ∧ cn t h ≤ 256 := by
  unfold we at hw
  split at hw
  · exact absurd hw ‹_›
  · split at hw
    · omega
    · split at hw
      · omega
      · rename_i h1 h2 h3
        exact ⟨by omega, by simpa using h2, by omega⟩
theorem cn_nonneg {t : Tm} {h : Int} (hc : ck t = 0) : 0 ≤ cn t h := by
  have := ck_ok hc
  unfold cn
  split
  · omega
  · split
    · omega
    · have := Int.ediv_nonneg (a := h - t.f) (b := t.e) (by omega) (by omega); omega
/-- each tick of the row is at most the horizon -/
theorem cn_at {t : Tm} {h : Int} (hc : ck t = 0) {i : Nat} (hi : (i : Int) < cn t h) : t.f + t.e * (i : Int) ≤ h := by
  have hk := ck_ok hc
  unfold cn at hi
  split at hi
  · omega
  · split at hi
    · rename_i h0; rw [h0]; have : (i : Int) = 0 := by omega
      rw [this]; omega
    · have he : 0 < t.e := by omega
      have h1 : (i : Int) ≤ (h - t.f) / t.e := by omega
      have h2 := (Int.le_ediv_iff_mul_le he).1 h1
      rw [Int.mul_comm]; omega
theorem ws_length (t : Tm) (n : Nat) : (ws t n).length = n := by simp [ws]
theorem ws_succ (t : Tm) (n : Nat) : ws t (n + 1) = ws t n ++ [(t.f + t.e * (n : Int), t.f + t.e * (n : Int) + t.l)] := by simp [ws, List.range_succ]
end Go.Proofs.YtfefnfifeaihhaaGreat.Wn
namespace Go.Proofs.YtfefnfifeaihhaaGreat.Tk
open Go.ChangeShapes Go.WideShapes Go.ChangeAt Go.RowKit
theorem check_ok (t : Int) (w : World) (h0 : 0 ≤ t) (h1 : t ≤ 1099511627776) :
    Calls Tryz.prog 70 #[.int .i64 t] w fun e w' => e = .returned (.int .i64 0) ∧ w = w' := by
  go_enter Tryz.func70, Tryz.ntmps70
  go_wp2
  go_ret
  exact ⟨rfl, rfl⟩
theorem check_bad (t : Int) (w : World) (h : t < 0 ∨ 1099511627776 < t) :
    Calls Tryz.prog 70 #[.int .i64 t] w fun e w' => e = .returned (.int .i64 9) ∧ w = w' := by
  rcases h with h | h
  all_goals
    go_enter Tryz.func70, Tryz.ntmps70
    go_wp2
    go_ret
    exact ⟨rfl, rfl⟩
theorem ret_2 {a b c d : Int} (h : a = c ∧ b = d) : Ending.returned (.tuple #[.int .i64 c, .int .i64 d]) = .returned (.tuple #[.int .i64 a, .int .i64 b]) := by rw [h.1, h.2]
def isTk (t : Int) : Prop := t = 4611686018427387904 ∨ (0 ≤ t ∧ t ≤ 1099511627776)
instance (t : Int) : Decidable (isTk t) := by unfold isTk; infer_instance
def checkV (t : Int) : Int := if 0 ≤ t ∧ t ≤ 1099511627776 then 0 else 9
theorem check_any (t : Int) (w : World) :
    Calls Tryz.prog 70 #[.int .i64 t] w fun e w' => e = .returned (.int .i64 (checkV t)) ∧ w = w' := by
  by_cases h0 : 0 ≤ t ∧ t ≤ 1099511627776
  · have H : Hid (checkV t = 0) := HH (by simp [checkV, h0])
    obtain ⟨h0, h1⟩ := h0
    refine (check_ok t w h0 h1).mono ?_
    rintro e w' ⟨rfl, rfl⟩
    exact ⟨by rw [H.out], rfl⟩
  · refine (check_bad t w (by omega)).mono ?_
    rintro e w' ⟨rfl, rfl⟩
    exact ⟨by rw [checkV, if_neg h0], rfl⟩
theorem le_div {a n m : Int} (ha : 0 < a) (h : n ≤ m / a) : a * n ≤ m := by
  have := (Int.le_ediv_iff_mul_le ha).1 h
  rw [Int.mul_comm]; exact this
theorem div_lt {a n m : Int} (ha : 0 < a) (h : ¬ n ≤ m / a) : m < a * n := by
  have h2 : ¬ n * a ≤ m := fun h' => h ((Int.le_ediv_iff_mul_le ha).2 h')
  rw [Int.mul_comm a n]; omega
/-- what Count answers -/
def countV (f s u : Int) : Int := if (0 ≤ f ∧ f ≤ 1099511627776) ∧ (0 ≤ s ∧ s ≤ 1099511627776) ∧ (0 ≤ u ∧ u ≤ 1099511627776) ∧ f ≤ u then (if s = 0 then 1 else (u - f) / s + 1) else 0
theorem ret_i {a b : Int} (h : a = b) : Ending.returned (.int .i64 b) = .returned (.int .i64 a) := by rw [h]
theorem checkV_ok {t : Int} (h : 0 ≤ t ∧ t ≤ 1099511627776) : checkV t = 0 := by simp [checkV, h]
theorem checkV_bad {t : Int} (h : ¬ (0 ≤ t ∧ t ≤ 1099511627776)) : checkV t = 9 := by rw [checkV, if_neg h]
theorem count_any (f s u : Int) (w : World) : Calls Tryz.prog 69 #[.int .i64 f, .int .i64 s, .int .i64 u] w fun e w' => e = .returned (.int .i64 (countV f s u)) ∧ w = w' := by
  by_cases hf : 0 ≤ f ∧ f ≤ 1099511627776
  · have hF := checkV_ok hf
    by_cases hs : 0 ≤ s ∧ s ≤ 1099511627776
    · have hS := checkV_ok hs
      by_cases hu : 0 ≤ u ∧ u ≤ 1099511627776
      · have hU := checkV_ok hu
        by_cases hfu : f ≤ u
        · by_cases h0 : s = 0
          · have H : Hid (countV f s u = 1) := HH (by simp [countV, hf, hu, hfu, h0])
            have hne : (s == 0) = true := by simp; omega
            clear h0
            obtain ⟨hf, hf2⟩ := hf
            obtain ⟨hs, hs2⟩ := hs
            obtain ⟨hu, hu2⟩ := hu
            go_enter Tryz.func69, Tryz.ntmps69
            go_wp2_with (go_at_call 70; refine (check_any _ _).mono ?_; rintro e w' ⟨rfl, rfl⟩)
            go_ret
            exact ⟨ret_i H.out, rfl⟩
          · have H : Hid (countV f s u = (u - f) / s + 1) := HH (by simp [countV, hf, hs, hu, hfu, h0])
            have hne : (s == 0) = false := by simp; omega
            obtain ⟨hf, hf2⟩ := hf
            obtain ⟨hs, hs2⟩ := hs
            obtain ⟨hu, hu2⟩ := hu
            have hs1 : 1 ≤ s := by omega
            have hq : 0 ≤ (u - f) / s := Int.ediv_nonneg (by omega) (by omega)
            have hq2 : (u - f) / s ≤ 1099511627776 := Int.le_trans (Int.ediv_le_self _ (by omega)) (by omega)
            clear h0
            go_enter Tryz.func69, Tryz.ntmps69
            go_wp2_with (go_at_call 70; refine (check_any _ _).mono ?_; rintro e w' ⟨rfl, rfl⟩)
            go_ret
            exact ⟨ret_i H.out, rfl⟩
        · have H : Hid (countV f s u = 0) := HH (by simp [countV, hfu])
          obtain ⟨hf, hf2⟩ := hf
          obtain ⟨hs, hs2⟩ := hs
          obtain ⟨hu, hu2⟩ := hu
          go_enter Tryz.func69, Tryz.ntmps69
          go_wp2_with (go_at_call 70; refine (check_any _ _).mono ?_; rintro e w' ⟨rfl, rfl⟩)
          go_ret
          exact ⟨ret_i H.out, rfl⟩
      · have hU := checkV_bad hu
        have H : Hid (countV f s u = 0) := HH (by rw [countV, if_neg (fun h => hu h.2.2.1)])
        clear hf hs hu
        go_enter Tryz.func69, Tryz.ntmps69
        go_wp2_with (go_at_call 70; refine (check_any _ _).mono ?_; rintro e w' ⟨rfl, rfl⟩)
        go_ret
        exact ⟨ret_i H.out, rfl⟩
    · have hS := checkV_bad hs
      have H : Hid (countV f s u = 0) := HH (by rw [countV, if_neg (fun h => hs h.2.1)])
      clear hf hs
      go_enter Tryz.func69, Tryz.ntmps69
      go_wp2_with (go_at_call 70; refine (check_any _ _).mono ?_; rintro e w' ⟨rfl, rfl⟩)
      go_ret
      exact ⟨ret_i H.out, rfl⟩
  · have hF := checkV_bad hf
    have H : Hid (countV f s u = 0) := HH (by rw [countV, if_neg (fun h => hf h.1)])
    clear hf
    go_enter Tryz.func69, Tryz.ntmps69
    go_wp2_with (go_at_call 70; refine (check_any _ _).mono ?_; rintro e w' ⟨rfl, rfl⟩)
    go_ret
    exact ⟨ret_i H.out, rfl⟩
/-- what At answers -/
def atV (f s i : Int) : Int := if (0 ≤ f ∧ f ≤ 1099511627776) ∧ (0 ≤ s ∧ s ≤ 1099511627776) ∧ 0 ≤ i then (if s = 0 then (if i ≤ 0 then f else 0) else if f + s * i ≤ 1099511627776 then f + s * i else 0) else 0
def atE (f s i : Int) : Int := if (0 ≤ f ∧ f ≤ 1099511627776) ∧ (0 ≤ s ∧ s ≤ 1099511627776) ∧ 0 ≤ i then (if s = 0 then (if i ≤ 0 then 0 else 9) else if f + s * i ≤ 1099511627776 then 0 else 9) else 9
def At (f s i : Int) (w : World) (e : Ending) (w' : World) : Prop := e = .returned (.tuple #[.int .i64 (atV f s i), .int .i64 (atE f s i)]) ∧ Below w.heap.size w w'
theorem at_any (f s i : Int) (w : World) (hw : i ≤ 9223372036854775807) : Calls Tryz.prog 57 #[.int .i64 f, .int .i64 s, .int .i64 i] w (At f s i w) := by
  by_cases hf : 0 ≤ f ∧ f ≤ 1099511627776
  · have hF := checkV_ok hf
    by_cases hs : 0 ≤ s ∧ s ≤ 1099511627776
    · have hS := checkV_ok hs
      by_cases hi : 0 ≤ i
      · by_cases h0 : s = 0
        · have hne : (s == 0) = true := by simp; omega
          by_cases hi0 : i ≤ 0
          · have H : Hid (atV f s i = f ∧ atE f s i = 0) := HH (by subst h0; simp [atV, atE, hf, hi, hi0])
            clear h0
            obtain ⟨hf, hf2⟩ := hf
            obtain ⟨hs, hs2⟩ := hs
            go_enter Tryz.func57, Tryz.ntmps57
            go_wp2_with (first | (go_at_call 70; refine (check_any _ _).mono ?_; rintro e w' ⟨rfl, rfl⟩) | go_in)
            go_ret2
            exact ⟨ret_2 H.out, by go_grown⟩
          · have H : Hid (atV f s i = 0 ∧ atE f s i = 9) := HH (by subst h0; simp [atV, atE, hf, hi, hi0])
            clear h0
            obtain ⟨hf, hf2⟩ := hf
            obtain ⟨hs, hs2⟩ := hs
            go_enter Tryz.func57, Tryz.ntmps57
            go_wp2_with (first | (go_at_call 70; refine (check_any _ _).mono ?_; rintro e w' ⟨rfl, rfl⟩) | go_in)
            go_ret2
            exact ⟨ret_2 H.out, by go_grown⟩
        · have hne : (s == 0) = false := by simp; omega
          have hs1 : 1 ≤ s := by omega
          by_cases hb : i ≤ (1099511627776 - f) / s
          · have hp := le_div (by omega) hb
            have hp0 : 0 ≤ s * i := Int.mul_nonneg (by omega) hi
            have hsum : f + s * i ≤ 1099511627776 := by omega
            have H : Hid (atV f s i = f + s * i ∧ atE f s i = 0) := HH (by simp [atV, atE, hf, hs, hi, h0, hsum])
            clear h0
            obtain ⟨hf, hf2⟩ := hf
            obtain ⟨hs, hs2⟩ := hs
            go_enter Tryz.func57, Tryz.ntmps57
            go_wp2_with (first | (go_at_call 70; refine (check_any _ _).mono ?_; rintro e w' ⟨rfl, rfl⟩) | go_in)
            go_ret2
            exact ⟨ret_2 H.out, by go_grown⟩
          · have hsum : ¬ f + s * i ≤ 1099511627776 := by have := div_lt (by omega) hb; omega
            have H : Hid (atV f s i = 0 ∧ atE f s i = 9) := HH (by simp [atV, atE, hf, hs, hi, h0, hsum])
            clear h0 hsum
            obtain ⟨hf, hf2⟩ := hf
            obtain ⟨hs, hs2⟩ := hs
            go_enter Tryz.func57, Tryz.ntmps57
            go_wp2_with (first | (go_at_call 70; refine (check_any _ _).mono ?_; rintro e w' ⟨rfl, rfl⟩) | go_in)
            go_ret2
            exact ⟨ret_2 H.out, by go_grown⟩
      · have H : Hid (atV f s i = 0 ∧ atE f s i = 9) := HH (by simp [atV, atE, hi])
        obtain ⟨hf, hf2⟩ := hf
        obtain ⟨hs, hs2⟩ := hs
        go_enter Tryz.func57, Tryz.ntmps57
        go_wp2_with (go_at_call 70; refine (check_any _ _).mono ?_; rintro e w' ⟨rfl, rfl⟩)
        go_ret2
        exact ⟨ret_2 H.out, by go_grown⟩
    · have hS := checkV_bad hs
      have H : Hid (atV f s i = 0 ∧ atE f s i = 9) := HH (by constructor; (rw [atV, if_neg (fun h => hs h.2.1)]); (rw [atE, if_neg (fun h => hs h.2.1)]))
      clear hf hs
      go_enter Tryz.func57, Tryz.ntmps57
      go_wp2_with (go_at_call 70; refine (check_any _ _).mono ?_; rintro e w' ⟨rfl, rfl⟩)
      go_ret2
      exact ⟨ret_2 H.out, by go_grown⟩
  · have hF := checkV_bad hf
    have H : Hid (atV f s i = 0 ∧ atE f s i = 9) := HH (by constructor; (rw [atV, if_neg (fun h => hf h.1)]); (rw [atE, if_neg (fun h => hf h.1)]))
    clear hf
    go_enter Tryz.func57, Tryz.ntmps57
    go_wp2_with (go_at_call 70; refine (check_any _ _).mono ?_; rintro e w' ⟨rfl, rfl⟩)
    go_ret2
    exact ⟨ret_2 H.out, by go_grown⟩
end Go.Proofs.YtfefnfifeaihhaaGreat.Tk
namespace Go.Proofs.YtfefnfifeaihhaaGreat.Wn
open Go.ChangeShapes Go.WideShapes Go.ChangeAt Go.RowKit
/-- the cells of windows -/
def kc (l : List Win) : List Value := l.flatMap fun p => [.int .i64 p.1, .int .i64 p.2]
theorem kc_cons (p : Win) (l : List Win) : kc (p :: l) = .int .i64 p.1 :: .int .i64 p.2 :: kc l := rfl
theorem kc_append (a b : List Win) : kc (a ++ b) = kc a ++ kc b := by simp [kc]
theorem kc_length (l : List Win) : (kc l).length = l.length * 2 := by
  induction l with
  | nil => rfl
  | cons p l ih => rw [kc_cons]; simp [ih]; omega
theorem kc_at (l : List Win) (k : Nat) (p : Win) (h : l[k]? = some p) : (kc l)[k * 2]? = some (.int .i64 p.1) ∧ (kc l)[k * 2 + 1]? = some (.int .i64 p.2) := by
  induction l generalizing k with
  | nil => simp at h
  | cons q l ih =>
    cases k with
    | zero => simp at h; subst h; simp [kc_cons]
    | succ k => simp at h; have := ih k h; rw [kc_cons]; have e : (k + 1) * 2 = k * 2 + 2 := by omega
                rw [e]; exact ⟨by simpa using this.1, by simpa using this.2⟩
/-- the cells xs lie from A on, in a block of S -/
def Rd (w : World) (S : Nat → Prop) (A : Option Addr) (xs : List Value) : Prop :=
  0 < xs.length → ∃ ad, A = some ad ∧ S ad.block ∧ ∀ j u, xs[j]? = some u → w.cell? (ad.add j) = some u
section
variable {w w' : World} {S S' : Nat → Prop} {A : Option Addr} {xs : List Value}
theorem Rd.none_ : Rd w S A [] := fun h => absurd h (by simp)
theorem Rd.more (h : Rd w S A xs) (hs : ∀ b, S b → S' b) : Rd w S' A xs := fun hn => by
  obtain ⟨ad, e, hb, hc⟩ := h hn
  exact ⟨ad, e, hs _ hb, hc⟩
end
/-- block g is the cells l, none frozen -/
def Blk (w : World) (g : Nat) (t : TypeId) (l : List Value) : Prop := w.heap[g]? = some (.cells l.toArray t (0, 0))
section
variable {w w' : World} {g : Nat} {t : TypeId} {l : List Value}
theorem Blk.lt (h : Blk w g t l) : g < w.heap.size := by
  rcases Nat.lt_or_ge g w.heap.size with hlt | hge
  · exact hlt
  · unfold Blk at h; rw [Array.getElem?_eq_none hge] at h; cases h
theorem Blk.cell (h : Blk w g t l) (i : Nat) : w.cell? ⟨g, i, none⟩ = l[i]? := by
  have := cell_of_row w g i l.toArray t (0, 0) h
  simpa using this
theorem Blk.new (w : World) (t : TypeId) (l : List Value) : Blk (w.alloc (.cells l.toArray t)) w.heap.size t l := heap_alloc_new w _
theorem Blk.alloc (h : Blk w g t l) (o : Obj) : Blk (w.alloc o) g t l := (Below.heap_alloc w o g h.lt).trans h
theorem Blk.below {B : Nat} (h : Blk w g t l) (hb : Below B w w') (hg : g < B) : Blk w' g t l := (hb.block g hg).trans h
theorem Blk.grown {row : Option Nat} (h : Blk w g t l) (hb : w.grownBy w' row) (hg : some g ≠ row) : Blk w' g t l := (hb.block g h.lt hg).trans h
theorem Blk.rd (h : Blk w g t l) {S : Nat → Prop} (hS : S g) (off : Nat) : Rd w S (some ⟨g, off, none⟩) (l.drop off) := fun _ =>
  ⟨_, rfl, hS, fun j u hu => by
    have e : (⟨g, off, none⟩ : Addr).add j = ⟨g, off + j, none⟩ := by
      unfold Addr.add; split
      · subst_vars; rfl
      · rfl
    rw [e, h.cell, ← hu, List.getElem?_drop]⟩
end
theorem ret_b {a b : Bool} (h : a = b) : Ending.returned (.bool b) = .returned (.bool a) := by rw [h]
theorem ret_i {k : IntKind} {a b : Int} (h : a = b) : Ending.returned (.int k a) = .returned (.int k b) := by rw [h]
theorem info_win : (Tryz.prog.info? 182).map (fun i => (i.zero, i.size, i.bytes)) = some (some (.agg #[.int .i64 0, .int .i64 0]), 2, 16) := by kernel_rfl
/-- the call tells a row of windows, in memory that nothing old is changed in -/
def WinsNew (w : World) (l : List Win) (e : Ending) (w' : World) : Prop :=
  ∃ (A : Option Addr) (n c : Nat), e = .returned (.slice A n c) ∧ Hid (n = l.length) ∧ n ≤ c ∧ Rd w' (fun b => w.heap.size ≤ b ∧ b < w'.heap.size) A (kc l) ∧ Below w.heap.size w w'
theorem own_form {w : World} {base e size n : Nat} {v : Value} {xs : List Value} (h : w.ownsRow base e size v n xs) :
    ∃ A c, v = .slice A n c ∧ n ≤ c ∧ Rd w (fun b => base ≤ b ∧ b < w.heap.size) A xs := by
  rcases h.2 with ⟨rfl, rfl⟩ | ⟨g, cap, cur, rfl, hbg, hg, hnc, _⟩
  · refine ⟨none, 0, rfl, Nat.le_refl _, ?_⟩
    have : xs = [] := List.eq_nil_of_length_eq_zero (by simpa using h.1)
    subst this
    exact Rd.none_
  · exact ⟨_, cap, rfl, hnc, fun _ => ⟨_, rfl, ⟨hbg, (h.lt g rfl).2⟩, h.cells (g := g) rfl⟩⟩
theorem lit_rd (w : World) (l : Array Value) (t : TypeId) (xs : List Value) (h : xs.toArray = l) : Rd (w.alloc (.cells l t)) (· < (w.alloc (.cells l t)).heap.size) (some ⟨w.heap.size, 0, none⟩) xs := by
  subst h
  have h := (Blk.new w t xs).rd (S := (· < (w.alloc (.cells xs.toArray t)).heap.size)) (by simp) 0
  simpa using h
theorem Blk.after {w w' : World} {g : Nat} {t : TypeId} {l : List Value} (h : Blk w g t l) (hb : Below w.heap.size w w') : Blk w' g t l := h.below hb h.lt
theorem below_then {B : Nat} {a b c : World} (h1 : Below B a b) (h2 : Below b.heap.size b c) (hB : B ≤ b.heap.size) : Below B a c := h1.trans (h2.mono hB)
end Go.Proofs.YtfefnfifeaihhaaGreat.Wn
namespace Go.Proofs.YtfefnfifeaihhaaGreat.Wn
open Go.ChangeShapes Go.WideShapes Go.ChangeAt Go.RowKit
theorem within_any (x lo hi : Int) (w : World) : Calls Tryz.prog 206 #[.int .i64 x, .int .i64 lo, .int .i64 hi] w fun e w' => e = .returned (.bool (decide (lo ≤ x ∧ x ≤ hi))) ∧ w = w' := by
  by_cases h1 : lo ≤ x
  · by_cases h2 : x ≤ hi
    · go_enter Tryz.func206, Tryz.ntmps206
      go_wp2
      go_ret
      exact ⟨ret_b (by simp [h1, h2]), rfl⟩
    · go_enter Tryz.func206, Tryz.ntmps206
      go_wp2
      go_ret
      exact ⟨ret_b (by simp [h1, h2]), rfl⟩
  · go_enter Tryz.func206, Tryz.ntmps206
    go_wp2
    go_ret
    exact ⟨ret_b (by simp; omega), rfl⟩
/-- times as a value -/
def tv (t : Tm) : Value := .agg #[.int .i64 t.f, .int .i64 t.e, .int .i64 t.l]
end Go.Proofs.YtfefnfifeaihhaaGreat.Wn
namespace Go.Proofs.YtfefnfifeaihhaaGreat.Wn
open Go.ChangeShapes Go.WideShapes Go.ChangeAt Go.RowKit
theorem mixed : Tryz.prog.follows .mixedOrders = true := by kernel_rfl
end Go.Proofs.YtfefnfifeaihhaaGreat.Wn
namespace Go.Proofs.YtfefnfifeaihhaaGreat.Wn
open Go.ChangeShapes Go.WideShapes Go.ChangeAt Go.RowKit
theorem within_b {x lo hi : Int} {b : Bool} (h : decide (lo ≤ x ∧ x ≤ hi) = b) (w : World) : Calls Tryz.prog 206 #[.int .i64 x, .int .i64 lo, .int .i64 hi] w fun e w' => e = .returned (.bool b) ∧ w = w' := by
  subst h; exact within_any x lo hi w
theorem check_any (t : Tm) (w : World) : Calls Tryz.prog 201 #[tv t] w fun e w' => e = .returned (.int .i64 (ck t)) ∧ Below w.heap.size w w' := by
  obtain ⟨f, s, l⟩ := t
  have HB : Hid (Below w.heap.size w (w.alloc (.cells #[.int .i64 f, .int .i64 s, .int .i64 l] 95))) := HH ((Below.refl _ w).alloc (Nat.le_refl _) _)
  have R : Hid (ck ⟨f, s, l⟩ = if 0 ≤ f ∧ f ≤ 1099511627776 ∧ 1 ≤ l ∧ l ≤ 1099511627776 ∧ (s = 0 ∨ (l ≤ s ∧ s ≤ 1099511627776)) then 0 else 2) := HH rfl
  show Calls Tryz.prog 201 #[.agg #[.int .i64 f, .int .i64 s, .int .i64 l]] w _
  by_cases h1 : 0 ≤ f ∧ f ≤ 1099511627776
  · have C1 := HH (within_b (decide_eq_true h1))
    by_cases h2 : 1 ≤ l ∧ l ≤ 1099511627776
    · have C2 := HH (within_b (decide_eq_true h2))
      by_cases h3 : s = 0
      · subst h3
        have HR : Hid (0 = ck ⟨f, 0, l⟩) := HH (by rw [R.out, if_pos ⟨h1.1, h1.2, h2.1, h2.2, .inl rfl⟩])
        clear R
        go_enter Tryz.func201, Tryz.ntmps201
        go_wp2_with (first | (go_at_call 206; with_reducible refine (C1.out _).mono ?_; rintro e1 w1 ⟨rfl, rfl⟩) | (go_at_call 206; with_reducible refine (C2.out _).mono ?_; rintro e1 w1 ⟨rfl, rfl⟩) | fail)
        go_ret
        exact ⟨ret_i HR.out, HB.out⟩
      · by_cases h4 : l ≤ s ∧ s ≤ 1099511627776
        · have C3 := HH (within_b (decide_eq_true h4))
          have HR : Hid (0 = ck ⟨f, s, l⟩) := HH (by rw [R.out, if_pos ⟨h1.1, h1.2, h2.1, h2.2, .inr h4⟩])
          clear R
          go_enter Tryz.func201, Tryz.ntmps201
          go_wp2_with (first | (go_at_call 206; with_reducible refine (C1.out _).mono ?_; rintro e1 w1 ⟨rfl, rfl⟩) | (go_at_call 206; with_reducible refine (C2.out _).mono ?_; rintro e1 w1 ⟨rfl, rfl⟩) | (go_at_call 206; with_reducible refine (C3.out _).mono ?_; rintro e1 w1 ⟨rfl, rfl⟩) | fail)
          go_ret
          exact ⟨ret_i HR.out, HB.out⟩
        · have C3 := HH (within_b (decide_eq_false h4))
          have HR : Hid (2 = ck ⟨f, s, l⟩) := HH (by rw [R.out, if_neg (by omega)])
          clear R
          go_enter Tryz.func201, Tryz.ntmps201
          go_wp2_with (first | (go_at_call 206; with_reducible refine (C1.out _).mono ?_; rintro e1 w1 ⟨rfl, rfl⟩) | (go_at_call 206; with_reducible refine (C2.out _).mono ?_; rintro e1 w1 ⟨rfl, rfl⟩) | (go_at_call 206; with_reducible refine (C3.out _).mono ?_; rintro e1 w1 ⟨rfl, rfl⟩) | fail)
          go_ret
          exact ⟨ret_i HR.out, HB.out⟩
    · have C2 := HH (within_b (decide_eq_false h2))
      have HR : Hid (2 = ck ⟨f, s, l⟩) := HH (by rw [R.out, if_neg (by omega)])
      clear R
      go_enter Tryz.func201, Tryz.ntmps201
      go_wp2_with (first | (go_at_call 206; with_reducible refine (C1.out _).mono ?_; rintro e1 w1 ⟨rfl, rfl⟩) | (go_at_call 206; with_reducible refine (C2.out _).mono ?_; rintro e1 w1 ⟨rfl, rfl⟩) | fail)
      go_ret
      exact ⟨ret_i HR.out, HB.out⟩
  · have C1 := HH (within_b (decide_eq_false h1))
    have HR : Hid (2 = ck ⟨f, s, l⟩) := HH (by rw [R.out, if_neg (by omega)])
    clear R
    go_enter Tryz.func201, Tryz.ntmps201
    go_wp2_with (first | (go_at_call 206; with_reducible refine (C1.out _).mono ?_; rintro e1 w1 ⟨rfl, rfl⟩) | fail)
    go_ret
    exact ⟨ret_i HR.out, HB.out⟩
end Go.Proofs.YtfefnfifeaihhaaGreat.Wn
namespace Go.Proofs.YtfefnfifeaihhaaGreat.Wn
open Go.ChangeShapes Go.WideShapes Go.ChangeAt Go.RowKit
end Go.Proofs.YtfefnfifeaihhaaGreat.Wn
namespace Go.Proofs.YtfefnfifeaihhaaGreat.Wn
open Go.ChangeShapes Go.WideShapes Go.ChangeAt Go.RowKit Go.Shelf
attribute [local go_sem] Oper.semAt_some
/-- a window as it is handed over -/
def encw (x : Win) : Array Value := #[.agg #[.int .i64 x.1, .int .i64 x.2]]
/-- what a round leaves alone: what lay below n0, and the m blocks from B on -/
def KpB (n0 B m : Nat) (W W' : World) : Prop := Below n0 W W' ∧ ∀ b, B ≤ b → b < B + m → W'.heap[b]? = W.heap[b]?
theorem KpB.t {n0 B m : Nat} {X Y Z : World} (h : KpB n0 B m X Y) (k : KpB n0 B m Y Z) : KpB n0 B m X Z := ⟨h.1.trans k.1, fun b h1 h2 => (k.2 b h1 h2).trans (h.2 b h1 h2)⟩
theorem KpB.blk {n0 B m : Nat} {X Y : World} (h : KpB n0 B m X Y) {b : Nat} (h1 : B ≤ b) (h2 : b < B + m) {t : TypeId} {l : List Value} (hb : Blk X b t l) : Blk Y b t l := (h.2 b h1 h2).trans hb
theorem KpB.of_below {n0 B m n : Nat} {X Y : World} (h : Below n X Y) (h0 : n0 ≤ n) (hB : B + m ≤ n) : KpB n0 B m X Y := ⟨h.mono h0, fun b _ h2 => h.block b (by omega)⟩
theorem below_grow {X Y : World} (h : Below X.heap.size X Y) : X.grownBy Y none := ⟨h.os, h.tape, h.output, h.size, fun k hk _ => h.block k hk⟩
theorem J_below {α : Type} {B : Nat} {J : List α → World → Prop} (hJ : AbidesFrom B J) {pre : List α} {wr wr' : World} (h : J pre wr) (hb : Below wr.heap.size wr wr') : J pre wr' :=
  hJ pre wr wr' none h (below_grow hb) (by simp)
def FsRel (n0 B : Nat) (f s d : Int) (cnt : Nat) (J : List Win → World → Prop) (v8 : Value) (wr : World) : Prop :=
  ∃ k : Nat, v8 = .int .i64 k ∧ k ≤ cnt ∧ Hid (J (ws ⟨f, s, d⟩ k) wr) ∧ Hid (Blk wr B 95 [.int .i64 f, .int .i64 s, .int .i64 d])
theorem first1_in (l B n0 : Nat) (f s d : Int) (cnt : Nat) (hcnt : cnt ≤ 1000000) (hd : 1 ≤ d ∧ d ≤ 1099511627776)
    (hat : Hid (∀ i : Nat, i < cnt → Tk.atV f s i = f + s * i ∧ Tk.atE f s i = 0 ∧ 0 ≤ f + s * i ∧ f + s * i ≤ 1099511627776))
    (J Jx : List Win → World → Prop) (W : World) (hJ : AbidesFrom W.heap.size J)
    (hY : ∀ pre x W1, J pre W1 → pre.length < cnt → YieldAt Fence.wide 4 Tryz.prog l (encw x) W1 fun e W' =>
      (e = .returned (.bool true) ∧ J (pre ++ [x]) W' ∧ KpB n0 B 2 W1 W') ∨ (e = .returned (.bool false) ∧ Jx (pre ++ [x]) W'))
    (hT : Blk W B 95 [.int .i64 f, .int .i64 s, .int .i64 d]) (hN : Blk W (B + 1) 2 [.int .i64 cnt]) (h0 : J [] W) :
    CallsIn Fence.wide 5 Tryz.prog 207 #[.func (.yield l) #[] #[], .pointer (some ⟨B + 1, 0, none⟩), .pointer (some ⟨B, 0, none⟩)] W fun e W' => (∃ v, e = .returned v) ∧
      (J (ws ⟨f, s, d⟩ cnt) W' ∨ (∃ pre : List Win, Jx pre W')) := by
  have hn0 := hN.cell 0
  simp only [List.getElem?_cons_zero] at hn0
  refine callsIn_of_wp Tryz.func207 rfl trivial ?_ rfl
  simp only [Tryz.ntmps207, List.size_toArray, List.length_cons, List.length_nil, Nat.reduceAdd, Nat.reduceSub, Array.replicate_succ, Array.replicate_zero, List.push_toArray, List.append_toArray, List.nil_append, List.cons_append]
  gi_wp2
  clear hn0
  gi_loopw [8] (fun v8 wr => FsRel n0 B f s d cnt J v8 wr) (fun v _ => cnt - (intOf v).toNat)
  case atStart => exact ⟨0, rfl, by omega, h0, hT⟩
  case round =>
    obtain ⟨k, rfl, hk, hJs, hTb⟩ := hrel
    by_cases hlt : k < cnt
    · obtain ⟨e1, e2, e3, e4⟩ := hat.out k hlt
      have a0 := hTb.out.cell 0
      have a1 := hTb.out.cell 1
      simp only [List.getElem?_cons_zero, List.getElem?_cons_succ] at a0 a1
      have hi : (k : Int) < (cnt : Int) := by omega
      have CT : Hid (CallsIn Fence.wide 4 Tryz.prog 57 #[.int .i64 f, .int .i64 s, .int .i64 k] wr fun e w1 => e = .returned (.tuple #[.int .i64 (f + s * k), .int .i64 0]) ∧ Below wr.heap.size wr w1) := HH (callsIn_wide.2 ((Tk.at_any f s k wr (by omega)).mono fun e w1 h => by
        obtain ⟨h1, h2⟩ := h
        rw [e1, e2] at h1
        exact ⟨h1, h2⟩))
      obtain ⟨x, hx⟩ : ∃ x, x = f + s * (k : Int) := ⟨_, rfl⟩
      have HX := HH hx
      rw [← hx] at CT e3 e4
      clear hx e1 e2
      gi_wp2_with (refine ⟨trivial, ?_⟩; gi_at_call 57; refine CT.out.mono ?_; rintro e w1 ⟨rfl, hb1⟩; have a2 := (hTb.out.after hb1).cell 2; simp only [List.getElem?_cons_zero, List.getElem?_cons_succ] at a2; obtain ⟨fn, tmps, assign, body, hy, hR⟩ := hY _ (x, x + d) w1 (J_below hJ hJs.out hb1) (by rw [ws_length]; exact hlt); dsimp only [encw] at hy)
      refine hR.mono ?_
      have HB1 := HH hb1
      have HW : Hid (ws ⟨f, s, d⟩ k ++ [(x, x + d)] = ws ⟨f, s, d⟩ (k + 1)) := HH (by rw [ws_succ]; simp only [HX.out])
      clear hR hy a0 a1 a2 hb1
      rintro e W3 (⟨rfl, hJ3, hk3⟩ | ⟨rfl, hJx3⟩)
      · have HJ3 := HH hJ3
        have HK3 := HH hk3
        clear hJ3 hk3
        gi_wp2
        go_roundw
        case rel => exact ⟨k + 1, by go_num, by omega, by show _; rw [← HW.out]; exact HJ3.out, HK3.out.blk (Nat.le_refl _) (by omega) (hTb.out.after HB1.out)⟩
        case measure => simp [intOf]; omega
      · have HJ3 := HH hJx3
        clear hJx3
        gi_wp2
        refine bodyPost_ret (results_none rfl _ _ _) rfl ?_
        exact ⟨⟨_, rfl⟩, .inr ⟨_, HJ3.out⟩⟩
    · obtain rfl : k = cnt := by omega
      have hki : ¬ (k : Int) < (k : Int) := by omega
      gi_wp2
      go_end0
      exact ⟨⟨_, rfl⟩, .inl hJs.out⟩
/-- the iterator's contract -/
theorem first_stops (B n0 : Nat) (f s d : Int) (cnt : Nat) (hcnt : cnt ≤ 1000000) (hd : 1 ≤ d ∧ d ≤ 1099511627776)
    (hat : Hid (∀ i : Nat, i < cnt → Tk.atV f s i = f + s * i ∧ Tk.atE f s i = 0 ∧ 0 ≤ f + s * i ∧ f + s * i ≤ 1099511627776))
    (w : World) (hT : Blk w B 95 [.int .i64 f, .int .i64 s, .int .i64 d]) (hN : Blk w (B + 1) 2 [.int .i64 cnt]) :
    SeqStopsK Fence.wide 5 Tryz.prog 207 #[.pointer (some ⟨B + 1, 0, none⟩), .pointer (some ⟨B, 0, none⟩)] encw (KpB n0 B 2) (fun ys => ys = ws ⟨f, s, d⟩ cnt) (fun _ => True) cnt w := fun l J Jx W hW hJ _ hY h0 =>
  (first1_in l B n0 f s d cnt hcnt hd hat J Jx W hJ hY (hT.below hW hT.lt) (hN.below hW hN.lt) h0).mono fun e W' ⟨he, hj⟩ => ⟨he, hj.elim (fun h => .inl ⟨_, rfl, h⟩) (fun ⟨pre, h⟩ => .inr ⟨pre, trivial, h⟩)⟩
/-- making the iterator lays its two boxes -/
theorem first_any (f s d n : Int) (w : World) :
    Calls Tryz.prog 203 #[.agg #[.int .i64 f, .int .i64 s, .int .i64 d], .int .i64 n] w fun e w' => e = .returned (.func (.func 207) #[] #[.pointer (some ⟨w.heap.size + 1, 0, none⟩), .pointer (some ⟨w.heap.size, 0, none⟩)]) ∧ w' = (w.alloc (.cells #[.int .i64 f, .int .i64 s, .int .i64 d] 95)).alloc (.cells #[.int .i64 n] 2) := by
  go_enter Tryz.func203, Tryz.ntmps203
  go_wp2
  go_ret
  exact ⟨rfl, rfl⟩
end Go.Proofs.YtfefnfifeaihhaaGreat.Wn
namespace Go.Proofs.YtfefnfifeaihhaaGreat.Wn
open Go.ChangeShapes Go.WideShapes Go.ChangeAt Go.RowKit Go.Shelf
attribute [local go_sem] Oper.semAt_some
end Go.Proofs.YtfefnfifeaihhaaGreat.Wn
namespace Go.Proofs.YtfefnfifeaihhaaGreat.Wn
open Go.ChangeShapes Go.WideShapes Go.ChangeAt Go.RowKit Go.Shelf
attribute [local go_sem] Oper.semAt_some
end Go.Proofs.YtfefnfifeaihhaaGreat.Wn
