/- Package world's stops, repeats, way, times: numbers of stops by their names. Conditions: the maker lies as Mk says; at most 400 names. -/
import Derived.Test.YtfefnfifeaihhaaGreatWoTab
set_option linter.unusedVariables false
set_option linter.unusedSimpArgs false
set_option maxHeartbeats 1000000
set_option maxRecDepth 100000
namespace Go.Proofs.YtfefnfifeaihhaaGreat.Wo
open Go.ChangeShapes Go.WideShapes Go.ChangeAt Go.RowKit Go.Maps
open Lx Sh It
theorem info_Int : (Tryz.prog.info? 3).map (fun i => (i.zero, i.size, i.bytes)) = some (some (.int .i64 0), 1, 8) := by kernel_rfl
theorem named_in {w : World} {M T : Nat} {X : Nat → Prop} {x : SheetM} {p : ShA} {tA : Option Addr} {tn tc : Nat} (h : Mk w M T X x p tA tn tc) (a : Nm) (ha : a.length ≤ maxLen) (hin : a ∈ x.stops) :
    Calls Tryz.prog 187 #[.pointer (some ⟨M, 0, none⟩), .string ⟨a.toArray⟩] w (fun e w' => e = .returned (.agg #[.int .i64 1, .int .i64 (pl x.stops a)]) ∧ Below w.heap.size w w') := by
  have := named_any h a ha
  rw [thing_stop2 (n := namesX x) (a := a) hin] at this
  rw [pl_mem hin]
  exact this
theorem named_not {w : World} {M T : Nat} {X : Nat → Prop} {x : SheetM} {p : ShA} {tA : Option Addr} {tn tc : Nat} (h : Mk w M T X x p tA tn tc) (a : Nm) (ha : a.length ≤ maxLen) (hin : a ∉ x.stops) :
    ∃ k j : Int, (k == 1) = false ∧ Calls Tryz.prog 187 #[.pointer (some ⟨M, 0, none⟩), .string ⟨a.toArray⟩] w (fun e w' => e = .returned (.agg #[.int .i64 k, .int .i64 j]) ∧ Below w.heap.size w w') := by
  refine ⟨_, _, ?_, named_any h a ha⟩
  have : (thingM (namesX x) a).1 ≠ 1 := fun e => hin ((thing_stop _ _).1 e)
  simp
  omega
def StYes (w : World) (S names : List Nm) (e : Ending) (w' : World) : Prop :=
  ∃ A c, e = .returned (.tuple #[.slice A names.length c, .bool true]) ∧ Hid (w'.ownsRow w.heap.size 3 1 (.slice A names.length c) names.length (cs intC (names.map (pl S)))) ∧ Below w.heap.size w w'
def StNo (w : World) (e : Ending) (w' : World) : Prop := e = .returned (.tuple #[.slice none 0 0, .bool false]) ∧ Below w.heap.size w w'
theorem all_upto {S names : List Nm} {k : Nat} {a : Nm} (h : ∀ s ∈ names.take k, s ∈ S) (ha : names[k]? = some a) (hin : a ∈ S) : ∀ s ∈ names.take (k + 1), s ∈ S := by
  intro s hs
  rw [List.take_add_one, ha] at hs
  rcases List.mem_append.1 hs with hs | hs
  · exact h s hs
  · simp at hs; subst hs; exact hin
theorem stops_any {w : World} {M T : Nat} {X : Nat → Prop} {x : SheetM} {p : ShA} {tA : Option Addr} {tn tc : Nat} (h : Mk w M T X x p tA tn tc) (A : Option Addr) (n c : Nat) (names : List Nm) (hn : Hid (n = names.length)) (hN : n ≤ 400) (hx : Rd w (· < w.heap.size) A (cs strC names)) (hl : ∀ s ∈ names, s.length ≤ maxLen) :
    Calls Tryz.prog 183 #[.pointer (some ⟨M, 0, none⟩), .slice A n c] w (fun e w' => ((∀ s ∈ names, s ∈ x.stops) ∧ StYes w x.stops names e w') ∨ ((∃ s ∈ names, s ∉ x.stops) ∧ StNo w e w')) := by
  have H := HH h
  have HX := HH hx
  have HL := HH hl
  clear h hx hl
  go_enter Tryz.func183, Tryz.ntmps183
  go_wp2
  go_loopw [6, 12] (fun v vi wr => EaRel w 3 1 intC (pl x.stops) names n v vi wr ∧ Hid (∀ s ∈ names.take (intOf vi).toNat, s ∈ x.stops)) (fun _ vi _ => n - (intOf vi).toNat)
  case atStart => exact ⟨ea_start _ _ _ _ _ _, HH (by simp [intOf])⟩
  case round =>
    obtain ⟨⟨k, B, d, rfl, rfl, hk, HO, HB⟩, hP⟩ := hrel
    have HP : Hid (∀ s ∈ names.take k, s ∈ x.stops) := by simpa [intOf] using hP
    clear hP
    by_cases hlt : k < n
    · obtain ⟨a, ha⟩ := at_in names hn hlt
      obtain ⟨ad, rfl, hS, h0, hj⟩ := rd_at 1 (fun _ => rfl) (by omega) (HX.out.below HB.out) ha
      have a0 : wr.cell? (ad.add (k * 1)) = some (.string ⟨a.toArray⟩) := h0
      rw [Nat.mul_one] at a0
      have HA := HH ha
      have HM := HH (List.mem_of_getElem? ha)
      have hi : (k : Int) < (n : Int) := by omega
      by_cases hin : a ∈ x.stops
      · have HG := HH (named_in (H.out.later HB.out) a (HL.out a HM.out) hin)
        have HI := HH hin
        clear ha h0 hj hin
        go_wp2_with (first
          | (go_at_call 187; refine HG.out.mono ?_; rintro e w2 ⟨rfl, hb⟩; have HB2 := HH hb; clear hb)
          | (at_builtin; refine wpList_append_rd rfl (.tmp 22) (.tmp 25) 57 rfl w.heap.size 3 _ 1 8 Tryz.underlying57 info_Int rfl (by omega) (by omega) (.slice B k d) k (cs intC ((names.take k).map (pl x.stops))) rfl (own_after (own_after HO.out HB2.out) (two_box _ _ _)) _ _ 1 1 [.int .i64 (pl x.stops a)] rfl rfl (Sh.lit_at _ _ _ _ _ (by simp) rfl) (by simp [Value.oneCell']) (by omega) (by have := HB.out.size; have := HB2.out.size; simp; omega) ?_; intro v' w4 hown hbel; obtain ⟨A', c', rfl, -, -⟩ := own_form hown.out))
        go_roundw
        case rel => exact ⟨ea_more HA.out (by omega) rfl rfl hown.out ((below_then HB.out HB2.out HB.out.size).trans ((((Below.refl _ _).alloc (by have := HB.out.size; have := HB2.out.size; omega) _).alloc (by have := HB.out.size; have := HB2.out.size; simp; omega) _).trans hbel.out)) rfl rfl, HH (by have := all_upto HP.out HA.out HI.out; simpa [intOf] using this)⟩
        case measure => simp [intOf]; omega
      · obtain ⟨tk, tj, htk, hc⟩ := named_not (H.out.later HB.out) a (HL.out a HM.out) hin
        have HG := HH hc
        have HI := HH hin
        have htk2 : ¬ (tk = 1) := by simpa using htk
        clear ha h0 hj hin hc
        go_wp2_with (go_at_call 187; refine HG.out.mono ?_; rintro e w2 ⟨rfl, hb⟩; have HB2 := HH hb; clear hb)
        go_ret2
        exact .inr ⟨⟨a, HM.out, HI.out⟩, rfl, (below_then HB.out HB2.out HB.out.size).trans ((Below.refl _ _).alloc (by have := HB.out.size; have := HB2.out.size; omega) _)⟩
    · obtain rfl : n = k := by omega
      have hi : ¬ ((n : Int) < (n : Int)) := by omega
      have HAL : Hid (∀ s ∈ names, s ∈ x.stops) := HH (by have := HP.out; rw [hn.out, List.take_length] at this; exact this)
      obtain ⟨A', c', e', hnd, hO, hb⟩ := ea_over (f := pl x.stops) (g := intC) hn.out HO.out HB.out
      go_wp2
      go_ret2
      refine .inl ⟨HAL.out, B, d, by rw [← hn.out]; rfl, ?_, hb⟩
      have hO := HO.out
      rw [hn.out, List.take_length] at hO
      exact HH hO
/-! ### repeats, ways, times -/
theorem reps_iff : ∀ (l : List Int), reps l = true ↔ ∃ i a, l[i]? = some a ∧ l[i + 1]? = some a
  | [] => by simp [reps]
  | [a] => by
    simp only [reps, Bool.false_eq_true, false_iff]
    rintro ⟨i, b, h1, h2⟩
    simp at h2
  | a :: b :: r => by
    rw [reps, Bool.or_eq_true, decide_eq_true_eq, reps_iff (b :: r)]
    constructor
    · rintro (h | ⟨i, c, h1, h2⟩)
      · exact ⟨0, a, rfl, by simp [h]⟩
      · exact ⟨i + 1, c, by simpa using h1, by simpa using h2⟩
    · rintro ⟨i, c, h1, h2⟩
      cases i with
      | zero => left; simp at h1 h2; rw [h1, h2]
      | succ i => right; exact ⟨i, c, by simpa using h1, by simpa using h2⟩
theorem reps_no {l : List Int} (h : ∀ i a b, l[i]? = some a → l[i + 1]? = some b → i + 1 < l.length → a ≠ b) : reps l = false := by
  cases hr : reps l with
  | false => rfl
  | true =>
    obtain ⟨i, a, h1, h2⟩ := (reps_iff l).1 hr
    exact absurd rfl (h i a a h1 h2 (List.getElem?_eq_some_iff.1 h2).1)
theorem repeats_any (w : World) (A : Option Addr) (n c : Nat) (l : List Int) (hn : Hid (n = l.length)) (hN : n ≤ 400) (hx : Rd w (· < w.heap.size) A (cs intC l)) :
    Calls Tryz.prog 184 #[.slice A n c] w (fun e w' => e = .returned (.bool (reps l)) ∧ Below w.heap.size w w') := by
  have HX := HH hx
  clear hx
  go_enter Tryz.func184, Tryz.ntmps184
  go_wp2
  go_loopw [3] (fun v wr => ∃ k j : Nat, v = .int .i64 (j : Int) ∧ Hid (j = k + 1) ∧ (k + 1 ≤ n ∨ k = 0) ∧ Hid (∀ i a b, l[i]? = some a → l[i + 1]? = some b → i < k → a ≠ b) ∧ Hid (Below w.heap.size w wr)) (fun v _ => n + 2 - (intOf v).toNat)
  case atStart => exact ⟨0, 1, rfl, HH rfl, .inr rfl, HH (fun i a b _ _ h => absurd h (by omega)), HH (Below.refl _ _)⟩
  case round =>
    obtain ⟨k, j, rfl, hkj, hk, HP, HB⟩ := hrel
    by_cases hlt : j < n
    · obtain ⟨a, ha⟩ := at_in (k := k) l hn (by have := hkj.out; omega)
      obtain ⟨b, hb⟩ := at_in (k := j) l hn hlt
      obtain ⟨ad, rfl, hS, h0, -⟩ := rd_at 1 (fun _ => rfl) (by omega) (HX.out.below HB.out) ha
      obtain ⟨ad', e, hS', h1, -⟩ := rd_at 1 (fun _ => rfl) (by omega) (HX.out.below HB.out) hb
      injection e with e
      subst e
      have a0 : wr.cell? (ad.add k) = some (.int .i64 a) := by have : wr.cell? (ad.add (k * 1)) = some (.int .i64 a) := h0; rwa [Nat.mul_one] at this
      have a1 : wr.cell? (ad.add j) = some (.int .i64 b) := by have : wr.cell? (ad.add (j * 1)) = some (.int .i64 b) := h1; rwa [Nat.mul_one] at this
      have e2 : ((j : Int) - 1) = (k : Int) := by have := hkj.out; omega
      have hi : (j : Int) < (n : Int) := by omega
      have hi2 : (k : Int) < (n : Int) := by have := hkj.out; omega
      have HA := HH ha
      have HBb := HH hb
      clear h0 h1 ha hb hS hS'
      by_cases hab : b = a
      · have HR : Hid (reps l = true) := HH ((reps_iff l).2 ⟨k, a, HA.out, by rw [← hab, ← hkj.out]; exact HBb.out⟩)
        have hab' : (b == a) = true := by simp [hab]
        clear hab
        go_wp2
        go_region
        all_goals go_wp2
        go_ret
        exact ⟨by rw [HR.out]; rfl, below_drew HB.out⟩
      · have hab' : (b == a) = false := by simp [hab]
        have HNE : Hid (a ≠ b) := HH fun e => hab e.symm
        clear hab
        go_wp2
        go_region
        all_goals go_wp2
        go_roundw
        case rel => exact ⟨k + 1, j + 1, by go_num, HH (by rw [hkj.out]), by have := hkj.out; omega, HH (fun i p q hp hq hi => by
            rcases Nat.lt_or_ge i k with h | h
            · exact HP.out i p q hp hq h
            · obtain rfl : i = k := by omega
              have e3 := HA.out; have e4 := HBb.out
              rw [hp] at e3; rw [hkj.out, hq] at e4
              injection e3 with e3; injection e4 with e4
              rw [e3, e4]; exact HNE.out), HH (below_drew HB.out)⟩
        case measure => simp [intOf]; omega
    · have hi : ¬ ((j : Int) < (n : Int)) := by omega
      have HR : Hid (reps l = false) := HH (reps_no fun i a b ha hb hl => HP.out i a b ha hb (by have := hn.out; have := hkj.out; omega))
      go_wp2
      go_ret
      exact ⟨by rw [HR.out]; rfl, HB.out⟩
theorem short_any (n : Int) (w : World) : Calls Tryz.prog 186 #[.int .i64 n] w (fun e w' => e = .returned (.bool (decide (n < 1))) ∧ w = w') := by
  go_enter Tryz.func186, Tryz.ntmps186
  go_wp2
  go_ret
  exact ⟨rfl, rfl⟩
theorem any_upto {α : Type} {f : α → Bool} {l : List α} {k : Nat} {a : α} (h : (l.take k).any f = false) (ha : l[k]? = some a) (hf : f a = false) : (l.take (k + 1)).any f = false := by
  rw [List.take_add_one, ha, List.any_append, h]
  simp [hf]
theorem any_here {α : Type} {f : α → Bool} {l : List α} {k : Nat} {a : α} (ha : l[k]? = some a) (hf : f a = true) : l.any f = true := List.any_eq_true.2 ⟨a, List.mem_of_getElem? ha, hf⟩
theorem any_full {α : Type} {f : α → Bool} {l : List α} {k : Nat} (h : (l.take k).any f = false) (hk : k = l.length) : l.any f = false := by rw [hk, List.take_length] at h; exact h
theorem shorts_any (w : World) (A : Option Addr) (n c : Nat) (l : List Int) (hn : Hid (n = l.length)) (hN : n ≤ 400) (hx : Rd w (· < w.heap.size) A (cs intC l)) :
    Calls Tryz.prog 185 #[.slice A n c, .func (.func 186) #[] #[]] w (fun e w' => e = .returned (.bool (l.any fun n => decide (n < 1))) ∧ Below w.heap.size w w') := by
  have HI : Hid (Calls Tryz.prog 196 #[.slice A n c, .func (.func 186) #[] #[]] w (fun e w' => ∃ i : Int, e = .returned (.int .i64 i) ∧ decide (0 ≤ i) = (l.any fun n => decide (n < 1)) ∧ Below w.heap.size w w')) := by
    have HX := HH hx
    clear hx
    refine HH ?_
    go_enter Tryz.func196, Tryz.ntmps196
    go_wp2
    go_loopw [8] (fun v wr => ∃ k : Nat, v = .int .i64 (k : Int) ∧ k ≤ n ∧ Hid ((l.take k).any (fun n => decide (n < 1)) = false) ∧ Hid (Below w.heap.size w wr)) (fun v _ => n - (intOf v).toNat)
    case atStart => exact ⟨0, rfl, by omega, HH rfl, HH (Below.refl _ _)⟩
    case round =>
      obtain ⟨k, rfl, hk, HP, HB⟩ := hrel
      by_cases hlt : k < n
      · obtain ⟨a, ha⟩ := at_in (k := k) l hn hlt
        obtain ⟨ad, rfl, hS, h0, -⟩ := rd_at 1 (fun _ => rfl) (by omega) (HX.out.below HB.out) ha
        have a0 : wr.cell? (ad.add k) = some (.int .i64 a) := by have : wr.cell? (ad.add (k * 1)) = some (.int .i64 a) := h0; rwa [Nat.mul_one] at this
        have hi : (k : Int) < (n : Int) := by omega
        have HA := HH ha
        clear h0 ha hS
        have HG := HH (fun w' => short_any a w')
        by_cases hab : a < 1
        · have hd : decide (a < 1) = true := decide_eq_true hab
          have HR : Hid ((l.any fun n => decide (n < 1)) = true) := HH (any_here HA.out hd)
          rw [hd] at HG
          clear hab hd
          go_wp2_with (go_at_call 186; (with_reducible refine (HG.out _).mono ?_); rintro e w2 ⟨rfl, rfl⟩)
          go_ret
          exact ⟨k, rfl, by rw [HR.out]; simp, HB.out⟩
        · have hd : decide (a < 1) = false := decide_eq_false hab
          have HD := HH hd
          rw [hd] at HG
          clear hab hd
          go_wp2_with (go_at_call 186; (with_reducible refine (HG.out _).mono ?_); rintro e w2 ⟨rfl, rfl⟩)
          go_roundw
          case rel => exact ⟨k + 1, by go_num, by omega, HH (any_upto HP.out HA.out HD.out), HB⟩
          case measure => simp [intOf]; omega
      · have hi : ¬ ((k : Int) < (n : Int)) := by omega
        have HR : Hid ((l.any fun n => decide (n < 1)) = false) := HH (any_full HP.out (by have := hn.out; omega))
        go_wp2
        go_ret
        exact ⟨-1, rfl, by rw [HR.out]; rfl, HB.out⟩
  clear hx
  go_enter Tryz.func185, Tryz.ntmps185
  go_wp2_with (go_at_call 196; (with_reducible refine HI.out.mono ?_); rintro e w2 ⟨i, rfl, hi, hb⟩; have HB2 := HH hb; have HII := HH hi; clear hb hi)
  go_ret
  exact ⟨by rw [← HII.out]; rfl, HB2.out⟩
theorem wo_read {W : World} {n0 : Nat} {a0 a1 a2 v9 : Value} {tmps : Array Value} (h2 : tmps[8]? = some (.pointer (some ⟨n0, 0, none⟩))) (h9 : tmps[9]? = some v9) (k0 : Blk W n0 92 [a0, a1, a2]) :
    (results Tryz.f181 tmps).run Tryz.prog W = .ok (.tuple #[.agg #[a0, a1, a2], v9]) W := by
  have x0 : W.cell? ⟨n0, 0, none⟩ = some a0 := k0.cell 0
  have x1 : W.cell? ⟨n0, 1, none⟩ = some a1 := k0.cell 1
  have x2 : W.cell? ⟨n0, 2, none⟩ = some a2 := k0.cell 2
  simp [results, Tryz.results181, go_sem, h2, h9, x0, x1, x2]
def wayO (S : List Nm) (a b : Nm) (len : Int) : PathO := if wayE (pl S a) (pl S b) len = 0 then ⟨pl S a, pl S b, len⟩ else ⟨0, 0, 0⟩
theorem way_out {S : List Nm} {a b : Nm} {n : Int} (h : ∃ s ∈ [a, b], s ∉ S) : wayE (pl S a) (pl S b) n = 5 := by
  unfold wayE
  rw [if_pos]
  obtain ⟨s, hs, hn⟩ := h
  simp at hs
  rcases hs with rfl | rfl
  · exact .inl (pl_neg.2 hn)
  · exact .inr (pl_neg.2 hn)
theorem way_in {S : List Nm} {a b : Nm} {n : Int} (h : ∀ s ∈ [a, b], s ∈ S) : wayE (pl S a) (pl S b) n = if pl S a = pl S b ∨ n < 1 then 2 else 0 := by
  unfold wayE
  rw [if_neg]
  rintro (h1 | h1)
  · exact pl_neg.1 h1 (h a (by simp))
  · exact pl_neg.1 h1 (h b (by simp))
end Go.Proofs.YtfefnfifeaihhaaGreat.Wo
