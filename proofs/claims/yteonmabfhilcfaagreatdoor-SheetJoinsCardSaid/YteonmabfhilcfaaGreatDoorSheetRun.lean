/- Package sheet's reader: line by line, proved by walking its text. Conditions: the tokens end with a line's end; ends have no text. -/
import Derived.Test.YteonmabfhilcfaaGreatDoorSheetRoute
import Derived.Test.YteonmabfhilcfaaGreatDoorPlain
import Derived.Test.YteonmabfhilcfaaGreatDoorSheetKinds
import Derived.Test.YteonmabfhilcfaaGreatDoorSheetOne
import Derived.StillTailTactics
import Derived.Outline
import Derived.Deep.Cut
namespace Go.Proofs.YteonmabfhilcfaaGreatDoor.Sh
open Go.ChangeShapes Go.WideShapes Go.ChangeAt Go.RowKit
open Lx
set_option linter.unusedVariables false
set_option linter.unusedSimpArgs false

theorem keeps_len {α : Type} {p : List Tok → PR α} (h : Keeps p) {ts r : List Tok} {a : α} (he : EndL ts) (e : p ts = .ok a r) : r.length ≤ ts.length := (h _ _ _ he e).2
/-- behind a line there are fewer tokens -/
theorem row_lt {α : Type} {p : List Tok → PR α} (hk : Keeps p) {n most : Nat} {first : Tok} {f : α → List Tok → PR SheetM} (hf : ∀ a r x q, f a r = .ok x q → q = r) {ts q : List Tok} {x : SheetM} (he : EndL ts)
    (h : ((p ts).bind fun a r => (endM n most first r).bind fun _ r => f a r) = .ok x q) : q.length < ts.length := by
  obtain ⟨a, r, h1, h2⟩ := bind_eq_ok h
  obtain ⟨u, r2, h3, h4⟩ := bind_eq_ok h2
  have := hf _ _ _ _ h4
  subst this
  have l1 := keeps_len hk he h1
  have l2 := end_lt h3
  omega
theorem over_same {g : Legs} {x y : SheetM} {r q : List Tok} (h : overLeg g x r = .ok y q) : q = r := by
  unfold overLeg at h
  split at h
  · injection h with _ h; exact h.symm
  · cases h
theorem pure_same {x y : SheetM} {r q : List Tok} (h : (PR.ok x r) = .ok y q) : q = r := by injection h with _ h; exact h.symm
theorem step_lt {f : Bool} {x y : SheetM} {t : Tok} {r q : List Tok} (he : EndL r) (h : stepM f x t r = .ok y q) : q.length < r.length := by
  unfold stepM at h
  by_cases h1 : t.text = kHorizon
  · rw [if_pos h1] at h
    cases f with
    | false => rw [if_neg (by decide)] at h; cases h
    | true =>
      rw [if_pos rfl] at h
      obtain ⟨n, r1, e1, e2⟩ := bind_eq_ok h
      obtain ⟨u, r2, e3, e4⟩ := bind_eq_ok e2
      have := pure_same e4; subst this
      have l1 := num_lt e1
      have l2 : q.length < r1.length := by rw [(take_ok e3).1]; simp
      omega
  rw [if_neg h1] at h
  cases f with
  | true => rw [if_pos rfl] at h; cases h
  | false =>
  rw [if_neg (by decide)] at h
  by_cases h2 : t.text = kStop
  · rw [if_pos h2] at h; exact row_lt keeps_name (fun _ _ _ _ e => pure_same e) he h
  rw [if_neg h2] at h
  by_cases h3 : t.text = kPath
  · rw [if_pos h3] at h; exact row_lt keeps_path (fun _ _ _ _ e => pure_same e) he h
  rw [if_neg h3] at h
  by_cases h4 : t.text = kDoor
  · rw [if_pos h4] at h; exact row_lt keeps_door (fun _ _ _ _ e => pure_same e) he h
  rw [if_neg h4] at h
  by_cases h5 : t.text = kRoute
  · rw [if_pos h5] at h; exact row_lt keeps_route (fun _ _ _ _ e => over_same e) he h
  rw [if_neg h5] at h
  by_cases h6 : t.text = kTrip
  · rw [if_pos h6] at h; exact row_lt keeps_trip (fun _ _ _ _ e => pure_same e) he h
  rw [if_neg h6] at h
  by_cases h7 : t.text = kHazard
  · rw [if_pos h7] at h; exact row_lt keeps_haz (fun _ _ _ _ e => pure_same e) he h
  rw [if_neg h7] at h; cases h
/-- what line does a word begin -/
theorem look_step {f : Bool} {x : SheetM} {t : Tok} {r : List Tok} (h : lookF t.text = none ∨ f ≠ decide (t.text = kHorizon)) : stepM f x t r = .bad 7 t.line t.col := by
  unfold stepM
  by_cases h1 : t.text = kHorizon
  · rw [if_pos h1]
    rcases h with h | h
    · simp [lookF, h1] at h
    · have : f = false := by cases f with | false => rfl | true => simp [h1] at h
      subst this; rfl
  rw [if_neg h1]
  cases f with
  | true => rfl
  | false =>
  rw [if_neg (by decide)]
  rcases h with h | h
  · unfold lookF at h
    rw [if_neg h1] at h
    by_cases h2 : t.text = kStop
    · rw [if_pos h2] at h; cases h
    rw [if_neg h2] at h ⊢
    by_cases h3 : t.text = kPath
    · rw [if_pos h3] at h; cases h
    rw [if_neg h3] at h ⊢
    by_cases h4 : t.text = kDoor
    · rw [if_pos h4] at h; cases h
    rw [if_neg h4] at h ⊢
    by_cases h5 : t.text = kRoute
    · rw [if_pos h5] at h; cases h
    rw [if_neg h5] at h ⊢
    by_cases h6 : t.text = kTrip
    · rw [if_pos h6] at h; cases h
    rw [if_neg h6] at h ⊢
    by_cases h7 : t.text = kHazard
    · rw [if_pos h7] at h; cases h
    rw [if_neg h7]
  · simp [h1] at h
/-- whatever reads a line that the map tells -/
theorem line_any {w : World} {B : Nat} {toks ts : List Tok} {x : SheetM} {first : Tok} {isF : Bool} {f : Nat} (hl : lookF first.text = some f) (hF : isF = decide (first.text = kHorizon)) (h : SRdr w B toks x first ts) (he : EndL ts) :
    Calls Tryz.prog f #[.pointer (some ⟨B, 0, none⟩)] w (LPost w B toks first (stepM isF x first ts)) := by
  subst hF
  unfold lookF at hl
  unfold stepM
  by_cases h1 : first.text = kHorizon
  · rw [if_pos h1] at hl
    injection hl with hl; subst hl
    rw [if_pos h1, decide_eq_true h1, if_pos rfl]; exact horizon_any h he
  rw [if_neg h1] at hl
  rw [if_neg h1, decide_eq_false h1, if_neg (by decide)]
  by_cases h2 : first.text = kStop
  · rw [if_pos h2] at hl; injection hl with hl; subst hl
    rw [if_pos h2]; exact stop_any h he
  rw [if_neg h2] at hl ⊢
  by_cases h3 : first.text = kPath
  · rw [if_pos h3] at hl; injection hl with hl; subst hl
    rw [if_pos h3]; exact path_any h he
  rw [if_neg h3] at hl ⊢
  by_cases h4 : first.text = kDoor
  · rw [if_pos h4] at hl; injection hl with hl; subst hl
    rw [if_pos h4]; exact door_any h he
  rw [if_neg h4] at hl ⊢
  by_cases h5 : first.text = kRoute
  · rw [if_pos h5] at hl; injection hl with hl; subst hl
    rw [if_pos h5]; exact route_any h he
  rw [if_neg h5] at hl ⊢
  by_cases h6 : first.text = kTrip
  · rw [if_pos h6] at hl; injection hl with hl; subst hl
    rw [if_pos h6]; exact trip_any h he
  rw [if_neg h6] at hl ⊢
  by_cases h7 : first.text = kHazard
  · rw [if_pos h7] at hl; injection hl with hl; subst hl
    rw [if_pos h7]; exact hazard_any h he
  rw [if_neg h7] at hl; cases hl
theorem look_ne {s : List UInt8} {f : Nat} (h : lookF s = some f) : s ≠ [] := by rintro rfl; rw [show lookF [] = none by decide] at h; cases h
/-- what all lines leave -/
def RunPost (w : World) (B : Nat) (toks : List Tok) : PR SheetM → Ending → World → Prop
  | .ok x _, e, w' => e = .returned (.tuple #[]) ∧ (∃ first r, SRdr w' B toks x first r) ∧ Up B w w'
  | .bad er l c, e, w' => e = .panicked (gave er l c) ∧ Up B w w'
structure RunSt (w : World) (B M : Nat) (toks : List Tok) (R : PR SheetM) (k : Nat) (v : Value) (wr : World) : Prop where
  ex : ∃ x first ts isF n, SRdr wr B toks x first ts ∧ (ts = [] ∨ EndL ts) ∧ isF = decide (ts.length = toks.length) ∧ runF n isF x ts = R ∧ ts.length ≤ n ∧ k = ts.length ∧ (∃ pre, toks = pre ++ ts)
  map_ : wr.heap[M]? = some (Obj.map mapEs 7)
  up : Up B w wr
theorem srdr_drew {w : World} {B : Nat} {toks ts : List Tok} {x : SheetM} {first : Tok} (h : SRdr w B toks x first ts) : SRdr w.drew B toks x first ts := by
  obtain ⟨v1, v2, v3, v4, v5, v6, hc, hs⟩ := h
  exact ⟨v1, v2, v3, v4, v5, v6, hc.drew, hs.ch (X := fun _ => False) (.of_below (below_drew (Below.refl _ _))) fun _ _ => id⟩
theorem Cur.first {w : World} {B : Nat} {toks ts : List Tok} {x : SheetM} {f0 t : Tok} {v1 v2 v3 v4 v5 v6 : Value} (h : Cur w B toks (fc f0 ++ shq x v1 v2 v3 v4 v5 v6) ts) :
    Cur (((((w.setCell ⟨B, 2, none⟩ (.int .i64 t.kind)).setCell ⟨B, 3, none⟩ (.string ⟨t.text.toArray⟩)).setCell ⟨B, 4, none⟩ (.int .i64 t.num)).setCell ⟨B, 5, none⟩ (.int .i64 t.line)).setCell ⟨B, 6, none⟩ (.int .i64 t.col)) B toks (fc t ++ shq x v1 v2 v3 v4 v5 v6) ts :=
  ((((h.store 0 _).store 1 _).store 2 _).store 3 _).store 4 _
theorem ch_set5 (w : World) (n : Nat) (u0 u1 u2 u3 u4 : Value) : Ch (· = n) w (((((w.setCell ⟨n, 2, none⟩ u0).setCell ⟨n, 3, none⟩ u1).setCell ⟨n, 4, none⟩ u2).setCell ⟨n, 5, none⟩ u3).setCell ⟨n, 6, none⟩ u4) :=
  ((((ch_set w n 2 u0).trans (ch_set _ n 3 u1)).trans (ch_set _ n 4 u2)).trans (ch_set _ n 5 u3)).trans (ch_set _ n 6 u4)
theorem Cur.adv {w : World} {B at_ : Nat} {toks r : List Tok} {q : List Value} {t : Tok} (h : Cur w B toks q (t :: r)) (hc : w.cell? ⟨B, 1, none⟩ = some (.int .i64 at_)) : Cur (w.setCell ⟨B, 1, none⟩ (.int .i64 ((at_ : Int) + 1))) B toks q r := by
  have hl := h.lt
  obtain ⟨A, c, a', hb, h1, h2, h3, h4, h5⟩ := h
  have e : w.cell? ⟨B, 1, none⟩ = some (.int .i64 a') := hb.cell 1
  rw [hc] at e
  injection e with e; injection e with _ e
  have e : at_ = a' := by omega
  subst e
  refine cur_on (c := c) h1 h2 h3 h4 h5 hl (fun b hb' => Below.heap_setCell _ _ _ _ (by show b ≠ B; omega)) ?_
  have := hb.set_ 1 (.int .i64 ((at_ : Int) + 1))
  simpa using this
theorem look_f {s : List UInt8} {f : Nat} (h : lookF s = some f) : f = 87 ∨ f = 88 ∨ f = 89 ∨ f = 90 ∨ f = 91 ∨ f = 92 ∨ f = 93 := by
  unfold lookF at h
  split at h
  · injection h with h; subst h; simp
  split at h
  · injection h with h; subst h; simp
  split at h
  · injection h with h; subst h; simp
  split at h
  · injection h with h; subst h; simp
  split at h
  · injection h with h; subst h; simp
  split at h
  · injection h with h; subst h; simp
  split at h
  · injection h with h; subst h; simp
  cases h
theorem hor_eq (tx : List UInt8) : (tx == [104, 111, 114, 105, 122, 111, 110]) = decide (tx = kHorizon) := by
  rw [Bool.eq_iff_iff, beq_iff_eq, decide_eq_true_iff]; rfl
theorem run_next {w w' : World} {B M n : Nat} {toks r r' pre : List Tok} {R : PR SheetM} {x x' : SheetM} {t : Tok} {v : Value} {isF : Bool} (hS : SRdr w' B toks x' t r') (hE : EndL toks) (hpre : toks = pre ++ t :: r) (hlt : r'.length < r.length) (hn : (t :: r).length ≤ n + 1)
    (hR : (stepM isF x t r).bind (fun x' r' => runF n false x' r') = R) (hst : stepM isF x t r = .ok x' r') (hm : w'.heap[M]? = some (Obj.map mapEs 7)) (hu : Up B w w') : RunSt w B M toks R r'.length v w' := by
  have hS0 := hS
  obtain ⟨_, _, _, _, _, _, ⟨A, c, a, hb, h1, _⟩, _⟩ := hS
  have hl : toks.length = pre.length + r.length + 1 := by rw [hpre]; simp; omega
  refine ⟨⟨x', t, r', false, n, hS0, ?_, ?_, ?_, ?_, rfl, toks.take a, ?_⟩, hm, hu⟩
  · rw [← h1]; exact hE.drop a
  · rw [decide_eq_false (by omega)]
  · rw [hst, bind_ok] at hR; exact hR
  · simp at hn; omega
  · rw [← h1]; exact (List.take_append_drop a toks).symm
set_option maxRecDepth 100000 in
set_option maxHeartbeats 4000000 in
theorem run_any {w : World} {B : Nat} {toks : List Tok} (h : SRdr w B toks emptyM ⟨0, [], 0, 0, 0⟩ toks) (hE : EndL toks) (hT : EndT toks) :
    Calls Tryz.prog 26 #[.pointer (some ⟨B, 0, none⟩)] w (RunPost w B toks (parseM toks)) := by
  obtain ⟨R, hR⟩ : ∃ R, R = parseM toks := ⟨_, rfl⟩
  have hR2 : runF toks.length true emptyM toks = R := by rw [hR]; unfold parseM; rw [if_neg hE.ne]
  rw [← hR]
  clear hR
  have hc0 := h
  obtain ⟨v1, v2, v3, v4, v5, v6, hc, hs⟩ := h
  have hlt := hc.lt
  obtain ⟨A, c, at_, hb, h1, h2, h3, h4, h5⟩ := hc
  have b0 : w.cell? ⟨B, 0, none⟩ = some (.slice A toks.length c) := hb.cell 0
  obtain ⟨N, hN⟩ : ∃ N, N = toks.length := ⟨_, rfl⟩
  have hN0 : 1 ≤ N := by rw [hN]; exact List.length_pos_iff.2 hE.ne
  rw [← hN] at b0
  have hne : ((N : Int) == 0) = false := beq_eq_false_iff_ne.2 (by omega)
  have HN := Lib.hid hN
  have HI0 := Lib.hid hc0
  have HT := Lib.hid hT
  have HE := Lib.hid hE
  have HR2 := Lib.hid hR2
  clear hc0 hs hb h1 h2 h3 h4 h5 hN hT hE hR2
  go_enter Tryz.func26, Tryz.ntmps26
  go_wp2_with (go_at_call 58; refine (byWord_any _).mono ?_; rintro e w1 ⟨rfl, hm, hb1⟩; have HM := Lib.hid hm; have HB1 := Lib.hid hb1; clear hm hb1)
  obtain ⟨M, hM⟩ : ∃ M, M = w.heap.size := ⟨_, rfl⟩
  rw [← hM]
  have HI : Hid (RunSt w B M toks R toks.length (.bool true) w1) := Lib.hid (by
    obtain ⟨v1, v2, v3, v4, v5, v6, hc, hs⟩ := HI0.out
    have hch : Ch (· = B) w w1 := .of_below HB1.out
    refine ⟨⟨emptyM, _, toks, true, toks.length, ⟨v1, v2, v3, v4, v5, v6, hc.after HB1.out, hs.ch hch (fun k hk e => by omega)⟩, .inr HE.out, by simp, HR2.out, Nat.le_refl _, rfl, [], rfl⟩, by rw [hM]; exact HM.out, ?_⟩
    exact ch_up (Cur.blk hc) hch)
  have hBM : B < M := by omega
  have HMM := Lib.hid hM
  clear HI0 HM HB1 HR2 b0 hne hM
  go_loopg [5] toks.length (fun k v wr => RunSt w B M toks R k v wr)
  case atStart => exact ⟨HI.out.ex, HI.out.map_, HI.out.up⟩
  case round =>
    obtain ⟨⟨x, first, ts, isF, n, hS, hee, hF, hR, hn, hk, pre, hpre⟩, hm, hu⟩ := hrel
    have hS0 := hS
    obtain ⟨v1, v2, v3, v4, v5, v6, hc, hs⟩ := hS
    have HC := Lib.hid hc
    have HS := Lib.hid hs
    have HU := Lib.hid hu
    have HM := Lib.hid hm
    have hBw := hc.lt
    obtain ⟨A, c, at_, hb, h1, h2, h3, h4, h5⟩ := hc
    have b0 : wr.cell? ⟨B, 0, none⟩ = some (.slice A toks.length c) := hb.cell 0
    have b1 : wr.cell? ⟨B, 1, none⟩ = some (.int .i64 at_) := hb.cell 1
    rw [← HN.out] at b0 h2 h3
    cases ts with
    | nil =>
      have hat : ¬ (at_ : Int) < (N : Int) := by
        have := congrArg List.length h1; rw [List.length_drop, ← HN.out] at this; simp at this; omega
      have hRR : R = .ok x [] := by rw [← hR]; cases n <;> rfl
      have HRR := Lib.hid hRR
      have HS0 := Lib.hid hS0
      clear hS0 hs hm hu h1 h2 h3 h4 h5 hee hF hR hn hk hpre hb hRR
      go_wp2
      go_region
      all_goals
        go_wp2
        refine bodyPost_ret (results_none rfl _ _ _) rfl ?_
        rw [HRR.out]
        exact ⟨rfl, ⟨first, [], srdr_drew HS0.out⟩, ⟨below_drew HU.out.below, HU.out.maps⟩⟩
    | cons t r =>
      have ht : toks[at_]? = some t := by
        have := congrArg (·[0]?) h1
        simpa using this
      have hat : (at_ : Int) < (N : Int) := by have := (List.getElem?_eq_some_iff.1 ht).1; rw [← HN.out] at this; omega
      obtain ⟨ad, rfl, hSS, hTK⟩ := rd_tok h5 ht
      have hEr : t.text ≠ [] → EndL r := fun hne => by
        rcases hee with e | e
        · cases e
        · refine e.tail fun h4 => hne (HT.out t (List.mem_of_getElem? ht) h4)
      obtain ⟨n, rfl⟩ : ∃ m, n = m + 1 := ⟨n - 1, by simp at hn; omega⟩
      have hRS : (stepM isF x t r).bind (fun x' r' => runF n false x' r') = R := hR
      have hF2 : isF = decide (at_ = 0) := by
        rw [hF]
        have := congrArg List.length h1
        rw [List.length_drop] at this
        have h3' := (List.getElem?_eq_some_iff.1 ht).1
        simp only [decide_eq_decide]
        omega
      have hz : ((at_ : Int) == 0) = isF := by
        rw [hF2, Bool.eq_iff_iff, beq_iff_eq, decide_eq_true_iff]; omega
      have HER := Lib.hid hEr
      have HBB := Lib.hid hb
      have HRS := Lib.hid hRS
      have HFI := Lib.hid hF
      have HK := Lib.hid hk
      have HNN := Lib.hid hn
      have HPRE := Lib.hid hpre
      have HC1 : Hid (Cur wr B toks (fc first ++ shq x v1 v2 v3 v4 v5 v6) (t :: r)) := HC
      obtain ⟨tk, tx, tn, tl, tcl⟩ := t
      obtain ⟨a0, a1, a2, a3, a4⟩ := hTK
      dsimp only at a0 a1 a2 a3 a4
      have g2 : wr.cell? ⟨B, 2, none⟩ = some (.int .i64 first.kind) := HC.out.cell 0
      have g3 : wr.cell? ⟨B, 3, none⟩ = some (.string ⟨first.text.toArray⟩) := HC.out.cell 1
      have g4 : wr.cell? ⟨B, 4, none⟩ = some (.int .i64 first.num) := HC.out.cell 2
      have g5 : wr.cell? ⟨B, 5, none⟩ = some (.int .i64 first.line) := HC.out.cell 3
      have g6 : wr.cell? ⟨B, 6, none⟩ = some (.int .i64 first.col) := HC.out.cell 4
      have gf := HC.out.frozen
      have hi : (at_ : Int) < (N : Int) := hat
      have h3N := h3
      clear hS0 hs hm hu h1 h2 h3 h4 h5 hee hF hR hn hk hpre hb hEr hRS hF2 ht
      go_wp2
      go_quiet (fail)
      go_upto_region 4 with (fail)
      refine wp_region_still_tail 13 (by kernel_rfl) (by kernel_rfl) ?_
      simp only [List.take_succ_cons, List.take_zero, List.drop_succ_cons, List.drop_zero]
      change wpStill _ _ (World.drewN wr (nq + 1)) (fun a' => wpList _ _ _ _ a' (World.drewN wr (nq + 1))) _ _
      have HW : Hid (Ch (fun _ => False) wr (World.drewN wr (nq + 1))) := Lib.hid ((Ch.refl _ _).drewN _)
      generalize hWW : World.drewN wr (nq + 1) = W at HW ⊢
      have hcell : ∀ p, W.cell? p = wr.cell? p := fun p => by rw [← hWW]; rfl
      have hfroz : ∀ p, W.frozen? p = wr.frozen? p := fun p => by rw [← hWW]; rfl
      rw [← hcell] at b0 b1 a0 a1 a2 a3 a4 g2 g3 g4 g5 g6
      have gf' : ∀ i, W.frozen? ⟨B, i, none⟩ = false := fun i => by rw [hfroz]; exact gf i
      clear gf hcell hfroz hWW
      iterate 13 still_step
      refine wpStill_nil ?_
      go_upto_region 5 with (fail)
      have hS2 := HS.out.ch ((HW.out.mono fun _ _ h => h.elim : Ch (· = B) wr W).trans (ch_set5 W B (.int .i64 tk) (.string ⟨tx.toArray⟩) (.int .i64 tn) (.int .i64 tl) (.int .i64 tcl))) (fun k hk e => by omega)
      have hC2 := Cur.first (t := ⟨tk, tx, tn, tl, tcl⟩) (HC1.out.ch HW.out fun _ _ => id)
      have hch2 := (HW.out.mono fun _ _ h => h.elim : Ch (· = B) wr W).trans (ch_set5 W B (.int .i64 tk) (.string ⟨tx.toArray⟩) (.int .i64 tn) (.int .i64 tl) (.int .i64 tcl))
      have c1 : (((((W.setCell ⟨B, 2, none⟩ (.int .i64 tk)).setCell ⟨B, 3, none⟩ (.string ⟨tx.toArray⟩)).setCell ⟨B, 4, none⟩ (.int .i64 tn)).setCell ⟨B, 5, none⟩ (.int .i64 tl)).setCell ⟨B, 6, none⟩ (.int .i64 tcl)).cell? ⟨B, 1, none⟩ = some (.int .i64 at_) :=
        (((((Blk.set_ (HW.out.blk HBB.out id) 2 _).set_ 3 _).set_ 4 _).set_ 5 _).set_ 6 _).cell 1
      generalize ((((W.setCell ⟨B, 2, none⟩ (.int .i64 tk)).setCell ⟨B, 3, none⟩ (.string ⟨tx.toArray⟩)).setCell ⟨B, 4, none⟩ (.int .i64 tn)).setCell ⟨B, 5, none⟩ (.int .i64 tl)).setCell ⟨B, 6, none⟩ (.int .i64 tcl) = W2 at hS2 hC2 hch2 c1 ⊢
      have hlk := look_any W2 M tx ((hch2.block M (Array.getElem?_eq_some_iff.1 HM.out).1 (by omega)).trans HM.out)
      have hU2 : Up B w W2 := HU.out.trans (ch_up (Cur.blk HC1.out) hch2)
      have hm2 : W2.heap[M]? = some (Obj.map mapEs 7) := (hch2.block M (Array.getElem?_eq_some_iff.1 HM.out).1 (by omega)).trans HM.out
      have c3 : W2.cell? ⟨B, 3, none⟩ = some (.string ⟨tx.toArray⟩) := hC2.cell 1
      have HC2 := Lib.hid hC2
      have HS2 := Lib.hid hS2
      have HU2 := Lib.hid hU2
      have HM2 := Lib.hid hm2
      clear hS2 hC2 hch2 hU2 hm2 b0 b1 a0 a1 a2 a3 a4 g2 g3 g4 g5 g6 gf' HW HS HC HC1 HU HM
      cases hlf : lookF tx with
      | none =>
        rw [hlf] at hlk
        have hb := look_step (f := isF) (x := x) (t := ⟨tk, tx, tn, tl, tcl⟩) (r := r) (.inl hlf)
        have HRB : Hid (R = .bad 7 tl tcl) := Lib.hid (by rw [← HRS.out, hb, bind_bad])
        have HREF := Lib.hid (fun w' => refuse_any (.pointer (some ⟨B, 0, none⟩)) 7 ⟨tk, tx, tn, tl, tcl⟩ w')
        obtain ⟨f0, f1, f2, f3, f4⟩ := first_cells HC2.out
        dsimp only at f0 f1 f2 f3 f4
        unfold lookV at hlk
        clear hlf hb
        go_wp2_with (go_at_call 57; refine (HREF.out _).mono ?_; rintro e w9 ⟨rfl, hb9⟩)
        refine ⟨rfl, ?_⟩
        rw [HRB.out]
        exact ⟨rfl, up_below HU2.out (by have := HU2.out.below.size; omega) hb9⟩
      | some f =>
        rw [hlf] at hlk
        unfold lookV at hlk
        dsimp only at hlk
        have HREF := Lib.hid (fun w' => refuse_any (.pointer (some ⟨B, 0, none⟩)) 7 ⟨tk, tx, tn, tl, tcl⟩ w')
        by_cases hFF : isF = decide (tx = kHorizon)
        · have hq : (isF == (tx == [104, 111, 114, 105, 122, 111, 110])) = true := by
            rw [beq_iff_eq, hFF, hor_eq]
          have hEr2 := HER.out (look_ne hlf)
          have f1 : W2.frozen? ⟨B, 1, none⟩ = false := HC2.out.frozen 1
          have hC3 := HC2.out.adv c1
          have hS3 := HS2.out.ch (ch_set W2 B 1 (.int .i64 ((at_ : Int) + 1))) (fun k hk e => by omega)
          have hU3 : Up B W2 (W2.setCell ⟨B, 1, none⟩ (.int .i64 ((at_ : Int) + 1))) := ch_up (Cur.blk HC2.out) (ch_set W2 B 1 (.int .i64 ((at_ : Int) + 1)))
          have HLN := Lib.hid (line_any (isF := isF) (first := ⟨tk, tx, tn, tl, tcl⟩) hlf hFF ⟨v1, v2, v3, v4, v5, v6, hC3, hS3⟩ hEr2)
          have HU3 := Lib.hid (HU2.out.trans hU3)
          have HM3 := Lib.hid (hU3.maps M _ _ HM2.out)
          have HER2 := Lib.hid hEr2
          have HLF := Lib.hid hlf
          have hfs := look_f hlf
          clear hC3 hS3 hU3 hEr2 hlf hFF
          cases hst : stepM isF x ⟨tk, tx, tn, tl, tcl⟩ r with
          | bad er l c =>
            rw [hst] at HLN
            have HRB : Hid (R = .bad er l c) := Lib.hid (by rw [← HRS.out, hst, bind_bad])
            clear hst
            rcases hfs with rfl | rfl | rfl | rfl | rfl | rfl | rfl
            all_goals
              go_wp2_with (first | (go_at_call 87; refine HLN.out.mono ?_; rintro e w9 ⟨rfl, hu9⟩) | (go_at_call 88; refine HLN.out.mono ?_; rintro e w9 ⟨rfl, hu9⟩) | (go_at_call 89; refine HLN.out.mono ?_; rintro e w9 ⟨rfl, hu9⟩) | (go_at_call 90; refine HLN.out.mono ?_; rintro e w9 ⟨rfl, hu9⟩) | (go_at_call 91; refine HLN.out.mono ?_; rintro e w9 ⟨rfl, hu9⟩) | (go_at_call 92; refine HLN.out.mono ?_; rintro e w9 ⟨rfl, hu9⟩) | (go_at_call 93; refine HLN.out.mono ?_; rintro e w9 ⟨rfl, hu9⟩))
              refine ⟨rfl, ?_⟩
              rw [HRB.out]
              exact ⟨rfl, HU3.out.trans hu9⟩
          | ok x' r' =>
            rw [hst] at HLN
            have HST := Lib.hid hst
            have HLT := Lib.hid (step_lt HER2.out hst)
            clear hst
            rcases hfs with rfl | rfl | rfl | rfl | rfl | rfl | rfl
            all_goals
              go_wp2_with (first | (go_at_call 87; refine HLN.out.mono ?_; rintro e w9 ⟨rfl, hs9, hu9⟩; have HS9 := Lib.hid hs9; have HU9 := Lib.hid hu9; clear hs9 hu9) | (go_at_call 88; refine HLN.out.mono ?_; rintro e w9 ⟨rfl, hs9, hu9⟩; have HS9 := Lib.hid hs9; have HU9 := Lib.hid hu9; clear hs9 hu9) | (go_at_call 89; refine HLN.out.mono ?_; rintro e w9 ⟨rfl, hs9, hu9⟩; have HS9 := Lib.hid hs9; have HU9 := Lib.hid hu9; clear hs9 hu9) | (go_at_call 90; refine HLN.out.mono ?_; rintro e w9 ⟨rfl, hs9, hu9⟩; have HS9 := Lib.hid hs9; have HU9 := Lib.hid hu9; clear hs9 hu9) | (go_at_call 91; refine HLN.out.mono ?_; rintro e w9 ⟨rfl, hs9, hu9⟩; have HS9 := Lib.hid hs9; have HU9 := Lib.hid hu9; clear hs9 hu9) | (go_at_call 92; refine HLN.out.mono ?_; rintro e w9 ⟨rfl, hs9, hu9⟩; have HS9 := Lib.hid hs9; have HU9 := Lib.hid hu9; clear hs9 hu9) | (go_at_call 93; refine HLN.out.mono ?_; rintro e w9 ⟨rfl, hs9, hu9⟩; have HS9 := Lib.hid hs9; have HU9 := Lib.hid hu9; clear hs9 hu9))
              go_roundg r'.length
              case rel => exact run_next HS9.out HE.out HPRE.out HLT.out HNN.out HRS.out HST.out (HU9.out.maps M _ _ HM3.out) (HU3.out.trans HU9.out)
              case measure => have h1 := HLT.out; have h2 := HK.out; simp at h2; omega
        · have hb := look_step (f := isF) (x := x) (t := ⟨tk, tx, tn, tl, tcl⟩) (r := r) (.inr hFF)
          have HRB : Hid (R = .bad 7 tl tcl) := Lib.hid (by rw [← HRS.out, hb, bind_bad])
          obtain ⟨f0, f1, f2, f3, f4⟩ := first_cells HC2.out
          dsimp only at f0 f1 f2 f3 f4
          have hq : (isF == (tx == [104, 111, 114, 105, 122, 111, 110])) = false := by
            rw [beq_eq_false_iff_ne]; intro e; exact hFF (by rw [e, hor_eq])
          clear hlf hb hFF
          go_wp2_with (go_at_call 57; refine (HREF.out _).mono ?_; rintro e w9 ⟨rfl, hb9⟩)
          refine ⟨rfl, ?_⟩
          rw [HRB.out]
          exact ⟨rfl, up_below HU2.out (by have := HU2.out.below.size; omega) hb9⟩
end Go.Proofs.YteonmabfhilcfaaGreatDoor.Sh
