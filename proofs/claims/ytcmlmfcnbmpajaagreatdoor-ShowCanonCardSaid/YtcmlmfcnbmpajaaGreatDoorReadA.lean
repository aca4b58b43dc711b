/- The document's reader of tokens: now, fail, take, name, num, key, is, good, after, proved by walking their text. · The document's reader of tokens: take, name, num, key, is, good, after, proved by walking their text. · The rows of the document's reader behind an append to one of them. · The document's reader: times, and what a line puts into its rows, proved by walking their text. -/
import Derived.Test.YtcmlmfcnbmpajaaGreatDoorRefAny
import Derived.Test.YtcmlmfcnbmpajaaGreatDoorKitOwnT
namespace Go.Proofs.YtcmlmfcnbmpajaaGreatDoor.Sw
open Go.ChangeShapes Go.WideShapes Go.ChangeAt Go.RowKit
open Lx Sh Tk
set_option linter.unusedVariables false
set_option linter.unusedSimpArgs false

/-- the reader at object B; q: its sheet's cells; st: what is to come, or a fault -/
def RCur (w : World) (B : Nat) (toks : List Tok) (q : List Value) (st : St) : Prop :=
  ∃ (A : Option Addr) (c at_ : Nat) (f0 f1 f2 : Int), Blk w B 103 (.slice A toks.length c :: .int .i64 at_ :: .int .i64 f0 :: .int .i64 f1 :: .int .i64 f2 :: q) ∧ at_ ≤ toks.length ∧ toks.length ≤ 131072 ∧ Rd w (· < B) A (tc toks) ∧
    match st with
    | none => (f0 == 0) = false
    | some ts => f0 = 0 ∧ toks.drop at_ = ts
theorem RCur.ch {w w' : World} {B : Nat} {toks : List Tok} {st : St} {q : List Value} {X : Nat → Prop} (h : RCur w B toks q st) (hc : Ch X w w') (hx : ∀ k, k ≤ B → ¬ X k) : RCur w' B toks q st := by
  obtain ⟨A, c, at_, f0, f1, f2, hb, h1, h2, h3, h4⟩ := h
  exact ⟨A, c, at_, f0, f1, f2, hc.blk hb (hx B (Nat.le_refl _)), h1, h2, hc.rd h3 fun b hb' => ⟨Nat.lt_trans hb' hb.lt, hx b (Nat.le_of_lt hb')⟩, h4⟩
theorem RCur.lt {w : World} {B : Nat} {toks : List Tok} {st : St} {q : List Value} (h : RCur w B toks q st) : B < w.heap.size := by obtain ⟨_, _, _, _, _, _, h, _⟩ := h; exact h.lt
theorem RCur.after {w w' : World} {B : Nat} {toks : List Tok} {st : St} {q : List Value} (h : RCur w B toks q st) (hb : Below w.heap.size w w') : RCur w' B toks q st :=
  h.ch (X := fun _ => False) (.of_below hb) fun _ _ => id
theorem RCur.cell {w : World} {B : Nat} {toks : List Tok} {st : St} {q : List Value} (h : RCur w B toks q st) (i : Nat) : w.cell? ⟨B, i + 5, none⟩ = q[i]? := by
  obtain ⟨A, c, at_, f0, f1, f2, hb, _⟩ := h
  rw [hb.cell]; rfl
theorem RCur.frozen {w : World} {B : Nat} {toks : List Tok} {st : St} {q : List Value} (h : RCur w B toks q st) (i : Nat) : w.frozen? ⟨B, i, none⟩ = false := by
  obtain ⟨A, c, at_, f0, f1, f2, hb, _⟩ := h
  exact hb.frozen i
theorem RCur.set {w : World} {B : Nat} {toks : List Tok} {st : St} {q : List Value} (h : RCur w B toks q st) (i : Nat) (u : Value) : RCur (w.setCell ⟨B, i + 5, none⟩ u) B toks (q.set i u) st := by
  obtain ⟨A, c, at_, f0, f1, f2, hb, h1, h2, h3, h4⟩ := h
  refine ⟨A, c, at_, f0, f1, f2, hb.set_ (i + 5) u, h1, h2, h3.keep fun b hb' => Below.heap_setCell _ _ _ _ (by exact Nat.ne_of_lt hb'), h4⟩
theorem now_res {W : World} {n0 : Nat} {a0 a1 a2 a3 a4 : Value} {tmps : Array Value} (h2 : tmps[2]? = some (.pointer (some ⟨n0, 0, none⟩))) (k0 : Blk W n0 107 [a0, a1, a2, a3, a4]) :
    (results Tryz.f90 tmps).run Tryz.prog W = .ok (.agg #[a0, a1, a2, a3, a4]) W := by
  have x0 : W.cell? ⟨n0, 0, none⟩ = some a0 := k0.cell 0
  have x1 : W.cell? ⟨n0, 1, none⟩ = some a1 := k0.cell 1
  have x2 : W.cell? ⟨n0, 2, none⟩ = some a2 := k0.cell 2
  have x3 : W.cell? ⟨n0, 3, none⟩ = some a3 := k0.cell 3
  have x4 : W.cell? ⟨n0, 4, none⟩ = some a4 := k0.cell 4
  simp [results, Tryz.results90, go_sem, h2, x0, x1, x2, x3, x4]
theorem take_res {W : World} {n0 : Nat} {a0 a1 a2 a3 a4 : Value} {tmps : Array Value} (h2 : tmps[6]? = some (.pointer (some ⟨n0, 0, none⟩))) (k0 : Blk W n0 107 [a0, a1, a2, a3, a4]) :
    (results Tryz.f60 tmps).run Tryz.prog W = .ok (.agg #[a0, a1, a2, a3, a4]) W := by
  have x0 : W.cell? ⟨n0, 0, none⟩ = some a0 := k0.cell 0
  have x1 : W.cell? ⟨n0, 1, none⟩ = some a1 := k0.cell 1
  have x2 : W.cell? ⟨n0, 2, none⟩ = some a2 := k0.cell 2
  have x3 : W.cell? ⟨n0, 3, none⟩ = some a3 := k0.cell 3
  have x4 : W.cell? ⟨n0, 4, none⟩ = some a4 := k0.cell 4
  simp [results, Tryz.results60, go_sem, h2, x0, x1, x2, x3, x4]
theorem ch_fault (w : World) (n : Nat) (u0 u1 u2 : Value) : Ch (· = n) w (((w.setCell ⟨n, 2, none⟩ u0).setCell ⟨n, 3, none⟩ u1).setCell ⟨n, 4, none⟩ u2) := ((ch_set w n 2 u0).trans (ch_set _ n 3 u1)).trans (ch_set _ n 4 u2)
def NowPost (w : World) (st : St) (e : Ending) (w' : World) : Prop := ∃ t : Tok, e = .returned (.agg #[.int .i64 t.kind, .string ⟨t.text.toArray⟩, .int .i64 t.num, .int .i64 t.line, .int .i64 t.col]) ∧ (∀ ts, st = some ts → t = nowL ts) ∧ Below w.heap.size w w'
set_option maxRecDepth 100000 in
set_option maxHeartbeats 2000000 in
theorem now_any {w : World} {B : Nat} {toks : List Tok} {st : St} {q : List Value} (h : RCur w B toks q st) :
    Calls Tryz.prog 90 #[.pointer (some ⟨B, 0, none⟩)] w (NowPost w st) := by
  obtain ⟨A, c, at_, f0, f1, f2, hb, h1, h2, h3, h4⟩ := h
  have HB := Lib.hid hb
  have H4 := Lib.hid h4
  obtain ⟨n0, hn0⟩ : ∃ n0, n0 = w.heap.size := ⟨_, rfl⟩
  have HN0 := Lib.hid hn0
  have KB := Lib.hid (Blk.new w 107 [.int .i64 0, .string ⟨#[]⟩, .int .i64 0, .int .i64 0, .int .i64 0])
  have HB0 := Lib.hid (one_box w (.cells #[.int .i64 0, .string ⟨#[]⟩, .int .i64 0, .int .i64 0, .int .i64 0] 107))
  have KR := Lib.hid (hb.after HB0.out)
  have HR := Lib.hid (h3.below (HB0.out.mono (Nat.le_of_lt hb.lt)))
  have hBn : B < n0 := by rw [hn0]; exact hb.lt
  clear hb h4 h3
  go_enter Tryz.func90, Tryz.ntmps90
  go_upto_region 1 with (fail)
  rw [← hn0] at KB ⊢
  clear hn0
  dsimp only [List.toArray] at KB
  generalize w.alloc (.cells #[.int .i64 0, .string ⟨#[]⟩, .int .i64 0, .int .i64 0, .int .i64 0] 107) = W0 at KB HB0 KR HR ⊢
  have x0 : W0.cell? ⟨n0, 0, none⟩ = some (.int .i64 0) := KB.out.cell 0
  have x1 : W0.cell? ⟨n0, 1, none⟩ = some (.string ⟨#[]⟩) := KB.out.cell 1
  have x2 : W0.cell? ⟨n0, 2, none⟩ = some (.int .i64 0) := KB.out.cell 2
  have x3 : W0.cell? ⟨n0, 3, none⟩ = some (.int .i64 0) := KB.out.cell 3
  have x4 : W0.cell? ⟨n0, 4, none⟩ = some (.int .i64 0) := KB.out.cell 4
  have xf := KB.out.frozen
  have b0 : W0.cell? ⟨B, 0, none⟩ = some (.slice A toks.length c) := KR.out.cell 0
  have b1 : W0.cell? ⟨B, 1, none⟩ = some (.int .i64 at_) := KR.out.cell 1
  obtain ⟨N, hN⟩ : ∃ N, N = toks.length := ⟨_, rfl⟩
  rw [← hN] at b0 h1 h2
  have HNN := Lib.hid hN
  clear hN
  by_cases hlt : at_ < N
  · have gl : (at_ : Int) < (N : Int) := by omega
    obtain ⟨t, ht⟩ : ∃ t, toks[at_]? = some t := ⟨_, List.getElem?_eq_getElem (by rw [← HNN.out]; exact hlt)⟩
    obtain ⟨ad, rfl, hS, hT⟩ := rd_tok HR.out ht
    have HTT := Lib.hid ht
    have hadn : ad.block ≠ n0 := by omega
    obtain ⟨c0, c1, c2, c3, c4⟩ := hT
    obtain ⟨tk, tt, tn, tl, tc_⟩ := t
    clear ht hS
    go_wp2
    go_region
    go_wp2
    go_region
    all_goals
      go_wp2
      refine bodyPost_ret (now_res rfl (blk_drew (set5 KB.out _ _ _ _ _))) rfl ?_
      refine ⟨⟨tk, tt, tn, tl, tc_⟩, rfl, ?_, below_drew (below_drew (HB0.out.trans ((ch_tok W0 n0 _ _ _ _ _).below HB0.out.size fun k hk => by have := HN0.out; omega)))⟩
      rintro ts rfl
      have h5 := H4.out.2
      have h6 := congrArg (·[0]?) h5
      simp only [List.getElem?_drop, Nat.add_zero, HTT.out] at h6
      cases ts with
      | nil => cases h6
      | cons u r => simp at h6; exact h6
  · have gl : ¬ (at_ : Int) < (N : Int) := by omega
    go_wp2
    go_region
    go_wp2
    refine bodyPost_ret (now_res rfl (blk_drew (set5 KB.out _ _ _ _ _))) rfl ?_
    refine ⟨endTok, rfl, ?_, below_drew (HB0.out.trans ((ch_tok W0 n0 _ _ _ _ _).below HB0.out.size fun k hk => by have := HN0.out; omega))⟩
    rintro ts rfl
    have h5 := H4.out.2
    rw [List.drop_eq_nil_of_le (by rw [← HNN.out]; omega)] at h5
    subst h5
    rfl
set_option maxRecDepth 100000 in
set_option maxHeartbeats 2000000 in
/-- a fault: the first one stays -/
theorem fail_any {w : World} {B : Nat} {toks : List Tok} {st : St} {q : List Value} (h : RCur w B toks q st) (er : Int) (he : (er == 0) = false) (t : Tok) :
    Calls Tryz.prog 91 #[.pointer (some ⟨B, 0, none⟩), .int .i64 er, .agg #[.int .i64 t.kind, .string ⟨t.text.toArray⟩, .int .i64 t.num, .int .i64 t.line, .int .i64 t.col]] w (fun e w' => e = .returned (.tuple #[]) ∧ RCur w' B toks q none ∧ Ch (· = B) w w') := by
  obtain ⟨tk, tt, tn, tl, tc_⟩ := t
  obtain ⟨A, c, at_, f0, f1, f2, hb, h1, h2, h3, h4⟩ := h
  have b2 : w.cell? ⟨B, 2, none⟩ = some (.int .i64 f0) := hb.cell 2
  have b3 : w.cell? ⟨B, 3, none⟩ = some (.int .i64 f1) := hb.cell 3
  have b4 : w.cell? ⟨B, 4, none⟩ = some (.int .i64 f2) := hb.cell 4
  have bf := hb.frozen
  have hlt := hb.lt
  have hne : B ≠ w.heap.size := by omega
  have hne2 : w.heap.size ≠ B := by omega
  have HB := Lib.hid hb
  have HR := Lib.hid h3
  cases hf : (f0 == 0) with
  | true =>
    clear hb h3 h4
    go_enter Tryz.func91, Tryz.ntmps91
    go_wp2
    go_end0
    have hc := ch_fault w B (.int .i64 er) (.int .i64 tl) (.int .i64 tc_)
    have hq := ((HB.out.set_ 2 (.int .i64 er)).set_ 3 (.int .i64 tl)).set_ 4 (.int .i64 tc_)
    refine ⟨rfl, ⟨A, c, at_, er, tl, tc_, hq.alloc _, h1, h2, (hc.rd HR.out fun b hb => ⟨by omega, by omega⟩).keep fun b hb => Below.heap_alloc _ _ _ (by simp; omega), he⟩, hc.alloc _⟩
  | false =>
    have HF := Lib.hid hf
    clear hb h3 h4
    go_enter Tryz.func91, Tryz.ntmps91
    go_wp2
    go_end0
    exact ⟨rfl, ⟨A, c, at_, f0, f1, f2, HB.out.alloc _, h1, h2, (HR.out.keep fun b hb => Below.heap_alloc _ _ _ (by omega)), HF.out⟩, (Ch.refl _ _).alloc _⟩
end Go.Proofs.YtcmlmfcnbmpajaaGreatDoor.Sw
namespace Go.Proofs.YtcmlmfcnbmpajaaGreatDoor.Sw
open Go.ChangeShapes Go.WideShapes Go.ChangeAt Go.RowKit
open Lx Sh Tk
set_option linter.unusedVariables false
set_option linter.unusedSimpArgs false
set_option maxRecDepth 100000

abbrev tkV (t : Tok) : Value := .agg #[.int .i64 t.kind, .string ⟨t.text.toArray⟩, .int .i64 t.num, .int .i64 t.line, .int .i64 t.col]
/-- what a step answers: a value, the reader behind it -/
def RPos (w : World) (B : Nat) (toks : List Tok) (q : List Value) (v : Value) (st : St) (e : Ending) (w' : World) : Prop :=
  e = .returned v ∧ RCur w' B toks q st ∧ Ch (· = B) w w'
/-- what take is about to answer -/
def TkRel (t : Tok) (k : Int) (key : List UInt8) : Bool := (t.kind == k) && (!(k == 2) || (t.text == key))
theorem take_hit {k : Int} {key : List UInt8} {ts : List Tok} (h4 : k = 4 → ts ≠ []) (h : TkRel (nowL ts) k key = true) : ∃ t r, ts = t :: r ∧ takeS k key (some ts) = (t, some r) := by
  simp only [TkRel, Bool.and_eq_true, Bool.or_eq_true, Bool.not_eq_true', beq_iff_eq, beq_eq_false_iff_ne] at h
  cases ts with
  | nil => exact absurd rfl (h4 h.1.symm)
  | cons t r =>
    refine ⟨t, r, rfl, ?_⟩
    rw [take_cons, if_pos ⟨h.1, fun e => h.2.resolve_left (fun n => n e)⟩]
theorem take_miss {k : Int} {key : List UInt8} {ts : List Tok} (h : TkRel (nowL ts) k key = false) : takeS k key (some ts) = (zTok, none) := by
  cases ts with
  | nil => rfl
  | cons t r =>
    rw [take_cons, if_neg]
    rintro ⟨h1, h2⟩
    have : TkRel t k key = true := by
      simp only [TkRel, Bool.and_eq_true, Bool.or_eq_true, Bool.not_eq_true', beq_iff_eq, beq_eq_false_iff_ne]
      refine ⟨h1, ?_⟩
      by_cases e : k = 2
      · exact .inr (h2 e)
      · exact .inl e
    rw [show nowL (t :: r) = t from rfl, this] at h
    cases h
/-- what now tells, where the reader is good -/
theorem now_good {w : World} {B : Nat} {toks ts : List Tok} {q : List Value} (h : RCur w B toks q (some ts)) (t : Tok) (ht : nowL ts = t) :
    Calls Tryz.prog 90 #[.pointer (some ⟨B, 0, none⟩)] w fun e w' => e = .returned (tkV t) ∧ Below w.heap.size w w' := by
  refine (now_any h).mono ?_
  rintro e w' ⟨t', rfl, h1, h2⟩
  have := h1 ts rfl
  rw [ht] at this
  subst this
  exact ⟨rfl, h2⟩
theorem RCur.err {w : World} {B : Nat} {toks : List Tok} {st : St} {q : List Value} (h : RCur w B toks q st) : ∃ f0 : Int, w.cell? ⟨B, 2, none⟩ = some (.int .i64 f0) ∧ (f0 == 0) = st.isSome := by
  obtain ⟨A, c, at_, f0, f1, f2, hb, _, _, _, h4⟩ := h
  refine ⟨f0, hb.cell 2, ?_⟩
  cases st with
  | none => exact h4
  | some ts => simp [h4.1]
theorem RCur.adv {w : World} {B : Nat} {toks r : List Tok} {t : Tok} {q : List Value} (h : RCur w B toks q (some (t :: r))) : ∃ at_ : Nat, at_ < 131072 ∧ w.cell? ⟨B, 1, none⟩ = some (.int .i64 at_) ∧ RCur (w.setCell ⟨B, 1, none⟩ (.int .i64 ((at_ : Int) + 1))) B toks q (some r) := by
  obtain ⟨A, c, at_, f0, f1, f2, hb, h1, h2, h3, h4, h5⟩ := h
  have hl : at_ < toks.length := by
    rcases Nat.lt_or_ge at_ toks.length with h | h
    · exact h
    · rw [List.drop_eq_nil_of_le h] at h5; cases h5
  refine ⟨at_, by omega, hb.cell 1, A, c, at_ + 1, f0, f1, f2, by simpa using hb.set_ 1 (.int .i64 ((at_ : Int) + 1)), hl, h2, h3.keep fun b hb' => Below.heap_setCell _ _ _ _ (by exact Nat.ne_of_lt hb'), h4, ?_⟩
  rw [List.drop_eq_getElem_cons hl] at h5
  injection h5
set_option maxRecDepth 100000 in
set_option maxHeartbeats 4000000 in
theorem take_any {w : World} {B : Nat} {toks : List Tok} {st : St} {q : List Value} (h : RCur w B toks q st) (k : Int) (key : List UInt8) (h4 : k = 4 → ∀ ts, st = some ts → ts ≠ []) :
    Calls Tryz.prog 60 #[.pointer (some ⟨B, 0, none⟩), .int .i64 k, .string ⟨key.toArray⟩] w (RPos w B toks q (tkV (takeS k key st).1) (takeS k key st).2) := by
  obtain ⟨n0, hn0⟩ : ∃ n0, n0 = w.heap.size := ⟨_, rfl⟩
  have HN0 := Lib.hid hn0
  have KB := Lib.hid (Blk.new w 107 [.int .i64 0, .string ⟨#[]⟩, .int .i64 0, .int .i64 0, .int .i64 0])
  have HC0 := Lib.hid ((Ch.refl (· = B) w).alloc (.cells #[.int .i64 0, .string ⟨#[]⟩, .int .i64 0, .int .i64 0, .int .i64 0] 107))
  have HR0 := Lib.hid (h.after (one_box w (.cells #[.int .i64 0, .string ⟨#[]⟩, .int .i64 0, .int .i64 0, .int .i64 0] 107)))
  have hBn : B < n0 := by rw [hn0]; exact h.lt
  have hne : B ≠ n0 := by omega
  have hne2 : n0 ≠ B := by omega
  rcases st with _ | ts
  · rw [take_none]
    clear h h4
    go_enter Tryz.func60, Tryz.ntmps60
    go_upto_region 1 with (fail)
    rw [← hn0] at KB ⊢
    clear hn0
    dsimp only [List.toArray] at KB
    generalize w.alloc (.cells #[.int .i64 0, .string ⟨#[]⟩, .int .i64 0, .int .i64 0, .int .i64 0] 107) = W0 at KB HC0 HR0 ⊢
    go_upto_region 2 with (first
      | (go_at_call 90; (with_reducible refine (now_any HR0.out).mono ?_); rintro e w1 ⟨t, rfl, -, hb1⟩; obtain ⟨tk, tt, tn, tl, tc_⟩ := t; have HB1 := Lib.hid hb1; clear hb1)
      | fail)
    have HB2 := Lib.hid (HB1.out.alloc HB1.out.size (.cells #[.int .i64 tk, .string ⟨tt.toArray⟩, .int .i64 tn, .int .i64 tl, .int .i64 tc_] 107))
    have KT2 := Lib.hid (Blk.new w1 107 [.int .i64 tk, .string ⟨tt.toArray⟩, .int .i64 tn, .int .i64 tl, .int .i64 tc_])
    have HNN : Hid (n0 < w1.heap.size ∧ B < w1.heap.size) := Lib.hid ⟨Nat.lt_of_lt_of_le KB.out.lt HB1.out.size, Nat.lt_of_lt_of_le HR0.out.lt HB1.out.size⟩
    dsimp only [List.toArray] at KT2
    generalize w1.alloc (.cells #[.int .i64 tk, .string ⟨tt.toArray⟩, .int .i64 tn, .int .i64 tl, .int .i64 tc_] 107) = W2 at HB2 KT2 ⊢
    generalize w1.heap.size = n2 at KT2 HNN ⊢
    have HR2 := Lib.hid (HR0.out.after HB2.out)
    have KB2 := Lib.hid (KB.out.after HB2.out)
    have HC2 : Hid (Ch (· = B) w W2) := Lib.hid (HC0.out.trans (.of_below HB2.out))
    obtain ⟨f0, b2, hf0⟩ := HR2.out.err
    have bf := HR2.out.frozen
    have x0 : W2.cell? ⟨n0, 0, none⟩ = some (.int .i64 0) := KB2.out.cell 0
    have x1 : W2.cell? ⟨n0, 1, none⟩ = some (.string ⟨#[]⟩) := KB2.out.cell 1
    have x2 : W2.cell? ⟨n0, 2, none⟩ = some (.int .i64 0) := KB2.out.cell 2
    have x3 : W2.cell? ⟨n0, 3, none⟩ = some (.int .i64 0) := KB2.out.cell 3
    have x4 : W2.cell? ⟨n0, 4, none⟩ = some (.int .i64 0) := KB2.out.cell 4
    have xf := KB2.out.frozen
    have y0 : W2.cell? ⟨n2, 0, none⟩ = some (.int .i64 tk) := KT2.out.cell 0
    have y1 : W2.cell? ⟨n2, 1, none⟩ = some (.string ⟨tt.toArray⟩) := KT2.out.cell 1
    have y2 : W2.cell? ⟨n2, 2, none⟩ = some (.int .i64 tn) := KT2.out.cell 2
    have y3 : W2.cell? ⟨n2, 3, none⟩ = some (.int .i64 tl) := KT2.out.cell 3
    have y4 : W2.cell? ⟨n2, 4, none⟩ = some (.int .i64 tc_) := KT2.out.cell 4
    have hne3 : n0 ≠ n2 := by have := HNN.out; omega
    have hne4 : n2 ≠ n0 := by omega
    have hne5 : B ≠ n2 := by have := HNN.out; omega
    have hne6 : n2 ≠ B := by omega
    have hf : (f0 == 0) = false := hf0
    clear hf0
    go_wp2
    refine bodyPost_ret (take_res rfl (set5 KB2.out _ _ _ _ _)) rfl ?_
    exact ⟨rfl, HR2.out.ch (ch_tok W2 n0 _ _ _ _ _) (fun k hk => by omega), HC2.out.fresh (by have := HN0.out; omega) (ch_tok W2 n0 _ _ _ _ _)⟩
  · obtain ⟨t, ht⟩ : ∃ t, nowL ts = t := ⟨_, rfl⟩
    obtain ⟨tk, tt, tn, tl, tc_⟩ := t
    have HTN := Lib.hid ht
    cases hrel : TkRel ⟨tk, tt, tn, tl, tc_⟩ k key with
    | false =>
      have HMISS := Lib.hid (take_miss (ts := ts) (k := k) (key := key) (by rw [ht]; exact hrel))
      rw [HMISS.out]
      have hrel2 : ((tk == k) && (!(k == 2) || (tt == key))) = false := hrel
      clear h h4 hrel
      go_enter Tryz.func60, Tryz.ntmps60
      go_upto_region 1 with (fail)
      rw [← hn0] at KB ⊢
      clear hn0
      dsimp only [List.toArray] at KB
      generalize w.alloc (.cells #[.int .i64 0, .string ⟨#[]⟩, .int .i64 0, .int .i64 0, .int .i64 0] 107) = W0 at KB HC0 HR0 ⊢
      go_upto_region 2 with (first
        | (go_at_call 90; (with_reducible refine (now_good HR0.out ⟨tk, tt, tn, tl, tc_⟩ HTN.out).mono ?_); rintro e w1 ⟨rfl, hb1⟩; have HB1 := Lib.hid hb1; clear hb1)
        | fail)
      have HB2 := Lib.hid (HB1.out.alloc HB1.out.size (.cells #[.int .i64 tk, .string ⟨tt.toArray⟩, .int .i64 tn, .int .i64 tl, .int .i64 tc_] 107))
      have KT2 := Lib.hid (Blk.new w1 107 [.int .i64 tk, .string ⟨tt.toArray⟩, .int .i64 tn, .int .i64 tl, .int .i64 tc_])
      have HNN : Hid (n0 < w1.heap.size ∧ B < w1.heap.size) := Lib.hid ⟨Nat.lt_of_lt_of_le KB.out.lt HB1.out.size, Nat.lt_of_lt_of_le HR0.out.lt HB1.out.size⟩
      dsimp only [List.toArray] at KT2
      generalize w1.alloc (.cells #[.int .i64 tk, .string ⟨tt.toArray⟩, .int .i64 tn, .int .i64 tl, .int .i64 tc_] 107) = W2 at HB2 KT2 ⊢
      generalize w1.heap.size = n2 at KT2 HNN ⊢
      have HR2 := Lib.hid (HR0.out.after HB2.out)
      have KB2 := Lib.hid (KB.out.after HB2.out)
      have HC2 : Hid (Ch (· = B) w W2) := Lib.hid (HC0.out.trans (.of_below HB2.out))
      obtain ⟨f0, b2, hf0⟩ := HR2.out.err
      have bf := HR2.out.frozen
      have x0 : W2.cell? ⟨n0, 0, none⟩ = some (.int .i64 0) := KB2.out.cell 0
      have x1 : W2.cell? ⟨n0, 1, none⟩ = some (.string ⟨#[]⟩) := KB2.out.cell 1
      have x2 : W2.cell? ⟨n0, 2, none⟩ = some (.int .i64 0) := KB2.out.cell 2
      have x3 : W2.cell? ⟨n0, 3, none⟩ = some (.int .i64 0) := KB2.out.cell 3
      have x4 : W2.cell? ⟨n0, 4, none⟩ = some (.int .i64 0) := KB2.out.cell 4
      have xf := KB2.out.frozen
      have y0 : W2.cell? ⟨n2, 0, none⟩ = some (.int .i64 tk) := KT2.out.cell 0
      have y1 : W2.cell? ⟨n2, 1, none⟩ = some (.string ⟨tt.toArray⟩) := KT2.out.cell 1
      have y2 : W2.cell? ⟨n2, 2, none⟩ = some (.int .i64 tn) := KT2.out.cell 2
      have y3 : W2.cell? ⟨n2, 3, none⟩ = some (.int .i64 tl) := KT2.out.cell 3
      have y4 : W2.cell? ⟨n2, 4, none⟩ = some (.int .i64 tc_) := KT2.out.cell 4
      have hne3 : n0 ≠ n2 := by have := HNN.out; omega
      have hne4 : n2 ≠ n0 := by omega
      have hne5 : B ≠ n2 := by have := HNN.out; omega
      have hne6 : n2 ≠ B := by omega
      have hf : (f0 == 0) = true := hf0
      clear hf0 ht
      have HFAIL : Hid (Calls Tryz.prog 91 #[.pointer (some ⟨B, 0, none⟩), .int .i64 7, .agg #[.int .i64 tk, .string ⟨tt.toArray⟩, .int .i64 tn, .int .i64 tl, .int .i64 tc_]] W2 (fun e w' => e = .returned (.tuple #[]) ∧ RCur w' B toks q none ∧ Ch (· = B) W2 w')) := Lib.hid (fail_any HR2.out 7 (by decide) ⟨tk, tt, tn, tl, tc_⟩)
      cases hb1 : (tk == k) with
      | false =>
        clear hrel2
        have hbn : (tk != k) = true := by rw [bne, hb1]; rfl
        have hbn2 : ¬ tk = k := by simpa using hb1
        go_wp2_with (first
          | (go_at_call 91; (with_reducible refine HFAIL.out.mono ?_); rintro e w3 ⟨rfl, h1, h2⟩; have HR3 := Lib.hid h1; have HC3 := Lib.hid h2; have KB3 := Lib.hid (h2.blk KB2.out hne2); clear h1 h2 x0 x1 x2 x3 x4 xf; have x0 : w3.cell? ⟨n0, 0, none⟩ = some (.int .i64 0) := KB3.out.cell 0; have x1 : w3.cell? ⟨n0, 1, none⟩ = some (.string ⟨#[]⟩) := KB3.out.cell 1; have x2 : w3.cell? ⟨n0, 2, none⟩ = some (.int .i64 0) := KB3.out.cell 2; have x3 : w3.cell? ⟨n0, 3, none⟩ = some (.int .i64 0) := KB3.out.cell 3; have x4 : w3.cell? ⟨n0, 4, none⟩ = some (.int .i64 0) := KB3.out.cell 4; have xf := KB3.out.frozen)
          | fail)
        refine bodyPost_ret (take_res rfl (set5 KB3.out _ _ _ _ _)) rfl ?_
        exact ⟨rfl, HR3.out.ch (ch_tok w3 n0 _ _ _ _ _) (fun k hk => by omega), (HC2.out.trans HC3.out).fresh (by have := HN0.out; omega) (ch_tok w3 n0 _ _ _ _ _)⟩
      | true =>
        rw [hb1, Bool.true_and] at hrel2
        have e1 : tk = k := by simpa using hb1
        subst e1
        cases hb2 : (tk == 2) with
        | false => rw [hb2] at hrel2; cases hrel2
        | true =>
          rw [hb2] at hrel2
          have hb3 : (tt == key) = false := by simpa using hrel2
          clear hrel2
          have e2 : tk = 2 := by simpa using hb2
          subst e2
          go_wp2_with (first
            | (go_at_call 91; (with_reducible refine HFAIL.out.mono ?_); rintro e w3 ⟨rfl, h1, h2⟩; have HR3 := Lib.hid h1; have HC3 := Lib.hid h2; have KB3 := Lib.hid (h2.blk KB2.out hne2); clear h1 h2 x0 x1 x2 x3 x4 xf; have x0 : w3.cell? ⟨n0, 0, none⟩ = some (.int .i64 0) := KB3.out.cell 0; have x1 : w3.cell? ⟨n0, 1, none⟩ = some (.string ⟨#[]⟩) := KB3.out.cell 1; have x2 : w3.cell? ⟨n0, 2, none⟩ = some (.int .i64 0) := KB3.out.cell 2; have x3 : w3.cell? ⟨n0, 3, none⟩ = some (.int .i64 0) := KB3.out.cell 3; have x4 : w3.cell? ⟨n0, 4, none⟩ = some (.int .i64 0) := KB3.out.cell 4; have xf := KB3.out.frozen)
            | fail)
          refine bodyPost_ret (take_res rfl (set5 KB3.out _ _ _ _ _)) rfl ?_
          exact ⟨rfl, HR3.out.ch (ch_tok w3 n0 _ _ _ _ _) (fun k hk => by omega), (HC2.out.trans HC3.out).fresh (by have := HN0.out; omega) (ch_tok w3 n0 _ _ _ _ _)⟩
    | true =>
      obtain ⟨t, r, rfl, hhit⟩ := take_hit (ts := ts) (k := k) (key := key) (fun e => h4 e _ rfl) (by rw [ht]; exact hrel)
      have htt : t = ⟨tk, tt, tn, tl, tc_⟩ := ht
      subst htt
      rw [hhit]
      have hrel2 : ((tk == k) && (!(k == 2) || (tt == key))) = true := hrel
      clear h h4 hrel hhit
      go_enter Tryz.func60, Tryz.ntmps60
      go_upto_region 1 with (fail)
      rw [← hn0] at KB ⊢
      clear hn0
      dsimp only [List.toArray] at KB
      generalize w.alloc (.cells #[.int .i64 0, .string ⟨#[]⟩, .int .i64 0, .int .i64 0, .int .i64 0] 107) = W0 at KB HC0 HR0 ⊢
      go_upto_region 2 with (first
        | (go_at_call 90; (with_reducible refine (now_good HR0.out ⟨tk, tt, tn, tl, tc_⟩ HTN.out).mono ?_); rintro e w1 ⟨rfl, hb1⟩; have HB1 := Lib.hid hb1; clear hb1)
        | fail)
      have HB2 := Lib.hid (HB1.out.alloc HB1.out.size (.cells #[.int .i64 tk, .string ⟨tt.toArray⟩, .int .i64 tn, .int .i64 tl, .int .i64 tc_] 107))
      have KT2 := Lib.hid (Blk.new w1 107 [.int .i64 tk, .string ⟨tt.toArray⟩, .int .i64 tn, .int .i64 tl, .int .i64 tc_])
      have HNN : Hid (n0 < w1.heap.size ∧ B < w1.heap.size) := Lib.hid ⟨Nat.lt_of_lt_of_le KB.out.lt HB1.out.size, Nat.lt_of_lt_of_le HR0.out.lt HB1.out.size⟩
      dsimp only [List.toArray] at KT2
      generalize w1.alloc (.cells #[.int .i64 tk, .string ⟨tt.toArray⟩, .int .i64 tn, .int .i64 tl, .int .i64 tc_] 107) = W2 at HB2 KT2 ⊢
      generalize w1.heap.size = n2 at KT2 HNN ⊢
      have HR2 := Lib.hid (HR0.out.after HB2.out)
      have KB2 := Lib.hid (KB.out.after HB2.out)
      have HC2 : Hid (Ch (· = B) w W2) := Lib.hid (HC0.out.trans (.of_below HB2.out))
      obtain ⟨f0, b2, hf0⟩ := HR2.out.err
      have bf := HR2.out.frozen
      have x0 : W2.cell? ⟨n0, 0, none⟩ = some (.int .i64 0) := KB2.out.cell 0
      have x1 : W2.cell? ⟨n0, 1, none⟩ = some (.string ⟨#[]⟩) := KB2.out.cell 1
      have x2 : W2.cell? ⟨n0, 2, none⟩ = some (.int .i64 0) := KB2.out.cell 2
      have x3 : W2.cell? ⟨n0, 3, none⟩ = some (.int .i64 0) := KB2.out.cell 3
      have x4 : W2.cell? ⟨n0, 4, none⟩ = some (.int .i64 0) := KB2.out.cell 4
      have xf := KB2.out.frozen
      have y0 : W2.cell? ⟨n2, 0, none⟩ = some (.int .i64 tk) := KT2.out.cell 0
      have y1 : W2.cell? ⟨n2, 1, none⟩ = some (.string ⟨tt.toArray⟩) := KT2.out.cell 1
      have y2 : W2.cell? ⟨n2, 2, none⟩ = some (.int .i64 tn) := KT2.out.cell 2
      have y3 : W2.cell? ⟨n2, 3, none⟩ = some (.int .i64 tl) := KT2.out.cell 3
      have y4 : W2.cell? ⟨n2, 4, none⟩ = some (.int .i64 tc_) := KT2.out.cell 4
      have hne3 : n0 ≠ n2 := by have := HNN.out; omega
      have hne4 : n2 ≠ n0 := by omega
      have hne5 : B ≠ n2 := by have := HNN.out; omega
      have hne6 : n2 ≠ B := by omega
      have hf : (f0 == 0) = true := hf0
      clear hf0 ht
      obtain ⟨at_, hat, b1, hadv⟩ := HR2.out.adv
      have HADV := Lib.hid hadv
      clear hadv
      rw [Bool.and_eq_true] at hrel2
      obtain ⟨hb1, hrel3⟩ := hrel2
      have e1 : tk = k := by simpa using hb1
      subst e1
      cases hb2 : (tk == 2) with
      | false =>
        clear hrel3
        go_wp2
        have KB3 := (ch_set W2 B 1 (.int .i64 ((at_ : Int) + 1))).blk KB2.out hne2
        refine bodyPost_ret (take_res rfl (set5 KB3 _ _ _ _ _)) rfl ?_
        exact ⟨rfl, HADV.out.ch (ch_tok _ n0 _ _ _ _ _) (fun k hk => by omega), (HC2.out.trans (ch_set W2 B 1 _)).fresh (by have := HN0.out; omega) (ch_tok _ n0 _ _ _ _ _)⟩
      | true =>
        rw [hb2] at hrel3
        have hb3 : (tt == key) = true := by simpa using hrel3
        clear hrel3
        have e2 : tk = 2 := by simpa using hb2
        subst e2
        have e3 : tt = key := by simpa using hb3
        subst e3
        go_wp2
        have KB3 := (ch_set W2 B 1 (.int .i64 ((at_ : Int) + 1))).blk KB2.out hne2
        refine bodyPost_ret (take_res rfl (set5 KB3 _ _ _ _ _)) rfl ?_
        exact ⟨rfl, HADV.out.ch (ch_tok _ n0 _ _ _ _ _) (fun k hk => by omega), (HC2.out.trans (ch_set W2 B 1 _)).fresh (by have := HN0.out; omega) (ch_tok _ n0 _ _ _ _ _)⟩
theorem field_tok0 (a b c d e : Value) (w : World) : (Instr.field 107 (.agg #[a, b, c, d, e]) 0).run Tryz.prog w = .ok a w := by kernel_rfl
theorem field_tok1 (a b c d e : Value) (w : World) : (Instr.field 107 (.agg #[a, b, c, d, e]) 1).run Tryz.prog w = .ok b w := by kernel_rfl
theorem field_tok2 (a b c d e : Value) (w : World) : (Instr.field 107 (.agg #[a, b, c, d, e]) 2).run Tryz.prog w = .ok c w := by kernel_rfl
theorem suf_end {a b : St} (h : Suf a b) (ha : ∀ ts, a = some ts → EndL ts) : ∀ ts, b = some ts → EndL ts := by
  intro ts e
  obtain ⟨r, h1, _, h3⟩ := h ts e
  exact h3 (ha r h1)
theorem name_go {w : World} {B : Nat} {toks : List Tok} {st : St} {q : List Value} (h : RCur w B toks q st) :
    Calls Tryz.prog 117 #[.pointer (some ⟨B, 0, none⟩)] w (RPos w B toks q (.string ⟨(nameS st).1.toArray⟩) (nameS st).2) := by
  have HT0 := take_any h 1 [] (fun e => absurd e (by decide))
  unfold nameS
  generalize takeS 1 [] st = s1 at HT0 ⊢
  obtain ⟨⟨tk, tt, tn, tl, tc_⟩, st1⟩ := s1
  have HT : Hid (Calls Tryz.prog 60 #[.pointer (some ⟨B, 0, none⟩), .int .i64 1, .string ⟨#[]⟩] w fun e w' => e = .returned (.agg #[.int .i64 tk, .string ⟨tt.toArray⟩, .int .i64 tn, .int .i64 tl, .int .i64 tc_]) ∧ RCur w' B toks q st1 ∧ Ch (· = B) w w') := Lib.hid HT0
  clear HT0
  dsimp only
  clear h
  have hfl := fun a b c d e w => field_tok1 a b c d e w
  go_enter Tryz.func117, Tryz.ntmps117
  go_wp2_with (first
    | (go_at_call 60; (with_reducible refine HT.out.mono ?_); rintro e w3 ⟨rfl, h1, h2⟩)
    | fail)
  go_ret
  exact ⟨rfl, h1, h2⟩
theorem num_go {w : World} {B : Nat} {toks : List Tok} {st : St} {q : List Value} (h : RCur w B toks q st) :
    Calls Tryz.prog 59 #[.pointer (some ⟨B, 0, none⟩)] w (RPos w B toks q (.int .i64 (numS st).1) (numS st).2) := by
  have HT0 := take_any h 3 [] (fun e => absurd e (by decide))
  unfold numS
  generalize takeS 3 [] st = s1 at HT0 ⊢
  obtain ⟨⟨tk, tt, tn, tl, tc_⟩, st1⟩ := s1
  have HT : Hid (Calls Tryz.prog 60 #[.pointer (some ⟨B, 0, none⟩), .int .i64 3, .string ⟨#[]⟩] w fun e w' => e = .returned (.agg #[.int .i64 tk, .string ⟨tt.toArray⟩, .int .i64 tn, .int .i64 tl, .int .i64 tc_]) ∧ RCur w' B toks q st1 ∧ Ch (· = B) w w') := Lib.hid HT0
  clear HT0
  dsimp only
  clear h
  have hfl := fun a b c d e w => field_tok2 a b c d e w
  go_enter Tryz.func59, Tryz.ntmps59
  go_wp2_with (first
    | (go_at_call 60; (with_reducible refine HT.out.mono ?_); rintro e w3 ⟨rfl, h1, h2⟩)
    | fail)
  go_ret
  exact ⟨rfl, h1, h2⟩
theorem key_go {w : World} {B : Nat} {toks : List Tok} {st : St} {q : List Value} (h : RCur w B toks q st) (key : List UInt8) :
    Calls Tryz.prog 58 #[.pointer (some ⟨B, 0, none⟩), .string ⟨key.toArray⟩] w (RPos w B toks q (.tuple #[]) (keyS key st)) := by
  have HT := Lib.hid (take_any h 2 key (fun e => absurd e (by decide)))
  unfold keyS
  generalize takeS 2 key st = s1 at HT ⊢
  obtain ⟨⟨tk, tt, tn, tl, tc_⟩, st1⟩ := s1
  dsimp only at HT ⊢
  clear h
  go_enter Tryz.func58, Tryz.ntmps58
  go_wp2_with (first
    | (go_at_call 60; (with_reducible refine HT.out.mono ?_); rintro e w3 ⟨rfl, h1, h2⟩)
    | fail)
  go_end0
  exact ⟨rfl, h1, h2⟩
theorem good_go {w : World} {B : Nat} {toks : List Tok} {st : St} {q : List Value} (h : RCur w B toks q st) :
    Calls Tryz.prog 61 #[.pointer (some ⟨B, 0, none⟩)] w fun e w' => e = .returned (.bool st.isSome) ∧ w = w' := by
  obtain ⟨f0, b2, hf0⟩ := h.err
  rw [← hf0]
  clear h hf0
  go_enter Tryz.func61, Tryz.ntmps61
  go_wp2
  go_ret
  exact ⟨rfl, rfl⟩
theorem after_go {w : World} {B : Nat} {toks : List Tok} {st : St} {q : List Value} (h : RCur w B toks q st) (key : List UInt8) :
    Calls Tryz.prog 120 #[.pointer (some ⟨B, 0, none⟩), .string ⟨key.toArray⟩] w (RPos w B toks q (.int .i64 (afterS key st).1) (afterS key st).2) := by
  have HT := Lib.hid (key_go h key)
  unfold afterS
  generalize keyS key st = s1 at HT ⊢
  clear h
  go_enter Tryz.func120, Tryz.ntmps120
  go_wp2_with (first
    | (go_at_call 58; (with_reducible refine HT.out.mono ?_); rintro e w3 ⟨rfl, h1, h2⟩; have H3 := Lib.hid (num_go h1); clear h1)
    | (go_at_call 59; (with_reducible refine H3.out.mono ?_); rintro e w4 ⟨rfl, h3, h4⟩)
    | fail)
  go_ret
  exact ⟨rfl, h3, h2.trans h4⟩
theorem is_go {w : World} {B : Nat} {toks ts : List Tok} {q : List Value} (h : RCur w B toks q (some ts)) (key : List UInt8) :
    Calls Tryz.prog 132 #[.pointer (some ⟨B, 0, none⟩), .string ⟨key.toArray⟩] w fun e w' => e = .returned (.bool (decide ((nowL ts).kind = 2 ∧ (nowL ts).text = key))) ∧ Below w.heap.size w w' := by
  obtain ⟨t, ht⟩ : ∃ t, nowL ts = t := ⟨_, rfl⟩
  rw [ht]
  obtain ⟨tk, tt, tn, tl, tc_⟩ := t
  have HN : Hid (∀ w', Below w.heap.size w w' → Calls Tryz.prog 90 #[.pointer (some ⟨B, 0, none⟩)] w' fun e w2 => e = .returned (.agg #[.int .i64 tk, .string ⟨tt.toArray⟩, .int .i64 tn, .int .i64 tl, .int .i64 tc_]) ∧ Below w'.heap.size w' w2) := Lib.hid (fun w' (hb : Below w.heap.size w w') => now_good (h.after hb) _ ht)
  clear h ht
  have hbool : decide (tk = 2 ∧ tt = key) = ((tk == 2) && (tt == key)) := by rw [Bool.eq_iff_iff]; simp
  show Calls _ _ _ _ fun e w' => e = .returned (.bool (decide (tk = 2 ∧ tt = key))) ∧ _
  rw [hbool]
  clear hbool
  cases hb1 : (tk == 2) with
  | false =>
    have hf0 := fun a b c d e w => field_tok0 a b c d e w
    have hf1 := fun a b c d e w => field_tok1 a b c d e w
    go_enter Tryz.func132, Tryz.ntmps132
    go_wp2_with (first
      | (go_at_call 90; (refine (HN.out _ (Below.refl _ _)).mono ?_); rintro e w3 ⟨rfl, h1⟩)
      | fail)
    go_ret
    exact ⟨rfl, h1⟩
  | true =>
    have e2 : tk = 2 := by simpa using hb1
    subst e2
    have hf0 := fun a b c d e w => field_tok0 a b c d e w
    have hf1 := fun a b c d e w => field_tok1 a b c d e w
    go_enter Tryz.func132, Tryz.ntmps132
    go_wp2_with (first
      | (go_at_call 90; (refine (HN.out _ h1).mono ?_); rintro e w4 ⟨rfl, h2⟩)
      | (go_at_call 90; (refine (HN.out _ (Below.refl _ _)).mono ?_); rintro e w3 ⟨rfl, h1⟩)
      | fail)
    go_ret
    exact ⟨rfl, keep_trans h1 h2⟩
end Go.Proofs.YtcmlmfcnbmpajaaGreatDoor.Sw
namespace Go.Proofs.YtcmlmfcnbmpajaaGreatDoor.Sw
open Go.ChangeShapes Go.WideShapes Go.ChangeAt Go.RowKit
open Lx Sh Tk
set_option linter.unusedVariables false
set_option linter.unusedSimpArgs false

theorem rts_stay {w1 w2 w3 : World} {B : Nat} {rs : List RouteM} {c4 : List Value} {vs vs' : List Value} {v v' : Value} (h4 : Rts w1 (Away w1 B vs) rs c4) (hv : v ∈ vs) (hch2 : Ch (fun b => b = B ∨ some b = v.ownBlock) w1 w2) (hk : Ch (· = B) w2 w3)
    (hob : v'.ownBlock = v.ownBlock ∨ ∃ k, v'.ownBlock = some k ∧ w1.heap.size ≤ k) (hvs : ∀ u ∈ vs', u ∈ vs ∨ u = v') : Rts w3 (Away w3 B vs') rs c4 := by
  refine (h4.keep fun b hb => (hk.block b ?_ (by have := hb.1; omega)).trans (hch2.block b hb.2.1 ?_)).more fun b hb => hb.on (Nat.le_trans hch2.size hk.size) ?_
  · exact Nat.lt_of_lt_of_le hb.2.1 hch2.size
  · rintro (e | e)
    · have := hb.1; omega
    · exact hb.2.2 v hv e.symm
  · intro u hu
    rcases hvs u hu with h | rfl
    · exact .inl h
    · exact .inr ⟨v, hv, hob⟩

theorem rows_stop {w1 w2 w3 : World} {B : Nat} {x : SheetM} {v1 v2 v3 v4 v5 v6 v' : Value} {a : List UInt8} (hs1 : ShRows w1 B x v1 v2 v3 v4 v5 v6) (ho : w2.ownsRow (B + 1) 9 1 v' (x.stops.length + 1) (cs strC x.stops ++ strC a))
    (hch2 : Ch (fun b => b = B ∨ some b = v1.ownBlock) w1 w2) (hob : v'.ownBlock = v1.ownBlock ∨ ∃ k, v'.ownBlock = some k ∧ w1.heap.size ≤ k) (hk : Ch (· = B) w2 w3) (hlt : x.stops.length < 256) :
    ShRows w3 B { x with stops := x.stops ++ [a] } v' v2 v3 v4 v5 v6 := by
  have f : ∀ {e size n : Nat} {v : Value} {xs : List Value}, e ≠ 9 → w1.ownsRow (B + 1) e size v n xs → w3.ownsRow (B + 1) e size v n xs := fun hne h =>
    hk.own (hch2.own h fun k hkk e => by
      rcases e with e | e
      · have := (h.lt k hkk).1; omega
      · exact own_ne h hs1.r1 hne k hkk e.symm) fun k hkk e => by have := (h.lt k hkk).1; omega
  obtain ⟨c4, h4, h4'⟩ := hs1.r4
  have g4 : Rts w3 (Away w3 B [v', v2, v3, v4, v5, v6]) x.routes c4 := rts_stay h4' (v := v1) (by simp) hch2 hk hob fun u hu => by
    simp only [List.mem_cons, List.not_mem_nil, or_false] at hu
    rcases hu with rfl | rfl | rfl | rfl | rfl | rfl <;> simp
  exact ⟨by rw [List.length_append, cs_append, cs_one]; exact hk.own ho fun k hkk e => by have := (ho.lt k hkk).1; omega, f (by decide) hs1.r2, f (by decide) hs1.r3, ⟨c4, f (by decide) h4, g4⟩, f (by decide) hs1.r5, f (by decide) hs1.r6, by rw [List.length_append]; simp; omega, hs1.n2, hs1.n3, hs1.n4, hs1.n5, hs1.n6⟩

theorem rows_path {w1 w2 w3 : World} {B : Nat} {x : SheetM} {v1 v2 v3 v4 v5 v6 v' : Value} {a : PathM} (hs1 : ShRows w1 B x v1 v2 v3 v4 v5 v6) (ho : w2.ownsRow (B + 1) 31 4 v' (x.paths.length + 1) (cs paC x.paths ++ paC a))
    (hch2 : Ch (fun b => b = B ∨ some b = v2.ownBlock) w1 w2) (hob : v'.ownBlock = v2.ownBlock ∨ ∃ k, v'.ownBlock = some k ∧ w1.heap.size ≤ k) (hk : Ch (· = B) w2 w3) (hlt : x.paths.length < 1024) :
    ShRows w3 B { x with paths := x.paths ++ [a] } v1 v' v3 v4 v5 v6 := by
  have f : ∀ {e size n : Nat} {v : Value} {xs : List Value}, e ≠ 31 → w1.ownsRow (B + 1) e size v n xs → w3.ownsRow (B + 1) e size v n xs := fun hne h =>
    hk.own (hch2.own h fun k hkk e => by
      rcases e with e | e
      · have := (h.lt k hkk).1; omega
      · exact own_ne h hs1.r2 hne k hkk e.symm) fun k hkk e => by have := (h.lt k hkk).1; omega
  obtain ⟨c4, h4, h4'⟩ := hs1.r4
  have g4 : Rts w3 (Away w3 B [v1, v', v3, v4, v5, v6]) x.routes c4 := rts_stay h4' (v := v2) (by simp) hch2 hk hob fun u hu => by
    simp only [List.mem_cons, List.not_mem_nil, or_false] at hu
    rcases hu with rfl | rfl | rfl | rfl | rfl | rfl <;> simp
  exact ⟨f (by decide) hs1.r1, by rw [List.length_append, cs_append, cs_one]; exact hk.own ho fun k hkk e => by have := (ho.lt k hkk).1; omega, f (by decide) hs1.r3, ⟨c4, f (by decide) h4, g4⟩, f (by decide) hs1.r5, f (by decide) hs1.r6, hs1.n1, by rw [List.length_append]; simp; omega, hs1.n3, hs1.n4, hs1.n5, hs1.n6⟩

theorem rows_door {w1 w2 w3 : World} {B : Nat} {x : SheetM} {v1 v2 v3 v4 v5 v6 v' : Value} {a : DoorM} (hs1 : ShRows w1 B x v1 v2 v3 v4 v5 v6) (ho : w2.ownsRow (B + 1) 35 7 v' (x.doors.length + 1) (cs doC x.doors ++ doC a))
    (hch2 : Ch (fun b => b = B ∨ some b = v3.ownBlock) w1 w2) (hob : v'.ownBlock = v3.ownBlock ∨ ∃ k, v'.ownBlock = some k ∧ w1.heap.size ≤ k) (hk : Ch (· = B) w2 w3) (hlt : x.doors.length < 256) :
    ShRows w3 B { x with doors := x.doors ++ [a] } v1 v2 v' v4 v5 v6 := by
  have f : ∀ {e size n : Nat} {v : Value} {xs : List Value}, e ≠ 35 → w1.ownsRow (B + 1) e size v n xs → w3.ownsRow (B + 1) e size v n xs := fun hne h =>
    hk.own (hch2.own h fun k hkk e => by
      rcases e with e | e
      · have := (h.lt k hkk).1; omega
      · exact own_ne h hs1.r3 hne k hkk e.symm) fun k hkk e => by have := (h.lt k hkk).1; omega
  obtain ⟨c4, h4, h4'⟩ := hs1.r4
  have g4 : Rts w3 (Away w3 B [v1, v2, v', v4, v5, v6]) x.routes c4 := rts_stay h4' (v := v3) (by simp) hch2 hk hob fun u hu => by
    simp only [List.mem_cons, List.not_mem_nil, or_false] at hu
    rcases hu with rfl | rfl | rfl | rfl | rfl | rfl <;> simp
  exact ⟨f (by decide) hs1.r1, f (by decide) hs1.r2, by rw [List.length_append, cs_append, cs_one]; exact hk.own ho fun k hkk e => by have := (ho.lt k hkk).1; omega, ⟨c4, f (by decide) h4, g4⟩, f (by decide) hs1.r5, f (by decide) hs1.r6, hs1.n1, hs1.n2, by rw [List.length_append]; simp; omega, hs1.n4, hs1.n5, hs1.n6⟩

theorem rows_route {w1 w2 w3 : World} {B : Nat} {x : SheetM} {v1 v2 v3 v4 v5 v6 v' : Value} {a : RouteM} (hs1 : ShRows w1 B x v1 v2 v3 v4 v5 v6) {c4 cells : List Value} (h4 : w1.ownsRow (B + 1) 38 4 v4 x.routes.length c4) (h4' : Rts w1 (Away w1 B [v1, v2, v3, v4, v5, v6]) x.routes c4) (ho : w2.ownsRow (B + 1) 38 4 v' (x.routes.length + 1) (c4 ++ cells)) (hnew : Rts w3 (Away w3 B [v1, v2, v3, v', v5, v6]) [a] cells)
    (hch2 : Ch (fun b => b = B ∨ some b = v4.ownBlock) w1 w2) (hob : v'.ownBlock = v4.ownBlock ∨ ∃ k, v'.ownBlock = some k ∧ w1.heap.size ≤ k) (hk : Ch (· = B) w2 w3) (hlt : x.routes.length < 256) :
    ShRows w3 B { x with routes := x.routes ++ [a] } v1 v2 v3 v' v5 v6 := by
  have f : ∀ {e size n : Nat} {v : Value} {xs : List Value}, e ≠ 38 → w1.ownsRow (B + 1) e size v n xs → w3.ownsRow (B + 1) e size v n xs := fun hne h =>
    hk.own (hch2.own h fun k hkk e => by
      rcases e with e | e
      · have := (h.lt k hkk).1; omega
      · exact own_ne h h4 hne k hkk e.symm) fun k hkk e => by have := (h.lt k hkk).1; omega
  have g4 : Rts w3 (Away w3 B [v1, v2, v3, v', v5, v6]) x.routes c4 := rts_stay h4' (v := v4) (by simp) hch2 hk hob fun u hu => by
    simp only [List.mem_cons, List.not_mem_nil, or_false] at hu
    rcases hu with rfl | rfl | rfl | rfl | rfl | rfl <;> simp
  exact ⟨f (by decide) hs1.r1, f (by decide) hs1.r2, f (by decide) hs1.r3, ⟨c4 ++ cells, by rw [List.length_append]; exact hk.own ho fun k hkk e => by have := (ho.lt k hkk).1; omega, hnew.snoc g4⟩, f (by decide) hs1.r5, f (by decide) hs1.r6, hs1.n1, hs1.n2, hs1.n3, by rw [List.length_append]; simp; omega, hs1.n5, hs1.n6⟩

theorem rows_trip {w1 w2 w3 : World} {B : Nat} {x : SheetM} {v1 v2 v3 v4 v5 v6 v' : Value} {a : TripM} (hs1 : ShRows w1 B x v1 v2 v3 v4 v5 v6) (ho : w2.ownsRow (B + 1) 40 5 v' (x.trips.length + 1) (cs trC x.trips ++ trC a))
    (hch2 : Ch (fun b => b = B ∨ some b = v5.ownBlock) w1 w2) (hob : v'.ownBlock = v5.ownBlock ∨ ∃ k, v'.ownBlock = some k ∧ w1.heap.size ≤ k) (hk : Ch (· = B) w2 w3) (hlt : x.trips.length < 1024) :
    ShRows w3 B { x with trips := x.trips ++ [a] } v1 v2 v3 v4 v' v6 := by
  have f : ∀ {e size n : Nat} {v : Value} {xs : List Value}, e ≠ 40 → w1.ownsRow (B + 1) e size v n xs → w3.ownsRow (B + 1) e size v n xs := fun hne h =>
    hk.own (hch2.own h fun k hkk e => by
      rcases e with e | e
      · have := (h.lt k hkk).1; omega
      · exact own_ne h hs1.r5 hne k hkk e.symm) fun k hkk e => by have := (h.lt k hkk).1; omega
  obtain ⟨c4, h4, h4'⟩ := hs1.r4
  have g4 : Rts w3 (Away w3 B [v1, v2, v3, v4, v', v6]) x.routes c4 := rts_stay h4' (v := v5) (by simp) hch2 hk hob fun u hu => by
    simp only [List.mem_cons, List.not_mem_nil, or_false] at hu
    rcases hu with rfl | rfl | rfl | rfl | rfl | rfl <;> simp
  exact ⟨f (by decide) hs1.r1, f (by decide) hs1.r2, f (by decide) hs1.r3, ⟨c4, f (by decide) h4, g4⟩, by rw [List.length_append, cs_append, cs_one]; exact hk.own ho fun k hkk e => by have := (ho.lt k hkk).1; omega, f (by decide) hs1.r6, hs1.n1, hs1.n2, hs1.n3, hs1.n4, by rw [List.length_append]; simp; omega, hs1.n6⟩

theorem rows_haz {w1 w2 w3 : World} {B : Nat} {x : SheetM} {v1 v2 v3 v4 v5 v6 v' : Value} {a : HazM} (hs1 : ShRows w1 B x v1 v2 v3 v4 v5 v6) (ho : w2.ownsRow (B + 1) 42 5 v' (x.hazards.length + 1) (cs haC x.hazards ++ haC a))
    (hch2 : Ch (fun b => b = B ∨ some b = v6.ownBlock) w1 w2) (hob : v'.ownBlock = v6.ownBlock ∨ ∃ k, v'.ownBlock = some k ∧ w1.heap.size ≤ k) (hk : Ch (· = B) w2 w3) (hlt : x.hazards.length < 256) :
    ShRows w3 B { x with hazards := x.hazards ++ [a] } v1 v2 v3 v4 v5 v' := by
  have f : ∀ {e size n : Nat} {v : Value} {xs : List Value}, e ≠ 42 → w1.ownsRow (B + 1) e size v n xs → w3.ownsRow (B + 1) e size v n xs := fun hne h =>
    hk.own (hch2.own h fun k hkk e => by
      rcases e with e | e
      · have := (h.lt k hkk).1; omega
      · exact own_ne h hs1.r6 hne k hkk e.symm) fun k hkk e => by have := (h.lt k hkk).1; omega
  obtain ⟨c4, h4, h4'⟩ := hs1.r4
  have g4 : Rts w3 (Away w3 B [v1, v2, v3, v4, v5, v']) x.routes c4 := rts_stay h4' (v := v6) (by simp) hch2 hk hob fun u hu => by
    simp only [List.mem_cons, List.not_mem_nil, or_false] at hu
    rcases hu with rfl | rfl | rfl | rfl | rfl | rfl <;> simp
  exact ⟨f (by decide) hs1.r1, f (by decide) hs1.r2, f (by decide) hs1.r3, ⟨c4, f (by decide) h4, g4⟩, f (by decide) hs1.r5, by rw [List.length_append, cs_append, cs_one]; exact hk.own ho fun k hkk e => by have := (ho.lt k hkk).1; omega, hs1.n1, hs1.n2, hs1.n3, hs1.n4, hs1.n5, by rw [List.length_append]; simp; omega⟩

end Go.Proofs.YtcmlmfcnbmpajaaGreatDoor.Sw
namespace Go.Proofs.YtcmlmfcnbmpajaaGreatDoor.Sw
open Go.ChangeShapes Go.WideShapes Go.ChangeAt Go.RowKit
open Lx Sh Tk
set_option linter.unusedVariables false
set_option linter.unusedSimpArgs false
set_option maxRecDepth 100000

/-- what a line's thing leaves -/
def ThPost (w : World) (B : Nat) (toks : List Tok) (y : SheetM × St) (e : Ending) (w' : World) : Prop :=
  e = .returned (.tuple #[]) ∧ (∃ v1 v2 v3 v4 v5 v6, RCur w' B toks (shq y.1 v1 v2 v3 v4 v5 v6) y.2 ∧ ShRows w' B y.1 v1 v2 v3 v4 v5 v6) ∧ Below B w w'
theorem close_cur {W Wo w6 : World} {B : Nat} {toks : List Tok} {q : List Value} {st : St} {e size n : Nat} {v : Value} {xs : List Value} (h : RCur W B toks q st) (hr : W.ownsRow (B + 1) e size v n xs) (hWo : Ch (fun _ => False) W Wo) (hg : Wo.grownBy w6 v.ownBlock) : RCur w6 B toks q st :=
  (h.ch hWo fun _ _ => id).ch (X := fun b => some b = v.ownBlock) (Ch.of_grown hg fun _ e => e) fun k hk e => by have := (hr.lt k e.symm).1; omega
theorem close_ch {W Wo w6 : World} {B : Nat} {v : Value} (hWo : Ch (fun _ => False) W Wo) (hg : Wo.grownBy w6 v.ownBlock) : Ch (fun b => b = B ∨ some b = v.ownBlock) W w6 :=
  (hWo.mono fun _ _ h => h.elim : Ch (fun b => b = B ∨ some b = v.ownBlock) W Wo).trans (Ch.of_grown hg fun _ e => .inr e)
theorem close_ob {W Wo : World} {v v' : Value} (hWo : Ch (fun _ => False) W Wo) (h : v'.ownBlock = v.ownBlock ∨ v'.ownBlock = some Wo.heap.size) : v'.ownBlock = v.ownBlock ∨ ∃ k, v'.ownBlock = some k ∧ W.heap.size ≤ k := by
  rcases h with h | h
  · exact .inl h
  · exact .inr ⟨_, h, hWo.size⟩
theorem close_below {w W w6 : World} {B e size n : Nat} {v : Value} {xs : List Value} (hB : B < w.heap.size) (h : Ch (· = B) w W) (hr : W.ownsRow (B + 1) e size v n xs) (h2 : Ch (fun b => b = B ∨ some b = v.ownBlock) W w6) (p : Addr) (hp : p.block = B) (u : Value) : Below B w (w6.setCell p u) := by
  have b1 : Below B w W := h.below (Nat.le_of_lt hB) fun k e => by omega
  have b2 : Below B W w6 := h2.below (by have := b1.size; omega) fun k e => by
    rcases e with e | e
    · omega
    · have := (hr.lt k e.symm).1; omega
  have b3 : Below B w6 (w6.setCell p u) := ((Ch.refl (· = B) w6).setCell (.inl hp) u).below (by have := b1.size; have := b2.size; omega) fun k e => by omega
  exact (b1.trans b2).trans b3
theorem times_res {W : World} {n0 : Nat} {a0 a1 a2 : Value} {tmps : Array Value} (h2 : tmps[4]? = some (.pointer (some ⟨n0, 0, none⟩))) (k0 : Blk W n0 33 [a0, a1, a2]) :
    (results Tryz.f118 tmps).run Tryz.prog W = .ok (.agg #[a0, a1, a2]) W := by
  have x0 : W.cell? ⟨n0, 0, none⟩ = some a0 := k0.cell 0
  have x1 : W.cell? ⟨n0, 1, none⟩ = some a1 := k0.cell 1
  have x2 : W.cell? ⟨n0, 2, none⟩ = some a2 := k0.cell 2
  simp [results, Tryz.results118, go_sem, h2, x0, x1, x2]

theorem stop_close {w W Wo w6 : World} {B : Nat} {toks : List Tok} {x : SheetM} {v1 v2 v3 v4 v5 v6 v' : Value} {st : St} {a : List UInt8} {n : Nat} (hB : B < w.heap.size) (hcw : Ch (· = B) w W) (h : RCur W B toks (shq x v1 v2 v3 v4 v5 v6) st) (hs : ShRows W B x v1 v2 v3 v4 v5 v6) (hWo : Ch (fun _ => False) W Wo) (hg : Wo.grownBy w6 v1.ownBlock)
    (ho : w6.ownsRow (B + 1) 9 1 v' (n + 1) (cs strC x.stops ++ strC a)) (hob : v'.ownBlock = v1.ownBlock ∨ v'.ownBlock = some Wo.heap.size) (hn : n = x.stops.length) (hlt : x.stops.length < 256) :
    ThPost w B toks ({ x with stops := x.stops ++ [a] }, st) (.returned (.tuple #[])) (w6.setCell ⟨B, 6, none⟩ v') := by
  subst hn
  exact ⟨rfl, ⟨v', v2, v3, v4, v5, v6, (close_cur h hs.r1 hWo hg).set 1 v', rows_stop hs ho (close_ch hWo hg) (close_ob hWo hob) (ch_set _ _ _ _) hlt⟩, close_below hB hcw hs.r1 (close_ch hWo hg) _ rfl _⟩

theorem path_close {w W Wo w6 : World} {B : Nat} {toks : List Tok} {x : SheetM} {v1 v2 v3 v4 v5 v6 v' : Value} {st : St} {a : PathM} {n : Nat} (hB : B < w.heap.size) (hcw : Ch (· = B) w W) (h : RCur W B toks (shq x v1 v2 v3 v4 v5 v6) st) (hs : ShRows W B x v1 v2 v3 v4 v5 v6) (hWo : Ch (fun _ => False) W Wo) (hg : Wo.grownBy w6 v2.ownBlock)
    (ho : w6.ownsRow (B + 1) 31 4 v' (n + 1) (cs paC x.paths ++ paC a)) (hob : v'.ownBlock = v2.ownBlock ∨ v'.ownBlock = some Wo.heap.size) (hn : n = x.paths.length) (hlt : x.paths.length < 1024) :
    ThPost w B toks ({ x with paths := x.paths ++ [a] }, st) (.returned (.tuple #[])) (w6.setCell ⟨B, 7, none⟩ v') := by
  subst hn
  exact ⟨rfl, ⟨v1, v', v3, v4, v5, v6, (close_cur h hs.r2 hWo hg).set 2 v', rows_path hs ho (close_ch hWo hg) (close_ob hWo hob) (ch_set _ _ _ _) hlt⟩, close_below hB hcw hs.r2 (close_ch hWo hg) _ rfl _⟩

theorem door_close {w W Wo w6 : World} {B : Nat} {toks : List Tok} {x : SheetM} {v1 v2 v3 v4 v5 v6 v' : Value} {st : St} {a : DoorM} {n : Nat} (hB : B < w.heap.size) (hcw : Ch (· = B) w W) (h : RCur W B toks (shq x v1 v2 v3 v4 v5 v6) st) (hs : ShRows W B x v1 v2 v3 v4 v5 v6) (hWo : Ch (fun _ => False) W Wo) (hg : Wo.grownBy w6 v3.ownBlock)
    (ho : w6.ownsRow (B + 1) 35 7 v' (n + 1) (cs doC x.doors ++ doC a)) (hob : v'.ownBlock = v3.ownBlock ∨ v'.ownBlock = some Wo.heap.size) (hn : n = x.doors.length) (hlt : x.doors.length < 256) :
    ThPost w B toks ({ x with doors := x.doors ++ [a] }, st) (.returned (.tuple #[])) (w6.setCell ⟨B, 8, none⟩ v') := by
  subst hn
  exact ⟨rfl, ⟨v1, v2, v', v4, v5, v6, (close_cur h hs.r3 hWo hg).set 3 v', rows_door hs ho (close_ch hWo hg) (close_ob hWo hob) (ch_set _ _ _ _) hlt⟩, close_below hB hcw hs.r3 (close_ch hWo hg) _ rfl _⟩

theorem trip_close {w W Wo w6 : World} {B : Nat} {toks : List Tok} {x : SheetM} {v1 v2 v3 v4 v5 v6 v' : Value} {st : St} {a : TripM} {n : Nat} (hB : B < w.heap.size) (hcw : Ch (· = B) w W) (h : RCur W B toks (shq x v1 v2 v3 v4 v5 v6) st) (hs : ShRows W B x v1 v2 v3 v4 v5 v6) (hWo : Ch (fun _ => False) W Wo) (hg : Wo.grownBy w6 v5.ownBlock)
    (ho : w6.ownsRow (B + 1) 40 5 v' (n + 1) (cs trC x.trips ++ trC a)) (hob : v'.ownBlock = v5.ownBlock ∨ v'.ownBlock = some Wo.heap.size) (hn : n = x.trips.length) (hlt : x.trips.length < 1024) :
    ThPost w B toks ({ x with trips := x.trips ++ [a] }, st) (.returned (.tuple #[])) (w6.setCell ⟨B, 10, none⟩ v') := by
  subst hn
  exact ⟨rfl, ⟨v1, v2, v3, v4, v', v6, (close_cur h hs.r5 hWo hg).set 5 v', rows_trip hs ho (close_ch hWo hg) (close_ob hWo hob) (ch_set _ _ _ _) hlt⟩, close_below hB hcw hs.r5 (close_ch hWo hg) _ rfl _⟩

theorem haz_close {w W Wo w6 : World} {B : Nat} {toks : List Tok} {x : SheetM} {v1 v2 v3 v4 v5 v6 v' : Value} {st : St} {a : HazM} {n : Nat} (hB : B < w.heap.size) (hcw : Ch (· = B) w W) (h : RCur W B toks (shq x v1 v2 v3 v4 v5 v6) st) (hs : ShRows W B x v1 v2 v3 v4 v5 v6) (hWo : Ch (fun _ => False) W Wo) (hg : Wo.grownBy w6 v6.ownBlock)
    (ho : w6.ownsRow (B + 1) 42 5 v' (n + 1) (cs haC x.hazards ++ haC a)) (hob : v'.ownBlock = v6.ownBlock ∨ v'.ownBlock = some Wo.heap.size) (hn : n = x.hazards.length) (hlt : x.hazards.length < 256) :
    ThPost w B toks ({ x with hazards := x.hazards ++ [a] }, st) (.returned (.tuple #[])) (w6.setCell ⟨B, 11, none⟩ v') := by
  subst hn
  exact ⟨rfl, ⟨v1, v2, v3, v4, v5, v', (close_cur h hs.r6 hWo hg).set 6 v', rows_haz hs ho (close_ch hWo hg) (close_ob hWo hob) (ch_set _ _ _ _) hlt⟩, close_below hB hcw hs.r6 (close_ch hWo hg) _ rfl _⟩

set_option maxHeartbeats 8000000 in
theorem thing_path {w : World} {B : Nat} {toks : List Tok} {x : SheetM} {v1 v2 v3 v4 v5 v6 : Value} {st : St} (h : RCur w B toks (shq x v1 v2 v3 v4 v5 v6) st) (hs : ShRows w B x v1 v2 v3 v4 v5 v6) (hlt : x.paths.length < 1024) :
    Calls Tryz.prog 93 #[.pointer (some ⟨B, 0, none⟩), .string ⟨#[112, 97, 116, 104]⟩] w (ThPost w B toks ({ x with paths := x.paths ++ [(pathS st).1] }, (pathS st).2)) := by
  have hB := h.lt
  have HS := Lib.hid hs
  obtain ⟨n, hn⟩ : ∃ n, n = x.paths.length := ⟨_, rfl⟩
  have HN := Lib.hid hn
  have HLT := Lib.hid hlt
  have hn2 : n ≤ 1024 := by omega
  have H1 := Lib.hid (name_go h)
  clear h hs hn hlt
  go_enter Tryz.func93, Tryz.ntmps93
  go_upto_region 10 with (first
    | (go_at_call 59; (with_reducible refine H4.out.mono ?_); rintro e w4 ⟨rfl, h4, c4⟩; have HH4 := Lib.hid h4; have CC4 := Lib.hid c4; clear h4 c4)
    | (go_at_call 117; (with_reducible refine H3.out.mono ?_); rintro e w3 ⟨rfl, h3, c3⟩; have H4 := Lib.hid (num_go h3); have HH3 := Lib.hid h3; have CC3 := Lib.hid c3; clear h3 c3)
    | (go_at_call 117; (with_reducible refine H2.out.mono ?_); rintro e w2 ⟨rfl, h2, c2⟩; have H3 := Lib.hid (name_go h2); have HH2 := Lib.hid h2; have CC2 := Lib.hid c2; clear h2 c2)
    | (go_at_call 117; (with_reducible refine H1.out.mono ?_); rintro e w1 ⟨rfl, h1, c1⟩; have H2 := Lib.hid (name_go h1); have HH1 := Lib.hid h1; have CC1 := Lib.hid c1; clear h1 c1)
    | fail)
  obtain ⟨W, hW⟩ : ∃ W, W = w4.alloc (.cells #[.string ⟨(nameS st).1.toArray⟩, .string ⟨(nameS ((nameS st).2)).1.toArray⟩, .string ⟨(nameS ((nameS (nameS st).2).2)).1.toArray⟩, .int .i64 (numS ((nameS (nameS (nameS st).2).2).2)).1] 31) := ⟨_, rfl⟩
  have HR : Hid (RCur W B toks (shq x v1 v2 v3 v4 v5 v6) (numS (nameS (nameS (nameS st).2).2).2).2) := Lib.hid (by rw [hW]; exact HH4.out.after (one_box _ _))
  have HCW : Hid (Ch (· = B) w W) := Lib.hid (by rw [hW]; exact (((CC1.out.trans CC2.out).trans CC3.out).trans CC4.out).alloc _)
  have KX : Hid (Blk W w4.heap.size 31 [.string ⟨(nameS st).1.toArray⟩, .string ⟨(nameS ((nameS st).2)).1.toArray⟩, .string ⟨(nameS ((nameS (nameS st).2).2)).1.toArray⟩, .int .i64 (numS ((nameS (nameS (nameS st).2).2).2)).1]) := Lib.hid (by rw [hW]; exact Blk.new w4 _ _)
  rw [← hW]
  clear hW
  generalize w4.heap.size = b at KX ⊢
  have y0 : W.cell? ⟨b, 0, none⟩ = some (.string ⟨(nameS st).1.toArray⟩) := KX.out.cell 0
  have z0 : ∀ o, (W.alloc o).cell? ⟨b, 0, none⟩ = some (.string ⟨(nameS st).1.toArray⟩) := fun o => (KX.out.alloc o).cell 0
  have y1 : W.cell? ⟨b, 1, none⟩ = some (.string ⟨(nameS ((nameS st).2)).1.toArray⟩) := KX.out.cell 1
  have z1 : ∀ o, (W.alloc o).cell? ⟨b, 1, none⟩ = some (.string ⟨(nameS ((nameS st).2)).1.toArray⟩) := fun o => (KX.out.alloc o).cell 1
  have y2 : W.cell? ⟨b, 2, none⟩ = some (.string ⟨(nameS ((nameS (nameS st).2).2)).1.toArray⟩) := KX.out.cell 2
  have z2 : ∀ o, (W.alloc o).cell? ⟨b, 2, none⟩ = some (.string ⟨(nameS ((nameS (nameS st).2).2)).1.toArray⟩) := fun o => (KX.out.alloc o).cell 2
  have y3 : W.cell? ⟨b, 3, none⟩ = some (.int .i64 (numS ((nameS (nameS (nameS st).2).2).2)).1) := KX.out.cell 3
  have z3 : ∀ o, (W.alloc o).cell? ⟨b, 3, none⟩ = some (.int .i64 (numS ((nameS (nameS (nameS st).2).2).2)).1) := fun o => (KX.out.alloc o).cell 3
  have HSW := Lib.hid (HS.out.ch HCW.out (fun k hk e => by omega))
  have OV : Hid (W.ownsRow (B + 1) 31 4 v2 n (cs paC x.paths)) := Lib.hid (by rw [HN.out]; exact HSW.out.r2)
  have k1 : W.cell? ⟨B, 7, none⟩ = some v2 := HR.out.cell 2
  have k1' : ∀ o, (W.alloc o).cell? ⟨B, 7, none⟩ = some v2 := fun o => (HR.out.after (one_box _ _)).cell 2
  go_region_law (first
    | (refine step_append_g (by rfl) (.tmp 63) (.tmp 65) 23 (by rfl) (B + 1) 31 _ 4 56 Tryz.underlying23 info_Path rfl (by omega) (by omega) _ n (cs paC x.paths) (by rfl) (Lib.hid (own_after OV.out (by repeat (first | exact Below.refl _ _ | exact one_box _ _ | refine below_drewN ?_ _ | refine below_drew ?_ | refine Below.alloc ?_ (by first | omega | (simp; done) | (simp; omega)) _)))) _ _ 1 1 [.string ⟨(nameS st).1.toArray⟩, .string ⟨(nameS ((nameS st).2)).1.toArray⟩, .string ⟨(nameS ((nameS (nameS st).2).2)).1.toArray⟩, .int .i64 (numS ((nameS (nameS (nameS st).2).2).2)).1] (by rfl) (Lib.hid rfl) (by first | exact Lib.hid (litd_at2 _ _ _ _ _ (by simp) rfl) | exact Lib.hid (lit_at _ _ _ _ _ (by simp) rfl)) (by simp [Value.oneCell']) (by omega) (by first | omega | (have := HR.out.lt; simp; omega)) ?_; intro v' w6 hown hgrow hob; obtain ⟨A', c', rfl, -, -⟩ := own_form hown.out; have HR6 := Lib.hid (close_cur HR.out (HN.out ▸ OV.out) (by repeat (first | exact Ch.refl _ _ | refine Ch.drew ?_ | refine Ch.drewN ?_ _ | refine Ch.alloc ?_ _)) hgrow.out); have k6 : w6.cell? ⟨B, 7, none⟩ = some v2 := HR6.out.cell 2; have f6 : w6.frozen? ⟨B, 7, none⟩ = false := HR6.out.frozen 7)
    | fail)
  all_goals
    go_end0
    exact path_close hB HCW.out HR.out HSW.out (by repeat (first | exact Ch.refl _ _ | refine Ch.drew ?_ | refine Ch.drewN ?_ _ | refine Ch.alloc ?_ _)) hgrow.out hown.out hob.out HN.out HLT.out

set_option maxHeartbeats 4000000 in
theorem times_go {w : World} {B : Nat} {toks : List Tok} {st : St} {q : List Value} (h : RCur w B toks q st) (key : List UInt8) :
    Calls Tryz.prog 118 #[.pointer (some ⟨B, 0, none⟩), .string ⟨key.toArray⟩] w (RPos w B toks q (.agg #[.int .i64 (timesS key st).1.frm, .int .i64 (timesS key st).1.every, .int .i64 (timesS key st).1.len]) (timesS key st).2) := by
  have hB := h.lt
  obtain ⟨b0, hb0⟩ : ∃ b0, b0 = w.heap.size := ⟨_, rfl⟩
  have KX0b0 := Lib.hid (Blk.new w 33 [.int .i64 0, .int .i64 0, .int .i64 0])
  have HR0 := Lib.hid (h.after (one_box w (.cells #[.int .i64 0, .int .i64 0, .int .i64 0] 33)))
  have HC0 := Lib.hid ((Ch.refl (· = B) w).alloc (.cells #[.int .i64 0, .int .i64 0, .int .i64 0] 33))
  have HGb0 : Hid (w.heap.size ≤ b0) := Lib.hid (by omega)
  clear h
  go_enter Tryz.func118, Tryz.ntmps118
  go_upto_region 1 with (fail)
  rw [← hb0] at KX0b0 ⊢
  clear hb0
  dsimp only [List.toArray] at KX0b0
  generalize w.alloc (.cells #[.int .i64 0, .int .i64 0, .int .i64 0] 33) = W0 at KX0b0 HR0 HC0 ⊢
  have hneb0 : ¬ b0 = B := by have := HGb0.out; omega
  have hneb0' : ¬ B = b0 := by omega
  have H1 : Hid (Calls Tryz.prog 120 #[.pointer (some ⟨B, 0, none⟩), .string ⟨#[102, 114, 111, 109]⟩] W0 (RPos W0 B toks q (.int .i64 (afterS kFrom st).1) (afterS kFrom st).2)) := Lib.hid (after_go HR0.out kFrom)
  go_upto_region 2 with (first
    | (go_at_call 120; (with_reducible refine H1.out.mono ?_); rintro e u1 ⟨rfl, h1, c1⟩; have KUb0 := Lib.hid (c1.blk KX0b0.out hneb0); have HU1 := Lib.hid h1; have CU1 := Lib.hid c1; clear h1 c1)
    | fail)
  obtain ⟨W1, hW1⟩ : ∃ W, W = u1.alloc (.cells #[.int .i64 (afterS kFrom st).1, .int .i64 0, .int .i64 0] 33) := ⟨_, rfl⟩
  have HR1 : Hid (RCur W1 B toks q (afterS kFrom st).2) := Lib.hid (by rw [hW1]; exact HU1.out.after (one_box _ _))
  have HC1 : Hid (Ch (· = B) w W1) := Lib.hid (by rw [hW1]; exact (HC0.out.trans CU1.out).alloc _)
  have KX1b0 : Hid (Blk W1 b0 33 [.int .i64 0, .int .i64 0, .int .i64 0]) := Lib.hid (by rw [hW1]; exact KUb0.out.alloc _)
  have KX1b1 : Hid (Blk W1 u1.heap.size 33 [.int .i64 (afterS kFrom st).1, .int .i64 0, .int .i64 0]) := Lib.hid (by rw [hW1]; exact Blk.new u1 _ _)
  have HGb1 : Hid (w.heap.size ≤ u1.heap.size) := Lib.hid (HC0.out.trans CU1.out).size
  have hnnb0b1 : b0 ≠ u1.heap.size := by have := KUb0.out.lt; omega
  rw [← hW1]
  clear hW1 KUb0
  generalize u1.heap.size = b1 at *
  have hneb1 : ¬ b1 = B := by have := HGb1.out; omega
  have hneb1' : ¬ B = b1 := by omega
  have H2 : Hid (Calls Tryz.prog 120 #[.pointer (some ⟨B, 0, none⟩), .string ⟨#[101, 118, 101, 114, 121]⟩] W1 (RPos W1 B toks q (.int .i64 (afterS kEvery (afterS kFrom st).2).1) (afterS kEvery (afterS kFrom st).2).2)) := Lib.hid (after_go HR1.out kEvery)
  go_upto_region 3 with (first
    | (go_at_call 120; (with_reducible refine H2.out.mono ?_); rintro e u2 ⟨rfl, h2, c2⟩; have KUb0 := Lib.hid (c2.blk KX1b0.out hneb0); have KUb1 := Lib.hid (c2.blk KX1b1.out hneb1); have q2_0 : u2.cell? ⟨b1, 1, none⟩ = some (.int .i64 0) := KUb1.out.cell 1; have qf2 := KUb1.out.frozen; have HU2 := Lib.hid h2; have CU2 := Lib.hid c2; clear h2 c2)
    | fail)
  obtain ⟨W2, hW2⟩ : ∃ W, W = (u2.setCell ⟨b1, 1, none⟩ (.int .i64 (afterS kEvery (afterS kFrom st).2).1)) := ⟨_, rfl⟩
  have HS2 : Hid (Ch (· = b1) u2 W2) := Lib.hid (by rw [hW2]; exact (Ch.refl (· = b1) u2).trans (ch_set _ b1 1 _))
  have HR2 : Hid (RCur W2 B toks q (afterS kEvery (afterS kFrom st).2).2) := Lib.hid (HU2.out.ch HS2.out (fun k hk => by have := HGb1.out; omega))
  have HC2 : Hid (Ch (· = B) w W2) := Lib.hid ((HC1.out.trans CU2.out).fresh HGb1.out HS2.out)
  have KX2b0 : Hid (Blk W2 b0 33 [.int .i64 0, .int .i64 0, .int .i64 0]) := Lib.hid (HS2.out.blk KUb0.out hnnb0b1)
  have KX2b1 : Hid (Blk W2 b1 33 [.int .i64 (afterS kFrom st).1, .int .i64 (afterS kEvery (afterS kFrom st).2).1, .int .i64 0]) := Lib.hid (by rw [hW2]; exact (KUb1.out.set_ 1 _))
  rw [← hW2]
  clear hW2 q2_0 qf2 KUb0 KUb1
  have H3 : Hid (Calls Tryz.prog 120 #[.pointer (some ⟨B, 0, none⟩), .string ⟨key.toArray⟩] W2 (RPos W2 B toks q (.int .i64 (afterS key (afterS kEvery (afterS kFrom st).2).2).1) (afterS key (afterS kEvery (afterS kFrom st).2).2).2)) := Lib.hid (after_go HR2.out key)
  go_upto_region 4 with (first
    | (go_at_call 120; (with_reducible refine H3.out.mono ?_); rintro e u3 ⟨rfl, h3, c3⟩; have KUb0 := Lib.hid (c3.blk KX2b0.out hneb0); have KUb1 := Lib.hid (c3.blk KX2b1.out hneb1); have q3_0 : u3.cell? ⟨b1, 2, none⟩ = some (.int .i64 0) := KUb1.out.cell 2; have qf3 := KUb1.out.frozen; have HU3 := Lib.hid h3; have CU3 := Lib.hid c3; clear h3 c3)
    | fail)
  obtain ⟨W3, hW3⟩ : ∃ W, W = (u3.setCell ⟨b1, 2, none⟩ (.int .i64 (afterS key (afterS kEvery (afterS kFrom st).2).2).1)) := ⟨_, rfl⟩
  have HS3 : Hid (Ch (· = b1) u3 W3) := Lib.hid (by rw [hW3]; exact (Ch.refl (· = b1) u3).trans (ch_set _ b1 2 _))
  have HR3 : Hid (RCur W3 B toks q (afterS key (afterS kEvery (afterS kFrom st).2).2).2) := Lib.hid (HU3.out.ch HS3.out (fun k hk => by have := HGb1.out; omega))
  have HC3 : Hid (Ch (· = B) w W3) := Lib.hid ((HC2.out.trans CU3.out).fresh HGb1.out HS3.out)
  have KX3b0 : Hid (Blk W3 b0 33 [.int .i64 0, .int .i64 0, .int .i64 0]) := Lib.hid (HS3.out.blk KUb0.out hnnb0b1)
  have KX3b1 : Hid (Blk W3 b1 33 [.int .i64 (afterS kFrom st).1, .int .i64 (afterS kEvery (afterS kFrom st).2).1, .int .i64 (afterS key (afterS kEvery (afterS kFrom st).2).2).1]) := Lib.hid (by rw [hW3]; exact (KUb1.out.set_ 2 _))
  rw [← hW3]
  clear hW3 q3_0 qf3 KUb0 KUb1
  have y0 : W3.cell? ⟨b1, 0, none⟩ = some (.int .i64 (afterS kFrom st).1) := KX3b1.out.cell 0
  have y1 : W3.cell? ⟨b1, 1, none⟩ = some (.int .i64 (afterS kEvery (afterS kFrom st).2).1) := KX3b1.out.cell 1
  have y2 : W3.cell? ⟨b1, 2, none⟩ = some (.int .i64 (afterS key (afterS kEvery (afterS kFrom st).2).2).1) := KX3b1.out.cell 2
  have x0 : W3.cell? ⟨b0, 0, none⟩ = some (.int .i64 0) := KX3b0.out.cell 0
  have x1 : W3.cell? ⟨b0, 1, none⟩ = some (.int .i64 0) := KX3b0.out.cell 1
  have x2 : W3.cell? ⟨b0, 2, none⟩ = some (.int .i64 0) := KX3b0.out.cell 2
  have xf := KX3b0.out.frozen
  have hnx : b1 ≠ b0 := fun e => hnnb0b1 e.symm
  go_wp2
  refine bodyPost_ret (times_res rfl (set3 KX3b0.out _ _ _)) rfl ?_
  exact ⟨rfl, HR3.out.ch (ch_set3 W3 b0 _ _ _) (fun k hk => by have := HGb0.out; omega), HC3.out.fresh HGb0.out (ch_set3 W3 b0 _ _ _)⟩

set_option maxHeartbeats 8000000 in
theorem thing_door {w : World} {B : Nat} {toks : List Tok} {x : SheetM} {v1 v2 v3 v4 v5 v6 : Value} {st : St} (h : RCur w B toks (shq x v1 v2 v3 v4 v5 v6) st) (hs : ShRows w B x v1 v2 v3 v4 v5 v6) (hlt : x.doors.length < 256) :
    Calls Tryz.prog 93 #[.pointer (some ⟨B, 0, none⟩), .string ⟨#[100, 111, 111, 114]⟩] w (ThPost w B toks ({ x with doors := x.doors ++ [(doorS st).1] }, (doorS st).2)) := by
  have hB := h.lt
  have HS := Lib.hid hs
  obtain ⟨n, hn⟩ : ∃ n, n = x.doors.length := ⟨_, rfl⟩
  have HN := Lib.hid hn
  have HLT := Lib.hid hlt
  have hn2 : n ≤ 1024 := by omega
  have H1 := Lib.hid (name_go h)
  clear hs hn hlt
  go_enter Tryz.func93, Tryz.ntmps93
  go_upto_region 13 with (first
    | (go_at_call 59; (with_reducible refine H4.out.mono ?_); rintro e u4 ⟨rfl, h4, c4⟩; have HU4 := Lib.hid h4; have CU4 := Lib.hid c4; clear h4 c4)
    | (go_at_call 117; (with_reducible refine H3.out.mono ?_); rintro e u3 ⟨rfl, h3, c3⟩; have H4 := Lib.hid (num_go h3); have HU3 := Lib.hid h3; have CU3 := Lib.hid c3; clear h3 c3)
    | (go_at_call 117; (with_reducible refine H2.out.mono ?_); rintro e u2 ⟨rfl, h2, c2⟩; have H3 := Lib.hid (name_go h2); have HU2 := Lib.hid h2; have CU2 := Lib.hid c2; clear h2 c2)
    | (go_at_call 117; (with_reducible refine H1.out.mono ?_); rintro e u1 ⟨rfl, h1, c1⟩; have H2 := Lib.hid (name_go h1); have HU1 := Lib.hid h1; have CU1 := Lib.hid c1; clear h1 c1)
    | fail)
  obtain ⟨W4, hW4⟩ : ∃ W, W = u4.alloc (.cells #[.string ⟨(nameS st).1.toArray⟩, .string ⟨(nameS (nameS st).2).1.toArray⟩, .string ⟨(nameS (nameS (nameS st).2).2).1.toArray⟩, .int .i64 (numS (nameS (nameS (nameS st).2).2).2).1, .int .i64 0, .int .i64 0, .int .i64 0] 35) := ⟨_, rfl⟩
  have HR4 : Hid (RCur W4 B toks (shq x v1 v2 v3 v4 v5 v6) (numS (nameS (nameS (nameS st).2).2).2).2) := Lib.hid (by rw [hW4]; exact HU4.out.after (one_box _ _))
  have HC4 : Hid (Ch (· = B) w W4) := Lib.hid (by rw [hW4]; exact (((CU1.out.trans CU2.out).trans CU3.out).trans CU4.out).alloc _)
  have KX4b : Hid (Blk W4 u4.heap.size 35 [.string ⟨(nameS st).1.toArray⟩, .string ⟨(nameS (nameS st).2).1.toArray⟩, .string ⟨(nameS (nameS (nameS st).2).2).1.toArray⟩, .int .i64 (numS (nameS (nameS (nameS st).2).2).2).1, .int .i64 0, .int .i64 0, .int .i64 0]) := Lib.hid (by rw [hW4]; exact Blk.new u4 _ _)
  have HGb : Hid (w.heap.size ≤ u4.heap.size) := Lib.hid ((((CU1.out.trans CU2.out).trans CU3.out).trans CU4.out)).size
  rw [← hW4]
  clear hW4
  generalize u4.heap.size = b at *
  have hneb : ¬ b = B := by have := HGb.out; omega
  have hneb' : ¬ B = b := by omega
  have H5 : Hid (Calls Tryz.prog 118 #[.pointer (some ⟨B, 0, none⟩), .string ⟨#[111, 112, 101, 110]⟩] W4 (RPos W4 B toks (shq x v1 v2 v3 v4 v5 v6) (.agg #[.int .i64 (timesS kOpen (numS (nameS (nameS (nameS st).2).2).2).2).1.frm, .int .i64 (timesS kOpen (numS (nameS (nameS (nameS st).2).2).2).2).1.every, .int .i64 (timesS kOpen (numS (nameS (nameS (nameS st).2).2).2).2).1.len]) (timesS kOpen (numS (nameS (nameS (nameS st).2).2).2).2).2)) := Lib.hid (times_go HR4.out kOpen)
  go_upto_region 14 with (first
    | (go_at_call 118; (with_reducible refine H5.out.mono ?_); rintro e u5 ⟨rfl, h5, c5⟩; have KUb := Lib.hid (c5.blk KX4b.out hneb); have q5_0 : u5.cell? ⟨b, 4, none⟩ = some (.int .i64 0) := KUb.out.cell 4; have q5_1 : u5.cell? ⟨b, 5, none⟩ = some (.int .i64 0) := KUb.out.cell 5; have q5_2 : u5.cell? ⟨b, 6, none⟩ = some (.int .i64 0) := KUb.out.cell 6; have qf5 := KUb.out.frozen; have HU5 := Lib.hid h5; have CU5 := Lib.hid c5; clear h5 c5)
    | fail)
  obtain ⟨W5, hW5⟩ : ∃ W, W = (((u5.setCell ⟨b, 4, none⟩ (.int .i64 (timesS kOpen (numS (nameS (nameS (nameS st).2).2).2).2).1.frm)).setCell ⟨b, 5, none⟩ (.int .i64 (timesS kOpen (numS (nameS (nameS (nameS st).2).2).2).2).1.every)).setCell ⟨b, 6, none⟩ (.int .i64 (timesS kOpen (numS (nameS (nameS (nameS st).2).2).2).2).1.len)) := ⟨_, rfl⟩
  have HS5 : Hid (Ch (· = b) u5 W5) := Lib.hid (by rw [hW5]; exact (((Ch.refl (· = b) u5).trans (ch_set _ b 4 _)).trans (ch_set _ b 5 _)).trans (ch_set _ b 6 _))
  have HR5 : Hid (RCur W5 B toks (shq x v1 v2 v3 v4 v5 v6) (timesS kOpen (numS (nameS (nameS (nameS st).2).2).2).2).2) := Lib.hid (HU5.out.ch HS5.out (fun k hk => by have := HGb.out; omega))
  have HC5 : Hid (Ch (· = B) w W5) := Lib.hid ((HC4.out.trans CU5.out).fresh HGb.out HS5.out)
  have KX5b : Hid (Blk W5 b 35 [.string ⟨(nameS st).1.toArray⟩, .string ⟨(nameS (nameS st).2).1.toArray⟩, .string ⟨(nameS (nameS (nameS st).2).2).1.toArray⟩, .int .i64 (numS (nameS (nameS (nameS st).2).2).2).1, .int .i64 (timesS kOpen (numS (nameS (nameS (nameS st).2).2).2).2).1.frm, .int .i64 (timesS kOpen (numS (nameS (nameS (nameS st).2).2).2).2).1.every, .int .i64 (timesS kOpen (numS (nameS (nameS (nameS st).2).2).2).2).1.len]) := Lib.hid (by rw [hW5]; exact (((KUb.out.set_ 4 _).set_ 5 _).set_ 6 _))
  rw [← hW5]
  clear hW5 q5_0 q5_1 q5_2 qf5 KUb
  have HR := HR5
  have HCW := HC5
  have y0 : W5.cell? ⟨b, 0, none⟩ = some (.string ⟨(nameS st).1.toArray⟩) := KX5b.out.cell 0
  have z0 : ∀ o, (W5.alloc o).cell? ⟨b, 0, none⟩ = some (.string ⟨(nameS st).1.toArray⟩) := fun o => (KX5b.out.alloc o).cell 0
  have y1 : W5.cell? ⟨b, 1, none⟩ = some (.string ⟨(nameS (nameS st).2).1.toArray⟩) := KX5b.out.cell 1
  have z1 : ∀ o, (W5.alloc o).cell? ⟨b, 1, none⟩ = some (.string ⟨(nameS (nameS st).2).1.toArray⟩) := fun o => (KX5b.out.alloc o).cell 1
  have y2 : W5.cell? ⟨b, 2, none⟩ = some (.string ⟨(nameS (nameS (nameS st).2).2).1.toArray⟩) := KX5b.out.cell 2
  have z2 : ∀ o, (W5.alloc o).cell? ⟨b, 2, none⟩ = some (.string ⟨(nameS (nameS (nameS st).2).2).1.toArray⟩) := fun o => (KX5b.out.alloc o).cell 2
  have y3 : W5.cell? ⟨b, 3, none⟩ = some (.int .i64 (numS (nameS (nameS (nameS st).2).2).2).1) := KX5b.out.cell 3
  have z3 : ∀ o, (W5.alloc o).cell? ⟨b, 3, none⟩ = some (.int .i64 (numS (nameS (nameS (nameS st).2).2).2).1) := fun o => (KX5b.out.alloc o).cell 3
  have y4 : W5.cell? ⟨b, 4, none⟩ = some (.int .i64 (timesS kOpen (numS (nameS (nameS (nameS st).2).2).2).2).1.frm) := KX5b.out.cell 4
  have z4 : ∀ o, (W5.alloc o).cell? ⟨b, 4, none⟩ = some (.int .i64 (timesS kOpen (numS (nameS (nameS (nameS st).2).2).2).2).1.frm) := fun o => (KX5b.out.alloc o).cell 4
  have y5 : W5.cell? ⟨b, 5, none⟩ = some (.int .i64 (timesS kOpen (numS (nameS (nameS (nameS st).2).2).2).2).1.every) := KX5b.out.cell 5
  have z5 : ∀ o, (W5.alloc o).cell? ⟨b, 5, none⟩ = some (.int .i64 (timesS kOpen (numS (nameS (nameS (nameS st).2).2).2).2).1.every) := fun o => (KX5b.out.alloc o).cell 5
  have y6 : W5.cell? ⟨b, 6, none⟩ = some (.int .i64 (timesS kOpen (numS (nameS (nameS (nameS st).2).2).2).2).1.len) := KX5b.out.cell 6
  have z6 : ∀ o, (W5.alloc o).cell? ⟨b, 6, none⟩ = some (.int .i64 (timesS kOpen (numS (nameS (nameS (nameS st).2).2).2).2).1.len) := fun o => (KX5b.out.alloc o).cell 6
  have HSW := Lib.hid (HS.out.ch HCW.out (fun k hk e => by omega))
  have OV : Hid (W5.ownsRow (B + 1) 35 7 v3 n (cs doC x.doors)) := Lib.hid (by rw [HN.out]; exact HSW.out.r3)
  have k1 : W5.cell? ⟨B, 8, none⟩ = some v3 := HR.out.cell 3
  have k1' : ∀ o, (W5.alloc o).cell? ⟨B, 8, none⟩ = some v3 := fun o => (HR.out.after (one_box _ _)).cell 3
  go_region_law (first
    | (refine step_append_g (by rfl) (.tmp 89) (.tmp 91) 24 (by rfl) (B + 1) 35 _ 7 80 Tryz.underlying24 info_Door rfl (by omega) (by omega) _ n (cs doC x.doors) (by rfl) (Lib.hid (own_after OV.out (by repeat (first | exact Below.refl _ _ | exact one_box _ _ | refine below_drewN ?_ _ | refine below_drew ?_ | refine Below.alloc ?_ (by first | omega | (simp; done) | (simp; omega)) _)))) _ _ 1 1 [.string ⟨(nameS st).1.toArray⟩, .string ⟨(nameS (nameS st).2).1.toArray⟩, .string ⟨(nameS (nameS (nameS st).2).2).1.toArray⟩, .int .i64 (numS (nameS (nameS (nameS st).2).2).2).1, .int .i64 (timesS kOpen (numS (nameS (nameS (nameS st).2).2).2).2).1.frm, .int .i64 (timesS kOpen (numS (nameS (nameS (nameS st).2).2).2).2).1.every, .int .i64 (timesS kOpen (numS (nameS (nameS (nameS st).2).2).2).2).1.len] (by rfl) (Lib.hid rfl) (by first | exact Lib.hid (litd_at2 _ _ _ _ _ (by simp) rfl) | exact Lib.hid (lit_at _ _ _ _ _ (by simp) rfl)) (by simp [Value.oneCell']) (by omega) (by first | omega | (have := HR.out.lt; simp; omega)) ?_; intro v' w6 hown hgrow hob; obtain ⟨A', c', rfl, -, -⟩ := own_form hown.out; have HR6 := Lib.hid (close_cur HR.out (HN.out ▸ OV.out) (by repeat (first | exact Ch.refl _ _ | refine Ch.drew ?_ | refine Ch.drewN ?_ _ | refine Ch.alloc ?_ _)) hgrow.out); have k6 : w6.cell? ⟨B, 8, none⟩ = some v3 := HR6.out.cell 3; have f6 : w6.frozen? ⟨B, 8, none⟩ = false := HR6.out.frozen 8)
    | fail)
  all_goals
    go_end0
    exact door_close hB HCW.out HR.out HSW.out (by repeat (first | exact Ch.refl _ _ | refine Ch.drew ?_ | refine Ch.drewN ?_ _ | refine Ch.alloc ?_ _)) hgrow.out hown.out hob.out HN.out HLT.out

set_option maxHeartbeats 8000000 in
theorem thing_trip {w : World} {B : Nat} {toks : List Tok} {x : SheetM} {v1 v2 v3 v4 v5 v6 : Value} {st : St} (h : RCur w B toks (shq x v1 v2 v3 v4 v5 v6) st) (hs : ShRows w B x v1 v2 v3 v4 v5 v6) (hlt : x.trips.length < 1024) :
    Calls Tryz.prog 93 #[.pointer (some ⟨B, 0, none⟩), .string ⟨#[116, 114, 105, 112]⟩] w (ThPost w B toks ({ x with trips := x.trips ++ [(tripS st).1] }, (tripS st).2)) := by
  have hB := h.lt
  have HS := Lib.hid hs
  obtain ⟨n, hn⟩ : ∃ n, n = x.trips.length := ⟨_, rfl⟩
  have HN := Lib.hid hn
  have HLT := Lib.hid hlt
  have hn2 : n ≤ 1024 := by omega
  have H1 := Lib.hid (name_go h)
  clear hs hn hlt
  go_enter Tryz.func93, Tryz.ntmps93
  go_upto_region 19 with (first
    | (go_at_call 117; (with_reducible refine H1.out.mono ?_); rintro e u1 ⟨rfl, h1, c1⟩; have HU1 := Lib.hid h1; have CU1 := Lib.hid c1; clear h1 c1)
    | fail)
  obtain ⟨W1, hW1⟩ : ∃ W, W = u1.alloc (.cells #[.string ⟨(nameS st).1.toArray⟩, .string ⟨#[]⟩, .int .i64 0, .int .i64 0, .int .i64 0] 40) := ⟨_, rfl⟩
  have HR1 : Hid (RCur W1 B toks (shq x v1 v2 v3 v4 v5 v6) (nameS st).2) := Lib.hid (by rw [hW1]; exact HU1.out.after (one_box _ _))
  have HC1 : Hid (Ch (· = B) w W1) := Lib.hid (by rw [hW1]; exact CU1.out.alloc _)
  have KX1b : Hid (Blk W1 u1.heap.size 40 [.string ⟨(nameS st).1.toArray⟩, .string ⟨#[]⟩, .int .i64 0, .int .i64 0, .int .i64 0]) := Lib.hid (by rw [hW1]; exact Blk.new u1 _ _)
  have HGb : Hid (w.heap.size ≤ u1.heap.size) := Lib.hid (CU1.out).size
  rw [← hW1]
  clear hW1
  generalize u1.heap.size = b at *
  have hneb : ¬ b = B := by have := HGb.out; omega
  have hneb' : ¬ B = b := by omega
  have H2 : Hid (Calls Tryz.prog 58 #[.pointer (some ⟨B, 0, none⟩), .string ⟨#[111, 102]⟩] W1 (RPos W1 B toks (shq x v1 v2 v3 v4 v5 v6) (.tuple #[]) (keyS kOf (nameS st).2))) := Lib.hid (key_go HR1.out kOf)
  go_upto_region 20 with (first
    | (go_at_call 58; (with_reducible refine H2.out.mono ?_); rintro e u2 ⟨rfl, h2, c2⟩; have KUb := Lib.hid (c2.blk KX1b.out hneb); have HU2 := Lib.hid h2; have CU2 := Lib.hid c2; clear h2 c2)
    | fail)
  have HR2 : Hid (RCur u2 B toks (shq x v1 v2 v3 v4 v5 v6) (keyS kOf (nameS st).2)) := HU2
  have HC2 : Hid (Ch (· = B) w u2) := Lib.hid (HC1.out.trans CU2.out)
  have KX2b := KUb
  clear KUb
  have H3 : Hid (Calls Tryz.prog 117 #[.pointer (some ⟨B, 0, none⟩)] u2 (RPos u2 B toks (shq x v1 v2 v3 v4 v5 v6) (.string ⟨(nameS (keyS kOf (nameS st).2)).1.toArray⟩) (nameS (keyS kOf (nameS st).2)).2)) := Lib.hid (name_go HR2.out)
  go_upto_region 21 with (first
    | (go_at_call 117; (with_reducible refine H3.out.mono ?_); rintro e u3 ⟨rfl, h3, c3⟩; have KUb := Lib.hid (c3.blk KX2b.out hneb); have q3_0 : u3.cell? ⟨b, 1, none⟩ = some (.string ⟨#[]⟩) := KUb.out.cell 1; have qf3 := KUb.out.frozen; have HU3 := Lib.hid h3; have CU3 := Lib.hid c3; clear h3 c3)
    | fail)
  obtain ⟨W3, hW3⟩ : ∃ W, W = (u3.setCell ⟨b, 1, none⟩ (.string ⟨(nameS (keyS kOf (nameS st).2)).1.toArray⟩)) := ⟨_, rfl⟩
  have HS3 : Hid (Ch (· = b) u3 W3) := Lib.hid (by rw [hW3]; exact (Ch.refl (· = b) u3).trans (ch_set _ b 1 _))
  have HR3 : Hid (RCur W3 B toks (shq x v1 v2 v3 v4 v5 v6) (nameS (keyS kOf (nameS st).2)).2) := Lib.hid (HU3.out.ch HS3.out (fun k hk => by have := HGb.out; omega))
  have HC3 : Hid (Ch (· = B) w W3) := Lib.hid ((HC2.out.trans CU3.out).fresh HGb.out HS3.out)
  have KX3b : Hid (Blk W3 b 40 [.string ⟨(nameS st).1.toArray⟩, .string ⟨(nameS (keyS kOf (nameS st).2)).1.toArray⟩, .int .i64 0, .int .i64 0, .int .i64 0]) := Lib.hid (by rw [hW3]; exact (KUb.out.set_ 1 _))
  rw [← hW3]
  clear hW3 q3_0 qf3 KUb
  have H4 : Hid (Calls Tryz.prog 120 #[.pointer (some ⟨B, 0, none⟩), .string ⟨#[102, 114, 111, 109]⟩] W3 (RPos W3 B toks (shq x v1 v2 v3 v4 v5 v6) (.int .i64 (afterS kFrom (nameS (keyS kOf (nameS st).2)).2).1) (afterS kFrom (nameS (keyS kOf (nameS st).2)).2).2)) := Lib.hid (after_go HR3.out kFrom)
  go_upto_region 22 with (first
    | (go_at_call 120; (with_reducible refine H4.out.mono ?_); rintro e u4 ⟨rfl, h4, c4⟩; have KUb := Lib.hid (c4.blk KX3b.out hneb); have q4_0 : u4.cell? ⟨b, 2, none⟩ = some (.int .i64 0) := KUb.out.cell 2; have qf4 := KUb.out.frozen; have HU4 := Lib.hid h4; have CU4 := Lib.hid c4; clear h4 c4)
    | fail)
  obtain ⟨W4, hW4⟩ : ∃ W, W = (u4.setCell ⟨b, 2, none⟩ (.int .i64 (afterS kFrom (nameS (keyS kOf (nameS st).2)).2).1)) := ⟨_, rfl⟩
  have HS4 : Hid (Ch (· = b) u4 W4) := Lib.hid (by rw [hW4]; exact (Ch.refl (· = b) u4).trans (ch_set _ b 2 _))
  have HR4 : Hid (RCur W4 B toks (shq x v1 v2 v3 v4 v5 v6) (afterS kFrom (nameS (keyS kOf (nameS st).2)).2).2) := Lib.hid (HU4.out.ch HS4.out (fun k hk => by have := HGb.out; omega))
  have HC4 : Hid (Ch (· = B) w W4) := Lib.hid ((HC3.out.trans CU4.out).fresh HGb.out HS4.out)
  have KX4b : Hid (Blk W4 b 40 [.string ⟨(nameS st).1.toArray⟩, .string ⟨(nameS (keyS kOf (nameS st).2)).1.toArray⟩, .int .i64 (afterS kFrom (nameS (keyS kOf (nameS st).2)).2).1, .int .i64 0, .int .i64 0]) := Lib.hid (by rw [hW4]; exact (KUb.out.set_ 2 _))
  rw [← hW4]
  clear hW4 q4_0 qf4 KUb
  have H5 : Hid (Calls Tryz.prog 120 #[.pointer (some ⟨B, 0, none⟩), .string ⟨#[101, 118, 101, 114, 121]⟩] W4 (RPos W4 B toks (shq x v1 v2 v3 v4 v5 v6) (.int .i64 (afterS kEvery (afterS kFrom (nameS (keyS kOf (nameS st).2)).2).2).1) (afterS kEvery (afterS kFrom (nameS (keyS kOf (nameS st).2)).2).2).2)) := Lib.hid (after_go HR4.out kEvery)
  go_upto_region 23 with (first
    | (go_at_call 120; (with_reducible refine H5.out.mono ?_); rintro e u5 ⟨rfl, h5, c5⟩; have KUb := Lib.hid (c5.blk KX4b.out hneb); have q5_0 : u5.cell? ⟨b, 3, none⟩ = some (.int .i64 0) := KUb.out.cell 3; have qf5 := KUb.out.frozen; have HU5 := Lib.hid h5; have CU5 := Lib.hid c5; clear h5 c5)
    | fail)
  obtain ⟨W5, hW5⟩ : ∃ W, W = (u5.setCell ⟨b, 3, none⟩ (.int .i64 (afterS kEvery (afterS kFrom (nameS (keyS kOf (nameS st).2)).2).2).1)) := ⟨_, rfl⟩
  have HS5 : Hid (Ch (· = b) u5 W5) := Lib.hid (by rw [hW5]; exact (Ch.refl (· = b) u5).trans (ch_set _ b 3 _))
  have HR5 : Hid (RCur W5 B toks (shq x v1 v2 v3 v4 v5 v6) (afterS kEvery (afterS kFrom (nameS (keyS kOf (nameS st).2)).2).2).2) := Lib.hid (HU5.out.ch HS5.out (fun k hk => by have := HGb.out; omega))
  have HC5 : Hid (Ch (· = B) w W5) := Lib.hid ((HC4.out.trans CU5.out).fresh HGb.out HS5.out)
  have KX5b : Hid (Blk W5 b 40 [.string ⟨(nameS st).1.toArray⟩, .string ⟨(nameS (keyS kOf (nameS st).2)).1.toArray⟩, .int .i64 (afterS kFrom (nameS (keyS kOf (nameS st).2)).2).1, .int .i64 (afterS kEvery (afterS kFrom (nameS (keyS kOf (nameS st).2)).2).2).1, .int .i64 0]) := Lib.hid (by rw [hW5]; exact (KUb.out.set_ 3 _))
  rw [← hW5]
  clear hW5 q5_0 qf5 KUb
  have H6 : Hid (Calls Tryz.prog 120 #[.pointer (some ⟨B, 0, none⟩), .string ⟨#[117, 110, 116, 105, 108]⟩] W5 (RPos W5 B toks (shq x v1 v2 v3 v4 v5 v6) (.int .i64 (afterS kUntil (afterS kEvery (afterS kFrom (nameS (keyS kOf (nameS st).2)).2).2).2).1) (afterS kUntil (afterS kEvery (afterS kFrom (nameS (keyS kOf (nameS st).2)).2).2).2).2)) := Lib.hid (after_go HR5.out kUntil)
  go_upto_region 24 with (first
    | (go_at_call 120; (with_reducible refine H6.out.mono ?_); rintro e u6 ⟨rfl, h6, c6⟩; have KUb := Lib.hid (c6.blk KX5b.out hneb); have q6_0 : u6.cell? ⟨b, 4, none⟩ = some (.int .i64 0) := KUb.out.cell 4; have qf6 := KUb.out.frozen; have HU6 := Lib.hid h6; have CU6 := Lib.hid c6; clear h6 c6)
    | fail)
  obtain ⟨W6, hW6⟩ : ∃ W, W = (u6.setCell ⟨b, 4, none⟩ (.int .i64 (afterS kUntil (afterS kEvery (afterS kFrom (nameS (keyS kOf (nameS st).2)).2).2).2).1)) := ⟨_, rfl⟩
  have HS6 : Hid (Ch (· = b) u6 W6) := Lib.hid (by rw [hW6]; exact (Ch.refl (· = b) u6).trans (ch_set _ b 4 _))
  have HR6 : Hid (RCur W6 B toks (shq x v1 v2 v3 v4 v5 v6) (afterS kUntil (afterS kEvery (afterS kFrom (nameS (keyS kOf (nameS st).2)).2).2).2).2) := Lib.hid (HU6.out.ch HS6.out (fun k hk => by have := HGb.out; omega))
  have HC6 : Hid (Ch (· = B) w W6) := Lib.hid ((HC5.out.trans CU6.out).fresh HGb.out HS6.out)
  have KX6b : Hid (Blk W6 b 40 [.string ⟨(nameS st).1.toArray⟩, .string ⟨(nameS (keyS kOf (nameS st).2)).1.toArray⟩, .int .i64 (afterS kFrom (nameS (keyS kOf (nameS st).2)).2).1, .int .i64 (afterS kEvery (afterS kFrom (nameS (keyS kOf (nameS st).2)).2).2).1, .int .i64 (afterS kUntil (afterS kEvery (afterS kFrom (nameS (keyS kOf (nameS st).2)).2).2).2).1]) := Lib.hid (by rw [hW6]; exact (KUb.out.set_ 4 _))
  rw [← hW6]
  clear hW6 q6_0 qf6 KUb
  have HR := HR6
  have HCW := HC6
  have y0 : W6.cell? ⟨b, 0, none⟩ = some (.string ⟨(nameS st).1.toArray⟩) := KX6b.out.cell 0
  have z0 : ∀ o, (W6.alloc o).cell? ⟨b, 0, none⟩ = some (.string ⟨(nameS st).1.toArray⟩) := fun o => (KX6b.out.alloc o).cell 0
  have y1 : W6.cell? ⟨b, 1, none⟩ = some (.string ⟨(nameS (keyS kOf (nameS st).2)).1.toArray⟩) := KX6b.out.cell 1
  have z1 : ∀ o, (W6.alloc o).cell? ⟨b, 1, none⟩ = some (.string ⟨(nameS (keyS kOf (nameS st).2)).1.toArray⟩) := fun o => (KX6b.out.alloc o).cell 1
  have y2 : W6.cell? ⟨b, 2, none⟩ = some (.int .i64 (afterS kFrom (nameS (keyS kOf (nameS st).2)).2).1) := KX6b.out.cell 2
  have z2 : ∀ o, (W6.alloc o).cell? ⟨b, 2, none⟩ = some (.int .i64 (afterS kFrom (nameS (keyS kOf (nameS st).2)).2).1) := fun o => (KX6b.out.alloc o).cell 2
  have y3 : W6.cell? ⟨b, 3, none⟩ = some (.int .i64 (afterS kEvery (afterS kFrom (nameS (keyS kOf (nameS st).2)).2).2).1) := KX6b.out.cell 3
  have z3 : ∀ o, (W6.alloc o).cell? ⟨b, 3, none⟩ = some (.int .i64 (afterS kEvery (afterS kFrom (nameS (keyS kOf (nameS st).2)).2).2).1) := fun o => (KX6b.out.alloc o).cell 3
  have y4 : W6.cell? ⟨b, 4, none⟩ = some (.int .i64 (afterS kUntil (afterS kEvery (afterS kFrom (nameS (keyS kOf (nameS st).2)).2).2).2).1) := KX6b.out.cell 4
  have z4 : ∀ o, (W6.alloc o).cell? ⟨b, 4, none⟩ = some (.int .i64 (afterS kUntil (afterS kEvery (afterS kFrom (nameS (keyS kOf (nameS st).2)).2).2).2).1) := fun o => (KX6b.out.alloc o).cell 4
  have HSW := Lib.hid (HS.out.ch HCW.out (fun k hk e => by omega))
  have OV : Hid (W6.ownsRow (B + 1) 40 5 v5 n (cs trC x.trips)) := Lib.hid (by rw [HN.out]; exact HSW.out.r5)
  have k1 : W6.cell? ⟨B, 10, none⟩ = some v5 := HR.out.cell 5
  have k1' : ∀ o, (W6.alloc o).cell? ⟨B, 10, none⟩ = some v5 := fun o => (HR.out.after (one_box _ _)).cell 5
  go_region_law (first
    | (refine step_append_g (by rfl) (.tmp 135) (.tmp 137) 26 (by rfl) (B + 1) 40 _ 5 56 Tryz.underlying26 info_Trip rfl (by omega) (by omega) _ n (cs trC x.trips) (by rfl) (Lib.hid (own_after OV.out (by repeat (first | exact Below.refl _ _ | exact one_box _ _ | refine below_drewN ?_ _ | refine below_drew ?_ | refine Below.alloc ?_ (by first | omega | (simp; done) | (simp; omega)) _)))) _ _ 1 1 [.string ⟨(nameS st).1.toArray⟩, .string ⟨(nameS (keyS kOf (nameS st).2)).1.toArray⟩, .int .i64 (afterS kFrom (nameS (keyS kOf (nameS st).2)).2).1, .int .i64 (afterS kEvery (afterS kFrom (nameS (keyS kOf (nameS st).2)).2).2).1, .int .i64 (afterS kUntil (afterS kEvery (afterS kFrom (nameS (keyS kOf (nameS st).2)).2).2).2).1] (by rfl) (Lib.hid rfl) (by first | exact Lib.hid (litd_at2 _ _ _ _ _ (by simp) rfl) | exact Lib.hid (lit_at _ _ _ _ _ (by simp) rfl)) (by simp [Value.oneCell']) (by omega) (by first | omega | (have := HR.out.lt; simp; omega)) ?_; intro v' w6 hown hgrow hob; obtain ⟨A', c', rfl, -, -⟩ := own_form hown.out; have HR6 := Lib.hid (close_cur HR.out (HN.out ▸ OV.out) (by repeat (first | exact Ch.refl _ _ | refine Ch.drew ?_ | refine Ch.drewN ?_ _ | refine Ch.alloc ?_ _)) hgrow.out); have k6 : w6.cell? ⟨B, 10, none⟩ = some v5 := HR6.out.cell 5; have f6 : w6.frozen? ⟨B, 10, none⟩ = false := HR6.out.frozen 10)
    | fail)
  all_goals
    go_end0
    exact trip_close hB HCW.out HR.out HSW.out (by repeat (first | exact Ch.refl _ _ | refine Ch.drew ?_ | refine Ch.drewN ?_ _ | refine Ch.alloc ?_ _)) hgrow.out hown.out hob.out HN.out HLT.out

set_option maxHeartbeats 8000000 in
theorem thing_haz {w : World} {B : Nat} {toks : List Tok} {x : SheetM} {v1 v2 v3 v4 v5 v6 : Value} {st : St} (h : RCur w B toks (shq x v1 v2 v3 v4 v5 v6) st) (hs : ShRows w B x v1 v2 v3 v4 v5 v6) (hlt : x.hazards.length < 256) :
    Calls Tryz.prog 93 #[.pointer (some ⟨B, 0, none⟩), .string ⟨#[104, 97, 122, 97, 114, 100]⟩] w (ThPost w B toks ({ x with hazards := x.hazards ++ [(hazS st).1] }, (hazS st).2)) := by
  have hB := h.lt
  have HS := Lib.hid hs
  obtain ⟨n, hn⟩ : ∃ n, n = x.hazards.length := ⟨_, rfl⟩
  have HN := Lib.hid hn
  have HLT := Lib.hid hlt
  have hn2 : n ≤ 1024 := by omega
  have H1 := Lib.hid (name_go h)
  clear hs hn hlt
  go_enter Tryz.func93, Tryz.ntmps93
  go_upto_region 2 with (first
    | (go_at_call 117; (with_reducible refine H1.out.mono ?_); rintro e u1 ⟨rfl, h1, c1⟩; have HU1 := Lib.hid h1; have CU1 := Lib.hid c1; clear h1 c1)
    | fail)
  obtain ⟨W1, hW1⟩ : ∃ W, W = u1.alloc (.cells #[.string ⟨(nameS st).1.toArray⟩, .string ⟨#[]⟩, .int .i64 0, .int .i64 0, .int .i64 0] 42) := ⟨_, rfl⟩
  have HR1 : Hid (RCur W1 B toks (shq x v1 v2 v3 v4 v5 v6) (nameS st).2) := Lib.hid (by rw [hW1]; exact HU1.out.after (one_box _ _))
  have HC1 : Hid (Ch (· = B) w W1) := Lib.hid (by rw [hW1]; exact CU1.out.alloc _)
  have KX1b : Hid (Blk W1 u1.heap.size 42 [.string ⟨(nameS st).1.toArray⟩, .string ⟨#[]⟩, .int .i64 0, .int .i64 0, .int .i64 0]) := Lib.hid (by rw [hW1]; exact Blk.new u1 _ _)
  have HGb : Hid (w.heap.size ≤ u1.heap.size) := Lib.hid (CU1.out).size
  rw [← hW1]
  clear hW1
  generalize u1.heap.size = b at *
  have hneb : ¬ b = B := by have := HGb.out; omega
  have hneb' : ¬ B = b := by omega
  have H2 : Hid (Calls Tryz.prog 58 #[.pointer (some ⟨B, 0, none⟩), .string ⟨#[111, 110]⟩] W1 (RPos W1 B toks (shq x v1 v2 v3 v4 v5 v6) (.tuple #[]) (keyS kOn (nameS st).2))) := Lib.hid (key_go HR1.out kOn)
  go_upto_region 3 with (first
    | (go_at_call 58; (with_reducible refine H2.out.mono ?_); rintro e u2 ⟨rfl, h2, c2⟩; have KUb := Lib.hid (c2.blk KX1b.out hneb); have HU2 := Lib.hid h2; have CU2 := Lib.hid c2; clear h2 c2)
    | fail)
  have HR2 : Hid (RCur u2 B toks (shq x v1 v2 v3 v4 v5 v6) (keyS kOn (nameS st).2)) := HU2
  have HC2 : Hid (Ch (· = B) w u2) := Lib.hid (HC1.out.trans CU2.out)
  have KX2b := KUb
  clear KUb
  have H3 : Hid (Calls Tryz.prog 117 #[.pointer (some ⟨B, 0, none⟩)] u2 (RPos u2 B toks (shq x v1 v2 v3 v4 v5 v6) (.string ⟨(nameS (keyS kOn (nameS st).2)).1.toArray⟩) (nameS (keyS kOn (nameS st).2)).2)) := Lib.hid (name_go HR2.out)
  go_upto_region 4 with (first
    | (go_at_call 117; (with_reducible refine H3.out.mono ?_); rintro e u3 ⟨rfl, h3, c3⟩; have KUb := Lib.hid (c3.blk KX2b.out hneb); have q3_0 : u3.cell? ⟨b, 1, none⟩ = some (.string ⟨#[]⟩) := KUb.out.cell 1; have qf3 := KUb.out.frozen; have HU3 := Lib.hid h3; have CU3 := Lib.hid c3; clear h3 c3)
    | fail)
  obtain ⟨W3, hW3⟩ : ∃ W, W = (u3.setCell ⟨b, 1, none⟩ (.string ⟨(nameS (keyS kOn (nameS st).2)).1.toArray⟩)) := ⟨_, rfl⟩
  have HS3 : Hid (Ch (· = b) u3 W3) := Lib.hid (by rw [hW3]; exact (Ch.refl (· = b) u3).trans (ch_set _ b 1 _))
  have HR3 : Hid (RCur W3 B toks (shq x v1 v2 v3 v4 v5 v6) (nameS (keyS kOn (nameS st).2)).2) := Lib.hid (HU3.out.ch HS3.out (fun k hk => by have := HGb.out; omega))
  have HC3 : Hid (Ch (· = B) w W3) := Lib.hid ((HC2.out.trans CU3.out).fresh HGb.out HS3.out)
  have KX3b : Hid (Blk W3 b 42 [.string ⟨(nameS st).1.toArray⟩, .string ⟨(nameS (keyS kOn (nameS st).2)).1.toArray⟩, .int .i64 0, .int .i64 0, .int .i64 0]) := Lib.hid (by rw [hW3]; exact (KUb.out.set_ 1 _))
  rw [← hW3]
  clear hW3 q3_0 qf3 KUb
  have H4 : Hid (Calls Tryz.prog 118 #[.pointer (some ⟨B, 0, none⟩), .string ⟨#[99, 108, 111, 115, 101, 100]⟩] W3 (RPos W3 B toks (shq x v1 v2 v3 v4 v5 v6) (.agg #[.int .i64 (timesS kClosed (nameS (keyS kOn (nameS st).2)).2).1.frm, .int .i64 (timesS kClosed (nameS (keyS kOn (nameS st).2)).2).1.every, .int .i64 (timesS kClosed (nameS (keyS kOn (nameS st).2)).2).1.len]) (timesS kClosed (nameS (keyS kOn (nameS st).2)).2).2)) := Lib.hid (times_go HR3.out kClosed)
  go_upto_region 5 with (first
    | (go_at_call 118; (with_reducible refine H4.out.mono ?_); rintro e u4 ⟨rfl, h4, c4⟩; have KUb := Lib.hid (c4.blk KX3b.out hneb); have q4_0 : u4.cell? ⟨b, 2, none⟩ = some (.int .i64 0) := KUb.out.cell 2; have q4_1 : u4.cell? ⟨b, 3, none⟩ = some (.int .i64 0) := KUb.out.cell 3; have q4_2 : u4.cell? ⟨b, 4, none⟩ = some (.int .i64 0) := KUb.out.cell 4; have qf4 := KUb.out.frozen; have HU4 := Lib.hid h4; have CU4 := Lib.hid c4; clear h4 c4)
    | fail)
  obtain ⟨W4, hW4⟩ : ∃ W, W = (((u4.setCell ⟨b, 2, none⟩ (.int .i64 (timesS kClosed (nameS (keyS kOn (nameS st).2)).2).1.frm)).setCell ⟨b, 3, none⟩ (.int .i64 (timesS kClosed (nameS (keyS kOn (nameS st).2)).2).1.every)).setCell ⟨b, 4, none⟩ (.int .i64 (timesS kClosed (nameS (keyS kOn (nameS st).2)).2).1.len)) := ⟨_, rfl⟩
  have HS4 : Hid (Ch (· = b) u4 W4) := Lib.hid (by rw [hW4]; exact (((Ch.refl (· = b) u4).trans (ch_set _ b 2 _)).trans (ch_set _ b 3 _)).trans (ch_set _ b 4 _))
  have HR4 : Hid (RCur W4 B toks (shq x v1 v2 v3 v4 v5 v6) (timesS kClosed (nameS (keyS kOn (nameS st).2)).2).2) := Lib.hid (HU4.out.ch HS4.out (fun k hk => by have := HGb.out; omega))
  have HC4 : Hid (Ch (· = B) w W4) := Lib.hid ((HC3.out.trans CU4.out).fresh HGb.out HS4.out)
  have KX4b : Hid (Blk W4 b 42 [.string ⟨(nameS st).1.toArray⟩, .string ⟨(nameS (keyS kOn (nameS st).2)).1.toArray⟩, .int .i64 (timesS kClosed (nameS (keyS kOn (nameS st).2)).2).1.frm, .int .i64 (timesS kClosed (nameS (keyS kOn (nameS st).2)).2).1.every, .int .i64 (timesS kClosed (nameS (keyS kOn (nameS st).2)).2).1.len]) := Lib.hid (by rw [hW4]; exact (((KUb.out.set_ 2 _).set_ 3 _).set_ 4 _))
  rw [← hW4]
  clear hW4 q4_0 q4_1 q4_2 qf4 KUb
  have HR := HR4
  have HCW := HC4
  have y0 : W4.cell? ⟨b, 0, none⟩ = some (.string ⟨(nameS st).1.toArray⟩) := KX4b.out.cell 0
  have z0 : ∀ o, (W4.alloc o).cell? ⟨b, 0, none⟩ = some (.string ⟨(nameS st).1.toArray⟩) := fun o => (KX4b.out.alloc o).cell 0
  have y1 : W4.cell? ⟨b, 1, none⟩ = some (.string ⟨(nameS (keyS kOn (nameS st).2)).1.toArray⟩) := KX4b.out.cell 1
  have z1 : ∀ o, (W4.alloc o).cell? ⟨b, 1, none⟩ = some (.string ⟨(nameS (keyS kOn (nameS st).2)).1.toArray⟩) := fun o => (KX4b.out.alloc o).cell 1
  have y2 : W4.cell? ⟨b, 2, none⟩ = some (.int .i64 (timesS kClosed (nameS (keyS kOn (nameS st).2)).2).1.frm) := KX4b.out.cell 2
  have z2 : ∀ o, (W4.alloc o).cell? ⟨b, 2, none⟩ = some (.int .i64 (timesS kClosed (nameS (keyS kOn (nameS st).2)).2).1.frm) := fun o => (KX4b.out.alloc o).cell 2
  have y3 : W4.cell? ⟨b, 3, none⟩ = some (.int .i64 (timesS kClosed (nameS (keyS kOn (nameS st).2)).2).1.every) := KX4b.out.cell 3
  have z3 : ∀ o, (W4.alloc o).cell? ⟨b, 3, none⟩ = some (.int .i64 (timesS kClosed (nameS (keyS kOn (nameS st).2)).2).1.every) := fun o => (KX4b.out.alloc o).cell 3
  have y4 : W4.cell? ⟨b, 4, none⟩ = some (.int .i64 (timesS kClosed (nameS (keyS kOn (nameS st).2)).2).1.len) := KX4b.out.cell 4
  have z4 : ∀ o, (W4.alloc o).cell? ⟨b, 4, none⟩ = some (.int .i64 (timesS kClosed (nameS (keyS kOn (nameS st).2)).2).1.len) := fun o => (KX4b.out.alloc o).cell 4
  have HSW := Lib.hid (HS.out.ch HCW.out (fun k hk e => by omega))
  have OV : Hid (W4.ownsRow (B + 1) 42 5 v6 n (cs haC x.hazards)) := Lib.hid (by rw [HN.out]; exact HSW.out.r6)
  have k1 : W4.cell? ⟨B, 11, none⟩ = some v6 := HR.out.cell 6
  have k1' : ∀ o, (W4.alloc o).cell? ⟨B, 11, none⟩ = some v6 := fun o => (HR.out.after (one_box _ _)).cell 6
  go_region_law (first
    | (refine step_append_g (by rfl) (.tmp 25) (.tmp 27) 27 (by rfl) (B + 1) 42 _ 5 56 Tryz.underlying27 info_Haz rfl (by omega) (by omega) _ n (cs haC x.hazards) (by rfl) (Lib.hid (own_after OV.out (by repeat (first | exact Below.refl _ _ | exact one_box _ _ | refine below_drewN ?_ _ | refine below_drew ?_ | refine Below.alloc ?_ (by first | omega | (simp; done) | (simp; omega)) _)))) _ _ 1 1 [.string ⟨(nameS st).1.toArray⟩, .string ⟨(nameS (keyS kOn (nameS st).2)).1.toArray⟩, .int .i64 (timesS kClosed (nameS (keyS kOn (nameS st).2)).2).1.frm, .int .i64 (timesS kClosed (nameS (keyS kOn (nameS st).2)).2).1.every, .int .i64 (timesS kClosed (nameS (keyS kOn (nameS st).2)).2).1.len] (by rfl) (Lib.hid rfl) (by first | exact Lib.hid (litd_at2 _ _ _ _ _ (by simp) rfl) | exact Lib.hid (lit_at _ _ _ _ _ (by simp) rfl)) (by simp [Value.oneCell']) (by omega) (by first | omega | (have := HR.out.lt; simp; omega)) ?_; intro v' w6 hown hgrow hob; obtain ⟨A', c', rfl, -, -⟩ := own_form hown.out; have HR6 := Lib.hid (close_cur HR.out (HN.out ▸ OV.out) (by repeat (first | exact Ch.refl _ _ | refine Ch.drew ?_ | refine Ch.drewN ?_ _ | refine Ch.alloc ?_ _)) hgrow.out); have k6 : w6.cell? ⟨B, 11, none⟩ = some v6 := HR6.out.cell 6; have f6 : w6.frozen? ⟨B, 11, none⟩ = false := HR6.out.frozen 11)
    | fail)
  all_goals
    go_end0
    exact haz_close hB HCW.out HR.out HSW.out (by repeat (first | exact Ch.refl _ _ | refine Ch.drew ?_ | refine Ch.drewN ?_ _ | refine Ch.alloc ?_ _)) hgrow.out hown.out hob.out HN.out HLT.out

end Go.Proofs.YtcmlmfcnbmpajaaGreatDoor.Sw
