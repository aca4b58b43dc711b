/- Contracts of package link's moved and first: a tick moved on by each move once, and until none moves it. Conditions: rows hold at most 10,000 windows. -/
import Derived.Test.YtffddkbphdjehaaLkCl
import Derived.Laws.EntriesVeiled
namespace Go.Proofs.Ytffddkbphdjehaa.Lk
open Go.ChangeShapes Go.WideShapes Go.ChangeAt Go.RowKit Go.Sort
open Wn
set_option linter.unusedVariables false
set_option linter.unusedSimpArgs false
attribute [local go_sem] Oper.semAt_some
/-- a way's value -/
abbrev passF (y : LnA) : Nat := if y.l.door = true then 27 else 24
abbrev wyV (y : LnA) (gn gl : Nat) : Value := .agg #[.int .i64 y.l.a, .int .i64 y.l.b, .int .i64 y.l.len, .func (.func 29) #[] #[.pointer (some ⟨gn, 0, none⟩), .pointer (some ⟨gl, 0, none⟩)], .func (.func (passF y)) #[] #[.pointer (some ⟨gl, 0, none⟩)], .func (.func 31) #[] #[.pointer (some ⟨gn, 0, none⟩), .pointer (some ⟨gl, 0, none⟩)]]
/-- after so many moves -/
def mvd (x : Nt) (l : Ln) (t : Int) : Nat → Int
  | 0 => t
  | 1 => lea x l t
  | 2 => pas l (lea x l t)
  | _ => moved x l t

theorem idx0 (a b c : Value) (w : World) : Sem.run Try.prog (Instr.index 53 (.agg #[a, b, c]) (.int .i64 0)) w = .ok a w := by rfl
theorem idx1 (a b c : Value) (w : World) : Sem.run Try.prog (Instr.index 53 (.agg #[a, b, c]) (.int .i64 1)) w = .ok b w := by rfl
theorem idx2 (a b c : Value) (w : World) : Sem.run Try.prog (Instr.index 53 (.agg #[a, b, c]) (.int .i64 2)) w = .ok c w := by rfl
attribute [local go_sem] idx0 idx1 idx2
set_option maxHeartbeats 4000000 in
theorem moved_any {x : NtA} {y : LnA} (hok : ok x.net = true) (hlg : lgood x.net y.l = true) (hlt : Lt x) (hlo : y.l.op.length ≤ 10000) (hlc : y.l.cl.length ≤ 10000) {W : World} {gn gl : Nat} (h : WyAt W x y gn gl) (t : Int) :
    Calls Try.prog 32 #[wyV y gn gl, .int .i64 t] W fun e w' => e = .returned (.int .i64 (moved x.net y.l t)) ∧ Below W.heap.size W w' := by
  have C0 : Hid (∀ w1 u, Below W.heap.size W w1 → Calls Try.prog 29 #[.int .i64 u, .pointer (some ⟨gn, 0, none⟩), .pointer (some ⟨gl, 0, none⟩)] w1 fun e w' => e = .returned (.int .i64 (lea x.net y.l u)) ∧ Below w1.heap.size w1 w') := Lib.hid fun w1 u hb => leave_any hok hlg hlt (h.later hb) u
  have C2 : Hid (∀ w1 u, Below W.heap.size W w1 → Calls Try.prog 31 #[.int .i64 u, .pointer (some ⟨gn, 0, none⟩), .pointer (some ⟨gl, 0, none⟩)] w1 fun e w' => e = .returned (.int .i64 (arr x.hz y.l.len u)) ∧ Below w1.heap.size w1 w') := Lib.hid fun w1 u hb => arrive_any hok hlg (h.later hb) u
  have HM : Hid (∀ i : Nat, mvd x.net y.l t (i + 1) = if i = 0 then lea x.net y.l (mvd x.net y.l t i) else if i = 1 then pas y.l (mvd x.net y.l t i) else if i = 2 then arr x.hz y.l.len (mvd x.net y.l t i) else mvd x.net y.l t (i + 1)) := Lib.hid fun i => by
    match i with
    | 0 => rfl
    | 1 => rfl
    | 2 => rfl
    | (n + 3) => simp
  have H3 : Hid (mvd x.net y.l t 3 = moved x.net y.l t) := Lib.hid rfl
  have C1 : Hid (∀ w1 u, Below W.heap.size W w1 → Calls Try.prog (passF y) #[.int .i64 u, .pointer (some ⟨gl, 0, none⟩)] w1 fun e w' => e = .returned (.int .i64 (pas y.l u)) ∧ Below w1.heap.size w1 w') := Lib.hid fun w1 u hb => by
    cases hd : y.l.door with
    | true => simp only [passF, hd, if_true]; exact open_any hlg hlo hd (h.later hb) u
    | false => simp only [passF, hd]; exact shut_any hlg hlc hd (h.later hb) u
  have HP : passF y = 27 ∨ passF y = 24 := by unfold passF; split <;> simp
  show Calls _ _ #[.agg #[.int .i64 y.l.a, .int .i64 y.l.b, .int .i64 y.l.len, .func (.func 29) #[] #[.pointer (some ⟨gn, 0, none⟩), .pointer (some ⟨gl, 0, none⟩)], .func (.func (passF y)) #[] #[.pointer (some ⟨gl, 0, none⟩)], .func (.func 31) #[] #[.pointer (some ⟨gn, 0, none⟩), .pointer (some ⟨gl, 0, none⟩)]], .int .i64 t] _ _
  generalize moved x.net y.l t = M at H3 ⊢
  have HM0 : Hid (mvd x.net y.l t 0 = t) := Lib.hid rfl
  generalize mvd x.net y.l t = mv at HM H3 HM0
  generalize lea x.net y.l = fl at C0 HM
  generalize pas y.l = fp at C1 HM
  generalize arr x.hz y.l.len = fa at C2 HM
  generalize passF y = pf at C1 HP ⊢
  generalize y.l.a = ya
  generalize y.l.b = yb
  generalize y.l.len = yl
  clear h hlg hok hlt hlo hlc
  have B0 := Lib.hid ((Below.refl W.heap.size W).alloc (Nat.le_refl _) (.cells #[.int .i64 ya, .int .i64 yb, .int .i64 yl, .func (.func 29) #[] #[.pointer (some ⟨gn, 0, none⟩), .pointer (some ⟨gl, 0, none⟩)], .func (.func pf) #[] #[.pointer (some ⟨gl, 0, none⟩)], .func (.func 31) #[] #[.pointer (some ⟨gn, 0, none⟩), .pointer (some ⟨gl, 0, none⟩)]] 55))
  go_enter Try.func32, Try.ntmps32
  go_wp2
  go_loopw [1, 9] (fun v1 v9 wr => ((v1 = .int .i64 (mv 0) ∧ v9 = .int .i64 0) ∨ (v1 = .int .i64 (mv 1) ∧ v9 = .int .i64 1) ∨ (v1 = .int .i64 (mv 2) ∧ v9 = .int .i64 2) ∨ (v1 = .int .i64 (mv 3) ∧ v9 = .int .i64 3)) ∧ Hid (Below (W.alloc (.cells #[.int .i64 ya, .int .i64 yb, .int .i64 yl, .func (.func 29) #[] #[.pointer (some ⟨gn, 0, none⟩), .pointer (some ⟨gl, 0, none⟩)], .func (.func pf) #[] #[.pointer (some ⟨gl, 0, none⟩)], .func (.func 31) #[] #[.pointer (some ⟨gn, 0, none⟩), .pointer (some ⟨gl, 0, none⟩)]] 55)).heap.size (W.alloc (.cells #[.int .i64 ya, .int .i64 yb, .int .i64 yl, .func (.func 29) #[] #[.pointer (some ⟨gn, 0, none⟩), .pointer (some ⟨gl, 0, none⟩)], .func (.func pf) #[] #[.pointer (some ⟨gl, 0, none⟩)], .func (.func 31) #[] #[.pointer (some ⟨gn, 0, none⟩), .pointer (some ⟨gl, 0, none⟩)]] 55)) wr)) (fun _ v9 _ => 3 - (intOf v9).toNat)
  case atStart => exact ⟨.inl ⟨by rw [HM0.out], rfl⟩, Lib.hid (Below.refl _ _)⟩
  case round =>
    obtain ⟨hor, HB⟩ := hrel
    have HBB := Lib.hid (B0.out.trans (HB.out.mono B0.out.size))
    rcases hor with ⟨rfl, rfl⟩ | ⟨rfl, rfl⟩ | ⟨rfl, rfl⟩ | ⟨rfl, rfl⟩
    · have HE : Hid (mv 1 = fl (mv 0)) := Lib.hid (by have := HM.out 0; simpa using this)
      have CX := Lib.hid (C0.out wr (mv 0) HBB.out)
      go_wp2_with (go_at_call 29; refine CX.out.mono ?_; rintro e w1 ⟨rfl, hb1⟩)
      go_roundw
      case rel => exact ⟨.inr (.inl ⟨by rw [HE.out], rfl⟩), Lib.hid (HB.out.trans (hb1.mono HB.out.size))⟩
      case measure => simp [intOf]
    · have HE : Hid (mv 2 = fp (mv 1)) := Lib.hid (by have := HM.out 1; simpa using this)
      have CX := Lib.hid (C1.out wr (mv 1) HBB.out)
      rcases HP with rfl | rfl
      · go_wp2_with (go_at_call 27; refine CX.out.mono ?_; rintro e w1 ⟨rfl, hb1⟩)
        go_roundw
        case rel => exact ⟨.inr (.inr (.inl ⟨by rw [HE.out], rfl⟩)), Lib.hid (HB.out.trans (hb1.mono HB.out.size))⟩
        case measure => simp [intOf]
      · go_wp2_with (go_at_call 24; refine CX.out.mono ?_; rintro e w1 ⟨rfl, hb1⟩)
        go_roundw
        case rel => exact ⟨.inr (.inr (.inl ⟨by rw [HE.out], rfl⟩)), Lib.hid (HB.out.trans (hb1.mono HB.out.size))⟩
        case measure => simp [intOf]
    · have HE : Hid (mv 3 = fa (mv 2)) := Lib.hid (by have := HM.out 2; simpa using this)
      have CX := Lib.hid (C2.out wr (mv 2) HBB.out)
      go_wp2_with (go_at_call 31; refine CX.out.mono ?_; rintro e w1 ⟨rfl, hb1⟩)
      go_roundw
      case rel => exact ⟨.inr (.inr (.inr ⟨by rw [HE.out], rfl⟩)), Lib.hid (HB.out.trans (hb1.mono HB.out.size))⟩
      case measure => simp [intOf]
    · go_wp2
      go_ret
      exact ⟨ret_i H3.out, HBB.out⟩

set_option maxHeartbeats 4000000 in
theorem first_any {x : NtA} {y : LnA} (hok : ok x.net = true) (hlg : lgood x.net y.l = true) (hlt : Lt x) (hlo : y.l.op.length ≤ 10000) (hlc : y.l.cl.length ≤ 10000) {W : World} {gn gl : Nat} (h : WyAt W x y gn gl) (t : Int) (ht : tick t = true) :
    Calls Try.prog 21 #[wyV y gn gl, .int .i64 t] W fun e w' => ∃ f : Int, e = .returned (.int .i64 f) ∧ Hid (Fst x.net y.l t f) ∧ Below W.heap.size W w' := by
  have h0 := (tick_iff t).1 ht
  have CM : Hid (∀ w1 u, Below W.heap.size W w1 → Calls Try.prog 32 #[.agg #[.int .i64 y.l.a, .int .i64 y.l.b, .int .i64 y.l.len, .func (.func 29) #[] #[.pointer (some ⟨gn, 0, none⟩), .pointer (some ⟨gl, 0, none⟩)], .func (.func (passF y)) #[] #[.pointer (some ⟨gl, 0, none⟩)], .func (.func 31) #[] #[.pointer (some ⟨gn, 0, none⟩), .pointer (some ⟨gl, 0, none⟩)]], .int .i64 u] w1 fun e w' => e = .returned (.int .i64 (moved x.net y.l u)) ∧ Below w1.heap.size w1 w') := Lib.hid fun w1 u hb => moved_any hok hlg hlt hlo hlc (h.later hb) u
  have HS : Hid (∀ u, t ≤ u → u ≤ inf → (∀ s, t ≤ s → s < u → ¬ Lk.may x.net y.l s) → u ≤ moved x.net y.l u ∧ moved x.net y.l u ≤ inf ∧ (∀ s, t ≤ s → s < moved x.net y.l u → ¬ Lk.may x.net y.l s) ∧ (moved x.net y.l u = u → Fst x.net y.l t u)) := Lib.hid fun u h1 h2 h3 => Fst.step hok hlg h0.1 h1 h2 h3
  have hti : t ≤ inf := by simp only [inf]; omega
  show Calls _ _ #[.agg #[.int .i64 y.l.a, .int .i64 y.l.b, .int .i64 y.l.len, .func (.func 29) #[] #[.pointer (some ⟨gn, 0, none⟩), .pointer (some ⟨gl, 0, none⟩)], .func (.func (passF y)) #[] #[.pointer (some ⟨gl, 0, none⟩)], .func (.func 31) #[] #[.pointer (some ⟨gn, 0, none⟩), .pointer (some ⟨gl, 0, none⟩)]], .int .i64 t] _ _
  generalize passF y = pf at CM ⊢
  generalize y.l.a = ya at CM ⊢
  generalize y.l.b = yb at CM ⊢
  generalize hyl : y.l.len = yl at CM ⊢
  clear h hlg hok hlt hlo hlc ht h0 hyl
  have b0 := Blk.new W 55 [.int .i64 ya, .int .i64 yb, .int .i64 yl, .func (.func 29) #[] #[.pointer (some ⟨gn, 0, none⟩), .pointer (some ⟨gl, 0, none⟩)], .func (.func pf) #[] #[.pointer (some ⟨gl, 0, none⟩)], .func (.func 31) #[] #[.pointer (some ⟨gn, 0, none⟩), .pointer (some ⟨gl, 0, none⟩)]]
  have B0 := Lib.hid ((Below.refl W.heap.size W).alloc (Nat.le_refl _) (.cells #[.int .i64 ya, .int .i64 yb, .int .i64 yl, .func (.func 29) #[] #[.pointer (some ⟨gn, 0, none⟩), .pointer (some ⟨gl, 0, none⟩)], .func (.func pf) #[] #[.pointer (some ⟨gl, 0, none⟩)], .func (.func 31) #[] #[.pointer (some ⟨gn, 0, none⟩), .pointer (some ⟨gl, 0, none⟩)]] 55))
  have BN := Lib.hid b0
  clear b0
  go_enter Try.func21, Try.ntmps21
  go_wp2
  go_loopw [1] (fun v1 wr => ∃ u : Int, v1 = .int .i64 u ∧ t ≤ u ∧ u ≤ inf ∧ Hid (∀ s, t ≤ s → s < u → ¬ Lk.may x.net y.l s) ∧ Hid (Below (W.alloc (.cells #[.int .i64 ya, .int .i64 yb, .int .i64 yl, .func (.func 29) #[] #[.pointer (some ⟨gn, 0, none⟩), .pointer (some ⟨gl, 0, none⟩)], .func (.func pf) #[] #[.pointer (some ⟨gl, 0, none⟩)], .func (.func 31) #[] #[.pointer (some ⟨gn, 0, none⟩), .pointer (some ⟨gl, 0, none⟩)]] 55)).heap.size (W.alloc (.cells #[.int .i64 ya, .int .i64 yb, .int .i64 yl, .func (.func 29) #[] #[.pointer (some ⟨gn, 0, none⟩), .pointer (some ⟨gl, 0, none⟩)], .func (.func pf) #[] #[.pointer (some ⟨gl, 0, none⟩)], .func (.func 31) #[] #[.pointer (some ⟨gn, 0, none⟩), .pointer (some ⟨gl, 0, none⟩)]] 55)) wr)) (fun v1 _ => (inf - intOf v1).toNat)
  case atStart => exact ⟨t, rfl, Int.le_refl _, hti, Lib.hid fun s h1 h2 => by omega, Lib.hid (Below.refl _ _)⟩
  case round =>
    obtain ⟨u, rfl, hu, hui, HN, HB⟩ := hrel
    have HBB := Lib.hid (B0.out.trans (HB.out.mono B0.out.size))
    obtain ⟨s1, s2, s3, s4⟩ := HS.out u hu hui HN.out
    have CX := Lib.hid (CM.out wr u HBB.out)
    have S3 := Lib.hid s3
    have S4 := Lib.hid s4
    generalize moved x.net y.l u = v at CX s1 s2 S3 S4
    have bb := BN.out.after HB.out
    have c0 := bc0 bb
    have c1 := bc1 bb
    have c2 := bc2 bb
    have c3 := bc3 bb
    have c4 := bc4 bb
    have c5 := bc5 bb
    clear s3 s4 bb HN
    by_cases hv : v = u
    · have HF : Hid (Fst x.net y.l t u) := Lib.hid (S4.out hv)
      subst hv
      clear S3 S4
      go_wp2_with (go_at_call 32; refine CX.out.mono ?_; rintro e w1 ⟨rfl, hb1⟩)
      go_ret
      exact ⟨v, rfl, HF, HBB.out.trans (hb1.mono HBB.out.size)⟩
    · have hne : (v == u) = false := by simpa using hv
      have hlt : u < v := by omega
      clear S4
      go_wp2_with (go_at_call 32; refine CX.out.mono ?_; rintro e w1 ⟨rfl, hb1⟩)
      go_roundw
      case rel => exact ⟨v, rfl, by omega, s2, S3, Lib.hid (HB.out.trans (hb1.mono HB.out.size))⟩
      case measure => simp only [intOf]; omega
end Go.Proofs.Ytffddkbphdjehaa.Lk
