/- Words for package sheet: what a call changes; tokens as they lie; the reader and where it is; panics. · Package sheet's reader: what it takes of a line, token by token, proved by walking its text. Conditions: a token is to come. · Package sheet's reader: words with numbers and names behind them, times, stays, proved by walking their text. Conditions: a token is to come. · Words for the rows of a sheet: the cells of things; what an append leaves; what a put leaves; the sheet that is read so far. · Package sheet's byWord: the map from a word to what reads its line; how it is asked. No conditions. · Package sheet's Parse: what its deferred function does, at a panic and without one. Conditions: it was a reader that panicked. -/
import Derived.Test.YteonmabfhilcfaaGreatDoorLexOne
import Derived.Test.YteonmabfhilcfaaGreatDoorPlain
import Derived.Deep.RegionWith
import Derived.WalkLawsBesides
import Derived.Outline
import Derived.Deep.Cut
import Derived.MapKept
import Derived.Defers
import Derived.Recover
import Derived.Laws.Pointers
namespace Go.Proofs.YteonmabfhilcfaaGreatDoor.Sh
open Go.ChangeShapes Go.WideShapes Go.ChangeAt Go.RowKit
open Lx
set_option linter.unusedVariables false

/-- a token's value -/
abbrev ta (t : Tok) : Value := .agg #[.int .i64 t.kind, .string ⟨t.text.toArray⟩, .int .i64 t.num, .int .i64 t.line, .int .i64 t.col]
/-- the cells of the token at address a -/
structure TokC (w : World) (a : Addr) (t : Tok) : Prop where
  c0 : w.cell? a = some (.int .i64 t.kind)
  c1 : w.cell? ⟨a.block, a.off + 1, none⟩ = some (.string ⟨t.text.toArray⟩)
  c2 : w.cell? ⟨a.block, a.off + 2, none⟩ = some (.int .i64 t.num)
  c3 : w.cell? ⟨a.block, a.off + 3, none⟩ = some (.int .i64 t.line)
  c4 : w.cell? ⟨a.block, a.off + 4, none⟩ = some (.int .i64 t.col)
theorem rd_tok {w : World} {S : Nat → Prop} {A : Option Addr} {zs : List Tok} (h : Rd w S A (tc zs)) {k : Nat} {t : Tok} (hk : zs[k]? = some t) : ∃ ad, A = some ad ∧ S ad.block ∧ TokC w (ad.add (k * 5)) t := by
  have hlt : k < zs.length := by
    rcases Nat.lt_or_ge k zs.length with hl | hl
    · exact hl
    · rw [List.getElem?_eq_none hl] at hk; cases hk
  obtain ⟨ad, e, hb, hc⟩ := h (by rw [tc_length]; omega)
  obtain ⟨h0, h1, h2, h3, h4⟩ := tc_at zs k t hk
  have e1 : (⟨(ad.add (k * 5)).block, (ad.add (k * 5)).off + 1, none⟩ : Addr) = (ad.add (k * 5)).add 1 := rfl
  have e2 : (⟨(ad.add (k * 5)).block, (ad.add (k * 5)).off + 2, none⟩ : Addr) = (ad.add (k * 5)).add 2 := rfl
  have e3 : (⟨(ad.add (k * 5)).block, (ad.add (k * 5)).off + 3, none⟩ : Addr) = (ad.add (k * 5)).add 3 := rfl
  have e4 : (⟨(ad.add (k * 5)).block, (ad.add (k * 5)).off + 4, none⟩ : Addr) = (ad.add (k * 5)).add 4 := rfl
  exact ⟨ad, e, hb, hc _ _ h0, by rw [e1, add_of_add]; exact hc _ _ h1, by rw [e2, add_of_add]; exact hc _ _ h2, by rw [e3, add_of_add]; exact hc _ _ h3, by rw [e4, add_of_add]; exact hc _ _ h4⟩
theorem rd_old {w : World} {B : Nat} {A : Option Addr} {xs : List Value} (h : Rd w (fun b => B ≤ b ∧ b < w.heap.size) A xs) : Rd w (· < w.heap.size) A xs := h.more fun _ hb => hb.2
theorem rd_later {w w' : World} {A : Option Addr} {xs : List Value} (h : Rd w (· < w.heap.size) A xs) (hb : Below w.heap.size w w') : Rd w' (· < w'.heap.size) A xs :=
  (h.below hb).more fun b h1 => by have := hb.size; omega
theorem bcell {W w1 : World} (hb : Below W.heap.size W w1) : (∀ b o, b < W.heap.size → w1.cell? ⟨b, o, none⟩ = W.cell? ⟨b, o, none⟩) ∧ (∀ b o, b < W.heap.size → w1.frozen? ⟨b, o, none⟩ = W.frozen? ⟨b, o, none⟩) :=
  ⟨fun b o h => hb.cell (p := ⟨b, o, none⟩) h, fun b o h => hb.frozen (p := ⟨b, o, none⟩) h⟩
theorem one_box (w : World) (o : Obj) : Below w.heap.size w (w.alloc o) := (Below.refl _ _).alloc (Nat.le_refl _) _
theorem two_box (w : World) (o p : Obj) : Below w.heap.size w ((w.alloc o).alloc p) := ((Below.refl _ _).alloc (Nat.le_refl _) _).alloc (by simp) _

/-- of what was there only blocks of X are changed -/
structure Ch (X : Nat → Prop) (w w' : World) : Prop where
  os : w'.os = w.os
  tape : w'.tape = w.tape
  output : w'.output = w.output
  size : w.heap.size ≤ w'.heap.size
  block : ∀ k, k < w.heap.size → ¬ X k → w'.heap[k]? = w.heap[k]?
section
variable {X Y : Nat → Prop} {w w' w'' : World}
theorem Ch.refl (X : Nat → Prop) (w : World) : Ch X w w := ⟨rfl, rfl, rfl, Nat.le_refl _, fun _ _ _ => rfl⟩
theorem Ch.trans (h : Ch X w w') (k : Ch X w' w'') : Ch X w w'' :=
  ⟨k.os.trans h.os, k.tape.trans h.tape, k.output.trans h.output, Nat.le_trans h.size k.size, fun i hi hx => (k.block i (Nat.lt_of_lt_of_le hi h.size) hx).trans (h.block i hi hx)⟩
theorem Ch.trans' (h : Ch X w w') (k : Ch Y w' w'') (hy : ∀ i, i < w.heap.size → Y i → X i) : Ch X w w'' :=
  ⟨k.os.trans h.os, k.tape.trans h.tape, k.output.trans h.output, Nat.le_trans h.size k.size, fun i hi hx => (k.block i (Nat.lt_of_lt_of_le hi h.size) (fun e => hx (hy i hi e))).trans (h.block i hi hx)⟩
theorem Ch.mono (h : Ch X w w') (hx : ∀ k, k < w.heap.size → X k → Y k) : Ch Y w w' := ⟨h.os, h.tape, h.output, h.size, fun k hk hy => h.block k hk (fun e => hy (hx k hk e))⟩
theorem Ch.of_below (h : Below w.heap.size w w') : Ch X w w' := ⟨h.os, h.tape, h.output, h.size, fun k hk _ => h.block k hk⟩
theorem Ch.of_grown {row : Option Nat} (h : w.grownBy w' row) (hx : ∀ k, some k = row → X k) : Ch X w w' := ⟨h.os, h.tape, h.output, h.size, fun k hk hn => h.block k hk (fun e => hn (hx k e))⟩
theorem Ch.alloc (h : Ch X w w') (o : Obj) : Ch X w (w'.alloc o) := h.trans (.of_below (one_box _ _))
theorem Ch.setCell (h : Ch X w w') {p : Addr} (hp : X p.block ∨ w.heap.size ≤ p.block) (u : Value) : Ch X w (w'.setCell p u) :=
  ⟨h.os, h.tape, h.output, by simpa [World.setCell] using h.size, fun k hk hx => (Below.heap_setCell _ _ _ _ (by rintro rfl; rcases hp with hp | hp; exact hx hp; omega)).trans (h.block k hk hx)⟩
theorem Ch.drew (h : Ch X w w') : Ch X w w'.drew := ⟨h.os, h.tape, h.output, h.size, h.block⟩
theorem Ch.drewN (h : Ch X w w') (n : Nat) : Ch X w (w'.drewN n) := ⟨h.os, h.tape, h.output, h.size, h.block⟩
theorem Ch.below (h : Ch X w w') {B : Nat} (hB : B ≤ w.heap.size) (hx : ∀ k, X k → B ≤ k) : Below B w w' := ⟨h.os, h.tape, h.output, h.size, fun k hk => h.block k (by omega) (fun e => by have := hx k e; omega)⟩
theorem Ch.blk {g : Nat} {t : TypeId} {l : List Value} (h : Ch X w w') (hb : Blk w g t l) (hx : ¬ X g) : Blk w' g t l := (h.block g hb.lt hx).trans hb
theorem Ch.rd {S : Nat → Prop} {A : Option Addr} {xs : List Value} (h : Ch X w w') (hr : Rd w S A xs) (hx : ∀ b, S b → b < w.heap.size ∧ ¬ X b) : Rd w' S A xs := hr.keep fun b hb => h.block b (hx b hb).1 (hx b hb).2
theorem Ch.own {base e size n : Nat} {v : Value} {xs : List Value} (h : Ch X w w') (ho : w.ownsRow base e size v n xs) (hx : ∀ k, v.ownBlock = some k → ¬ X k) : w'.ownsRow base e size v n xs := by
  refine ⟨ho.1, ?_⟩
  rcases ho.2 with hn | ⟨g, cap, cur, rfl, hb, hgg, rest⟩
  · exact .inl hn
  · exact .inr ⟨g, cap, cur, rfl, hb, (h.block g (Array.getElem?_eq_some_iff.1 hgg).1 (hx g rfl)).trans hgg, rest⟩
end
/-- rows of unlike things lie in unlike blocks -/
theorem own_ne {w : World} {b b' e e' size size' n n' : Nat} {v v' : Value} {xs xs' : List Value} (h : w.ownsRow b e size v n xs) (h' : w.ownsRow b' e' size' v' n' xs') (he : e ≠ e') :
    ∀ k, v.ownBlock = some k → v'.ownBlock ≠ some k := by
  intro k hk hk'
  rcases h.2 with ⟨rfl, _⟩ | ⟨g, cap, cur, rfl, _, hg, _⟩
  · cases hk
  rcases h'.2 with ⟨rfl, _⟩ | ⟨g', cap', cur', rfl, _, hg', _⟩
  · cases hk'
  · simp [Value.ownBlock] at hk hk'
    subst hk; subst hk'
    rw [hg] at hg'
    injection hg' with hg'
    injection hg' with _ h2
    exact he h2
theorem own_ne_blk {w : World} {b e t size n g : Nat} {v : Value} {xs l : List Value} (h : w.ownsRow b e size v n xs) (h' : Blk w g t l) (he : e ≠ t) : ∀ k, v.ownBlock = some k → k ≠ g := by
  rintro k hk rfl
  rcases h.2 with ⟨rfl, _⟩ | ⟨g', cap, cur, rfl, _, hg, _⟩
  · cases hk
  · simp [Value.ownBlock] at hk
    subst hk
    unfold Blk at h'
    rw [hg] at h'
    injection h' with h'
    injection h' with _ h2
    exact he h2

/-- the reader at object B: its tokens toks, of which ts are to come; q: its other cells -/
def Cur (w : World) (B : Nat) (toks : List Tok) (q : List Value) (ts : List Tok) : Prop :=
  ∃ (A : Option Addr) (c at_ : Nat), Blk w B 72 (.slice A toks.length c :: .int .i64 at_ :: q) ∧ toks.drop at_ = ts ∧ at_ ≤ toks.length ∧ toks.length ≤ 131072 ∧ EndL toks ∧ Rd w (· < B) A (tc toks)
theorem Cur.ch {w w' : World} {B : Nat} {toks ts : List Tok} {q : List Value} {X : Nat → Prop} (h : Cur w B toks q ts) (hc : Ch X w w') (hx : ∀ k, k ≤ B → ¬ X k) : Cur w' B toks q ts := by
  obtain ⟨A, c, at_, hb, h1, h2, h3, h4, h5⟩ := h
  exact ⟨A, c, at_, hc.blk hb (hx B (Nat.le_refl _)), h1, h2, h3, h4, hc.rd h5 fun b hb' => ⟨Nat.lt_trans hb' hb.lt, hx b (Nat.le_of_lt hb')⟩⟩
theorem Cur.lt {w : World} {B : Nat} {toks ts : List Tok} {q : List Value} (h : Cur w B toks q ts) : B < w.heap.size := by obtain ⟨_, _, _, h, _⟩ := h; exact h.lt
theorem Cur.after {w w' : World} {B : Nat} {toks ts : List Tok} {q : List Value} (h : Cur w B toks q ts) (hb : Below w.heap.size w w') : Cur w' B toks q ts :=
  h.ch (X := fun _ => False) (.of_below hb) fun _ _ => id

/-- what a reader panics with -/
abbrev gave (e l c : Int) : List PanicEntry := [{ v := .iface 67 (.agg #[.int .i64 e, .int .i64 l, .int .i64 c]), recovered := false }]
/-- what comes of reading on: a value, the reader behind it; or a panic; of what was there only the reader is changed -/
def RPost {α : Type} (w : World) (B : Nat) (toks : List Tok) (q : List Value) (V : α → Value) : PR α → Ending → World → Prop
  | .ok a r, e, w' => e = .returned (V a) ∧ Cur w' B toks q r ∧ Ch (· = B) w w'
  | .bad er l c, e, w' => e = .panicked (gave er l c) ∧ Ch (· = B) w w'
theorem RPost.ok_ {α : Type} {w w' : World} {B : Nat} {toks : List Tok} {q : List Value} {V : α → Value} {a : α} {r : List Tok} (h1 : Cur w' B toks q r) (h2 : Ch (· = B) w w') : RPost w B toks q V (.ok a r) (.returned (V a)) w' := ⟨rfl, h1, h2⟩
end Go.Proofs.YteonmabfhilcfaaGreatDoor.Sh
namespace Go.Proofs.YteonmabfhilcfaaGreatDoor.Sh
open Go.ChangeShapes Go.WideShapes Go.ChangeAt Go.RowKit
open Lx
set_option linter.unusedVariables false

theorem TokC.on {w w' : World} {a : Addr} {t : Tok} (h : TokC w a t) (hk : w'.heap[a.block]? = w.heap[a.block]?) : TokC w' a t := by
  have e : ∀ o, w'.cell? ⟨a.block, o, none⟩ = w.cell? ⟨a.block, o, none⟩ := fun o => World.cell?_of_block (a := ⟨a.block, o, none⟩) hk
  exact ⟨(World.cell?_of_block hk).trans h.c0, (e _).trans h.c1, (e _).trans h.c2, (e _).trans h.c3, (e _).trans h.c4⟩
theorem refuse_any (p : Value) (er : Int) (t : Tok) (w : World) : Calls Tryz.prog 57 #[p, .int .i64 er, ta t] w fun e w' => e = .panicked (gave er t.line t.col) ∧ Below w.heap.size w w' := by
  obtain ⟨k, x, n, l, c⟩ := t
  go_enter Tryz.func57, Tryz.ntmps57
  go_wp2
  exact ⟨rfl, rfl, one_box _ _⟩

theorem next_any {w : World} {B : Nat} {toks ts : List Tok} {q : List Value} {t : Tok} {r : List Tok} (h : Cur w B toks q ts) (hts : ts = t :: r) :
    Calls Tryz.prog 116 #[.pointer (some ⟨B, 0, none⟩)] w fun e w' => e = .returned (ta t) ∧ Below w.heap.size w w' := by
  subst hts
  obtain ⟨A, c, at_, hb, h1, h2, h3, h4, h5⟩ := h
  have ht : toks[at_]? = some t := by
    have := congrArg (·[0]?) h1
    simpa using this
  have hlt : at_ < toks.length := (List.getElem?_eq_some_iff.1 ht).1
  obtain ⟨ad, rfl, hS, hT⟩ := rd_tok h5 ht
  have hT' : ∀ o, TokC (w.alloc o) (ad.add (at_ * 5)) t := fun o => hT.on (Below.heap_alloc w o _ (by rw [block_of_add]; exact Nat.lt_trans hS hb.lt))
  obtain ⟨k, x, n, l, cc⟩ := t
  have b0 : ∀ o, (w.alloc o).cell? ⟨B, 0, none⟩ = some (.slice (some ad) toks.length c) := fun o => (hb.alloc o).cell 0
  have b1 : ∀ o, (w.alloc o).cell? ⟨B, 1, none⟩ = some (.int .i64 at_) := fun o => (hb.alloc o).cell 1
  have a0 := fun o => (hT' o).c0
  have a1 := fun o => (hT' o).c1
  have a2 := fun o => (hT' o).c2
  have a3 := fun o => (hT' o).c3
  have a4 := fun o => (hT' o).c4
  obtain ⟨N, hN⟩ : ∃ N, N = toks.length := ⟨_, rfl⟩
  rw [← hN] at b0 hlt h3
  have hi : (at_ : Int) < (N : Int) := by omega
  clear h1 h2 h4 h5 ht hN hb hT hT'
  go_enter Tryz.func116, Tryz.ntmps116
  go_wp2
  go_region
  all_goals
    go_wp2
    refine bodyPost_ret (v := .agg #[.int .i64 k, .string ⟨x.toArray⟩, .int .i64 n, .int .i64 l, .int .i64 cc]) (by simp [results, Tryz.results116, go_sem]) rfl ⟨rfl, ?_⟩
    exact below_drew (one_box _ _)

/-- behind one more token -/
theorem cur_on {w w' : World} {B : Nat} {toks r : List Tok} {q : List Value} {t : Tok} {A : Option Addr} {c at_ : Nat} (h1 : toks.drop at_ = t :: r) (h2 : at_ ≤ toks.length) (h3 : toks.length ≤ 131072) (h4 : EndL toks) (h5 : Rd w (· < B) A (tc toks))
    (hl : B < w.heap.size) (hk : ∀ b, b < B → w'.heap[b]? = w.heap[b]?) (hb : Blk w' B 72 (.slice A toks.length c :: .int .i64 ((at_ + 1 : Nat) : Int) :: q)) : Cur w' B toks q r := by
  have ht : toks[at_]? = some t := by
    have := congrArg (·[0]?) h1
    simpa using this
  have hlt : at_ < toks.length := (List.getElem?_eq_some_iff.1 ht).1
  refine ⟨A, c, at_ + 1, hb, ?_, hlt, h3, h4, h5.keep hk⟩
  rw [← List.drop_drop, h1]; rfl
set_option maxHeartbeats 1000000 in
theorem take_ok_any {w : World} {B : Nat} {toks ts : List Tok} {q : List Value} {t : Tok} {r : List Tok} (h : Cur w B toks q ts) (hts : ts = t :: r) :
    Calls Tryz.prog 110 #[.pointer (some ⟨B, 0, none⟩), .int .i64 t.kind] w fun e w' => e = .returned (ta t) ∧ Cur w' B toks q r ∧ Ch (· = B) w w' := by
  have HC := Lib.hid h
  subst hts
  obtain ⟨A, c, at_, hb, h1, h2, h3, h4, h5⟩ := h
  have HN : Hid (∀ w', Below w.heap.size w w' → Calls Tryz.prog 116 #[.pointer (some ⟨B, 0, none⟩)] w' fun e w2 => e = .returned (.agg #[.int .i64 t.kind, .string ⟨t.text.toArray⟩, .int .i64 t.num, .int .i64 t.line, .int .i64 t.col]) ∧ Below w'.heap.size w' w2) := Lib.hid fun w' hw => next_any (HC.out.after hw) rfl
  obtain ⟨k, x, n, l, cc⟩ := t
  have ht : toks[at_]? = some ⟨k, x, n, l, cc⟩ := by
    have := congrArg (·[0]?) h1
    simpa using this
  have hlt : at_ < toks.length := (List.getElem?_eq_some_iff.1 ht).1
  have HF : Hid (∀ w', Ch (· = B) w w' → Blk w' B 72 (.slice A toks.length c :: .int .i64 ((at_ + 1 : Nat) : Int) :: q) → Cur w' B toks q r) := Lib.hid fun w' hc hb' => cur_on h1 h2 h3 h4 h5 hb.lt (fun b hbb => hc.block b (Nat.lt_trans hbb hb.lt) (by omega)) hb'
  have HB := Lib.hid hb
  have hN : at_ ≤ 131072 := by omega
  clear h1 h2 h3 h4 h5 hb ht hlt
  go_enter Tryz.func110, Tryz.ntmps110
  go_wp2_with fail
  go_at_call 116
  (with_reducible refine (HN.out _ (one_box _ _)).mono ?_)
  rintro e w1 ⟨rfl, hb1⟩
  have HB1 := Lib.hid (Below.trans (one_box w _) (hb1.mono (by simp)))
  have b1 : w1.cell? ⟨B, 1, none⟩ = some (.int .i64 at_) := (HB.out.after HB1.out).cell 1
  have f1 : w1.frozen? ⟨B, 1, none⟩ = false := (HB.out.after HB1.out).frozen 1
  have KZ := (Blk.new w 70 [.int .i64 0, .string ⟨#[]⟩, .int .i64 0, .int .i64 0, .int .i64 0]).after hb1
  have z0 : w1.cell? ⟨w.heap.size, 0, none⟩ = some (.int .i64 0) := KZ.cell 0
  have z1 : w1.cell? ⟨w.heap.size, 1, none⟩ = some (.string ⟨#[]⟩) := KZ.cell 1
  have z2 : w1.cell? ⟨w.heap.size, 2, none⟩ = some (.int .i64 0) := KZ.cell 2
  have z3 : w1.cell? ⟨w.heap.size, 3, none⟩ = some (.int .i64 0) := KZ.cell 3
  have z4 : w1.cell? ⟨w.heap.size, 4, none⟩ = some (.int .i64 0) := KZ.cell 4
  have HZ := Lib.hid KZ
  have zf := KZ.frozen
  have hB0 : B < w.heap.size := HB.out.lt
  have hB1 : w.heap.size < w1.heap.size := by have := hb1.size; simp at this; omega
  have hB2 : B < w1.heap.size := by omega
  clear KZ hb1
  obtain ⟨n0, hn0⟩ : ∃ n0, n0 = w.heap.size := ⟨_, rfl⟩
  rw [← hn0] at z0 z1 z2 z3 z4 zf hB0 hB1 HZ
  rw [← hn0]
  have HN0 := Lib.hid hn0
  clear hn0
  clear z0 z1 z2 z3 z4 zf
  go_upto_region 5 with (fail)
  obtain ⟨n1, hn1⟩ : ∃ n1, n1 = w1.heap.size := ⟨_, rfl⟩
  rw [← hn1] at hB1 hB2
  rw [← hn1]
  generalize hW : (w1.setCell ⟨B, 1, none⟩ (.int .i64 ((at_ : Int) + 1))).alloc (.cells #[.int .i64 k, .string ⟨x.toArray⟩, .int .i64 n, .int .i64 l, .int .i64 cc] 70) = W2
  have hc2 : Ch (· = B) w W2 := by rw [← hW]; exact ((Ch.setCell (X := (· = B)) (Ch.of_below HB1.out) (p := ⟨B, 1, none⟩) (.inl rfl) _).alloc _)
  have kB : Blk W2 B 72 (.slice A toks.length c :: .int .i64 ((at_ + 1 : Nat) : Int) :: q) := by rw [← hW]; exact (((HB.out.after HB1.out).set_ 1 _).alloc _)
  have kZ : Blk W2 n0 70 [.int .i64 0, .string ⟨#[]⟩, .int .i64 0, .int .i64 0, .int .i64 0] := by rw [← hW]; exact ((HZ.out.far (p := ⟨B, 1, none⟩) (by simp; omega) _).alloc _)
  have kT : Blk W2 n1 70 [.int .i64 k, .string ⟨x.toArray⟩, .int .i64 n, .int .i64 l, .int .i64 cc] := by
    rw [← hW, hn1]; have := Blk.new (w1.setCell ⟨B, 1, none⟩ (.int .i64 ((at_ : Int) + 1))) 70 [.int .i64 k, .string ⟨x.toArray⟩, .int .i64 n, .int .i64 l, .int .i64 cc]
    simpa [World.setCell] using this
  have z0 : W2.cell? ⟨n0, 0, none⟩ = some (.int .i64 0) := kZ.cell 0
  have z1 : W2.cell? ⟨n0, 1, none⟩ = some (.string ⟨#[]⟩) := kZ.cell 1
  have z2 : W2.cell? ⟨n0, 2, none⟩ = some (.int .i64 0) := kZ.cell 2
  have z3 : W2.cell? ⟨n0, 3, none⟩ = some (.int .i64 0) := kZ.cell 3
  have z4 : W2.cell? ⟨n0, 4, none⟩ = some (.int .i64 0) := kZ.cell 4
  have zf := kZ.frozen
  have t0 : W2.cell? ⟨n1, 0, none⟩ = some (.int .i64 k) := kT.cell 0
  have t1 : W2.cell? ⟨n1, 1, none⟩ = some (.string ⟨x.toArray⟩) := kT.cell 1
  have t2 : W2.cell? ⟨n1, 2, none⟩ = some (.int .i64 n) := kT.cell 2
  have t3 : W2.cell? ⟨n1, 3, none⟩ = some (.int .i64 l) := kT.cell 3
  have t4 : W2.cell? ⟨n1, 4, none⟩ = some (.int .i64 cc) := kT.cell 4
  have HW := Lib.hid hW
  have HC2 := Lib.hid hc2
  have KB := Lib.hid kB
  have HB01 := Lib.hid (And.intro hB0 (And.intro hB1 hB2))
  clear hW hc2 kB kZ kT b1 f1 hB1 hB2 hB0 hN hn1
  go_wp2
  refine bodyPost_ret (v := .agg #[.int .i64 k, .string ⟨x.toArray⟩, .int .i64 n, .int .i64 l, .int .i64 cc]) (by simp [results, Tryz.results110, go_sem, z0, z1, z2, z3, z4]) rfl ?_
  have hne : B ≠ n0 := by have := HB01.out.1; omega
  have hge : w.heap.size ≤ n0 := by have := HN0.out; omega
  have hc5 : Ch (· = B) w (((((W2.setCell ⟨n0, 0, none⟩ (.int .i64 k)).setCell ⟨n0, 1, none⟩ (.string ⟨x.toArray⟩)).setCell ⟨n0, 2, none⟩ (.int .i64 n)).setCell ⟨n0, 3, none⟩ (.int .i64 l)).setCell ⟨n0, 4, none⟩ (.int .i64 cc)) :=
    ((((HC2.out.setCell (.inr hge) _).setCell (.inr hge) _).setCell (.inr hge) _).setCell (.inr hge) _).setCell (.inr hge) _
  exact ⟨rfl, HF.out _ hc5 (((((KB.out.far (p := ⟨n0, 0, none⟩) hne _).far (p := ⟨n0, 1, none⟩) hne _).far (p := ⟨n0, 2, none⟩) hne _).far (p := ⟨n0, 3, none⟩) hne _).far (p := ⟨n0, 4, none⟩) hne _), hc5⟩

set_option maxHeartbeats 1000000 in
theorem take_bad_any {w : World} {B : Nat} {toks ts : List Tok} {q : List Value} {t : Tok} {r : List Tok} (h : Cur w B toks q ts) (hts : ts = t :: r) (k0 : Int) (hk : t.kind ≠ k0) :
    Calls Tryz.prog 110 #[.pointer (some ⟨B, 0, none⟩), .int .i64 k0] w fun e w' => e = .panicked (gave 7 t.line t.col) ∧ Ch (· = B) w w' := by
  have HN : Hid (∀ w', Below w.heap.size w w' → Calls Tryz.prog 116 #[.pointer (some ⟨B, 0, none⟩)] w' fun e w2 => e = .returned (ta t) ∧ Below w'.heap.size w' w2) := Lib.hid fun w' hw => next_any (h.after hw) hts
  have HR := Lib.hid (fun w' => refuse_any (.pointer (some ⟨B, 0, none⟩)) 7 t w')
  obtain ⟨k, x, n, l, cc⟩ := t
  have hne : (k == k0) = false := beq_eq_false_iff_ne.2 hk
  have hne' : (k != k0) = true := by simp [bne, hne]
  clear h hts hk
  go_enter Tryz.func110, Tryz.ntmps110
  go_wp2_with (first
    | (go_at_call 116; (with_reducible refine (HN.out _ (one_box _ _)).mono ?_); rintro e w1 ⟨rfl, hb1⟩; have HB1 := Lib.hid (Below.trans (one_box w _) (hb1.mono (by simp))); clear hb1)
    | (go_at_call 57; refine (HR.out _).mono ?_; rintro e w2 ⟨rfl, hb2⟩; have HB2 := Lib.hid hb2; clear hb2))
  exact ⟨rfl, rfl, (Ch.of_below (keep_trans (keep_trans HB1.out (one_box _ _)) HB2.out))⟩
theorem take_any {w : World} {B : Nat} {toks ts : List Tok} {q : List Value} (h : Cur w B toks q ts) (he : EndL ts) (k : Int) :
    Calls Tryz.prog 110 #[.pointer (some ⟨B, 0, none⟩), .int .i64 k] w (RPost w B toks q ta (takeM k ts)) := by
  obtain ⟨t, r, rfl⟩ := he.cons
  by_cases hk : t.kind = k
  · subst hk
    rw [show takeM t.kind (t :: r) = .ok t r by simp [takeM]]
    exact take_ok_any h rfl
  · rw [show takeM k (t :: r) = .bad 7 t.line t.col by simp [takeM, hk]]
    exact take_bad_any h rfl k hk

theorem field_text (w : World) (k n l c : Int) (x : ByteArray) : (Instr.field 70 (.agg #[.int .i64 k, .string x, .int .i64 n, .int .i64 l, .int .i64 c]) 1).run Tryz.prog w = .ok (.string x) w := by kernel_rfl
theorem field_num (w : World) (k n l c : Int) (x : ByteArray) : (Instr.field 70 (.agg #[.int .i64 k, .string x, .int .i64 n, .int .i64 l, .int .i64 c]) 2).run Tryz.prog w = .ok (.int .i64 n) w := by kernel_rfl
theorem field_kind (w : World) (k n l c : Int) (x : ByteArray) : (Instr.field 70 (.agg #[.int .i64 k, .string x, .int .i64 n, .int .i64 l, .int .i64 c]) 0).run Tryz.prog w = .ok (.int .i64 k) w := by kernel_rfl

set_option maxHeartbeats 1000000 in
theorem name_any {w : World} {B : Nat} {toks ts : List Tok} {q : List Value} (h : Cur w B toks q ts) (he : EndL ts) :
    Calls Tryz.prog 112 #[.pointer (some ⟨B, 0, none⟩)] w (RPost w B toks q (fun s => .string ⟨s.toArray⟩) (nameM ts)) := by
  have H := take_any h he 1
  unfold nameM
  cases hp : takeM 1 ts with
  | bad e l c =>
    rw [hp] at H
    have HT := Lib.hid H
    clear H hp h he
    rw [bind_bad]
    go_enter Tryz.func112, Tryz.ntmps112
    go_wp2_with (go_at_call 110; refine HT.out.mono ?_; rintro e w1 ⟨rfl, hc⟩)
    exact ⟨rfl, rfl, hc⟩
  | ok t r =>
    rw [hp] at H
    obtain ⟨k, x, n, l, cc⟩ := t
    have HT : Hid (Calls Tryz.prog 110 #[.pointer (some ⟨B, 0, none⟩), .int .i64 1] w fun e w' => e = .returned (.agg #[.int .i64 k, .string ⟨x.toArray⟩, .int .i64 n, .int .i64 l, .int .i64 cc]) ∧ Cur w' B toks q r ∧ Ch (· = B) w w') := Lib.hid H
    clear H hp h he
    have hfd := field_text
    rw [bind_ok]
    go_enter Tryz.func112, Tryz.ntmps112
    go_wp2_with (go_at_call 110; refine HT.out.mono ?_; rintro e w1 ⟨rfl, hc, hch⟩)
    go_ret
    exact ⟨rfl, hc, hch⟩
set_option maxHeartbeats 1000000 in
theorem num_any {w : World} {B : Nat} {toks ts : List Tok} {q : List Value} (h : Cur w B toks q ts) (he : EndL ts) :
    Calls Tryz.prog 109 #[.pointer (some ⟨B, 0, none⟩)] w (RPost w B toks q (fun n => .int .i64 n) (numM ts)) := by
  have H := take_any h he 3
  unfold numM
  cases hp : takeM 3 ts with
  | bad e l c =>
    rw [hp] at H
    have HT := Lib.hid H
    clear H hp h he
    rw [bind_bad]
    go_enter Tryz.func109, Tryz.ntmps109
    go_wp2_with (go_at_call 110; refine HT.out.mono ?_; rintro e w1 ⟨rfl, hc⟩)
    exact ⟨rfl, rfl, hc⟩
  | ok t r =>
    rw [hp] at H
    obtain ⟨k, x, n, l, cc⟩ := t
    have HT : Hid (Calls Tryz.prog 110 #[.pointer (some ⟨B, 0, none⟩), .int .i64 3] w fun e w' => e = .returned (.agg #[.int .i64 k, .string ⟨x.toArray⟩, .int .i64 n, .int .i64 l, .int .i64 cc]) ∧ Cur w' B toks q r ∧ Ch (· = B) w w') := Lib.hid H
    clear H hp h he
    have hfd := field_num
    rw [bind_ok]
    go_enter Tryz.func109, Tryz.ntmps109
    go_wp2_with (go_at_call 110; refine HT.out.mono ?_; rintro e w1 ⟨rfl, hc, hch⟩)
    go_ret
    exact ⟨rfl, hc, hch⟩
theorem toList_arr (a b : List UInt8) : ((⟨a.toArray⟩ : ByteArray).toList == (⟨b.toArray⟩ : ByteArray).toList) = (a == b) := by rw [ByteArray.toList_eq, ByteArray.toList_eq]
set_option maxHeartbeats 1000000 in
theorem key_any {w : World} {B : Nat} {toks ts : List Tok} {q : List Value} (h : Cur w B toks q ts) (he : EndL ts) (key : List UInt8) :
    Calls Tryz.prog 133 #[.pointer (some ⟨B, 0, none⟩), .string ⟨key.toArray⟩] w (RPost w B toks q (fun _ => .tuple #[]) (keyM key ts)) := by
  have H := take_any h he 2
  unfold keyM
  cases hp : takeM 2 ts with
  | bad e l c =>
    rw [hp] at H
    have HT := Lib.hid H
    clear H hp h he
    rw [bind_bad]
    go_enter Tryz.func133, Tryz.ntmps133
    go_wp2_with (go_at_call 110; refine HT.out.mono ?_; rintro e w1 ⟨rfl, hc⟩)
    exact ⟨rfl, rfl, hc⟩
  | ok t r =>
    rw [hp] at H
    have HT := Lib.hid H
    have HR := Lib.hid (fun w' => refuse_any (.pointer (some ⟨B, 0, none⟩)) 7 t w')
    rw [bind_ok]
    obtain ⟨k, x, n, l, cc⟩ := t
    dsimp only
    by_cases hx : x = key
    · rw [if_pos hx]
      have hs : (x == key) = true := by simpa using hx
      clear H hp h he hx HR
      go_enter Tryz.func133, Tryz.ntmps133
      go_wp2_with (go_at_call 110; refine HT.out.mono ?_; rintro e w1 ⟨rfl, hc, hch⟩)
      refine bodyPost_ret (results_none rfl _ _ _) rfl ?_
      exact ⟨rfl, hc.after (one_box _ _), hch.alloc _⟩
    · rw [if_neg hx]
      have hs : (x == key) = false := by simpa using hx
      clear H hp h he hx
      go_enter Tryz.func133, Tryz.ntmps133
      go_wp2_with (first
        | (go_at_call 110; refine HT.out.mono ?_; rintro e w1 ⟨rfl, hc, hch⟩)
        | (go_at_call 57; refine (HR.out _).mono ?_; rintro e w2 ⟨rfl, hb2⟩))
      exact ⟨rfl, rfl, (hch.alloc _).trans (.of_below hb2)⟩
end Go.Proofs.YteonmabfhilcfaaGreatDoor.Sh
namespace Go.Proofs.YteonmabfhilcfaaGreatDoor.Sh
open Go.ChangeShapes Go.WideShapes Go.ChangeAt Go.RowKit
open Lx
set_option linter.unusedVariables false

theorem ch_add {w w' w2 : World} {B : Nat} (h : Ch (· = B) w w') (h2 : Ch (· = B) w' w2) : Ch (· = B) w w2 := h.trans h2
set_option maxHeartbeats 1000000 in
theorem behind_any {w : World} {B : Nat} {toks ts : List Tok} {q : List Value} (h : Cur w B toks q ts) (he : EndL ts) (key : List UInt8) :
    Calls Tryz.prog 121 #[.pointer (some ⟨B, 0, none⟩), .string ⟨key.toArray⟩] w (RPost w B toks q (fun n => .int .i64 n) (behindM key ts)) := by
  have H1 := key_any h he key
  unfold behindM
  cases hp : keyM key ts with
  | bad e l c =>
    rw [hp] at H1
    have HT := Lib.hid H1
    clear H1 hp h he
    rw [bind_bad]
    go_enter Tryz.func121, Tryz.ntmps121
    go_wp2_with (go_at_call 133; refine HT.out.mono ?_; rintro e w1 ⟨rfl, hc⟩)
    exact ⟨rfl, rfl, hc⟩
  | ok u r =>
    rw [hp] at H1
    have HT := Lib.hid H1
    have H2 := Lib.hid (fun w1 (h1 : Cur w1 B toks q r) => num_any h1 (keeps_key _ _ _ _ he hp).1)
    clear H1 hp h he
    rw [bind_ok]
    cases hp : numM r with
    | bad e l c =>
      rw [hp] at H2
      clear hp
      go_enter Tryz.func121, Tryz.ntmps121
      go_wp2_with (first
        | (go_at_call 133; refine HT.out.mono ?_; rintro e w1 ⟨rfl, hc, hch⟩)
        | (go_at_call 109; refine (H2.out _ hc).mono ?_; rintro e w2 ⟨rfl, hch2⟩))
      exact ⟨rfl, rfl, hch.trans hch2⟩
    | ok n r2 =>
      rw [hp] at H2
      clear hp
      go_enter Tryz.func121, Tryz.ntmps121
      go_wp2_with (first
        | (go_at_call 133; refine HT.out.mono ?_; rintro e w1 ⟨rfl, hc, hch⟩)
        | (go_at_call 109; refine (H2.out _ hc).mono ?_; rintro e w2 ⟨rfl, hc2, hch2⟩))
      go_ret
      exact ⟨rfl, hc2, hch.trans hch2⟩
set_option maxHeartbeats 1000000 in
theorem nameBehind_any {w : World} {B : Nat} {toks ts : List Tok} {q : List Value} (h : Cur w B toks q ts) (he : EndL ts) (key : List UInt8) :
    Calls Tryz.prog 120 #[.pointer (some ⟨B, 0, none⟩), .string ⟨key.toArray⟩] w (RPost w B toks q (fun s => .string ⟨s.toArray⟩) (nameBehindM key ts)) := by
  have H1 := key_any h he key
  unfold nameBehindM
  cases hp : keyM key ts with
  | bad e l c =>
    rw [hp] at H1
    have HT := Lib.hid H1
    clear H1 hp h he
    rw [bind_bad]
    go_enter Tryz.func120, Tryz.ntmps120
    go_wp2_with (go_at_call 133; refine HT.out.mono ?_; rintro e w1 ⟨rfl, hc⟩)
    exact ⟨rfl, rfl, hc⟩
  | ok u r =>
    rw [hp] at H1
    have HT := Lib.hid H1
    have H2 := Lib.hid (fun w1 (h1 : Cur w1 B toks q r) => name_any h1 (keeps_key _ _ _ _ he hp).1)
    clear H1 hp h he
    rw [bind_ok]
    cases hp : nameM r with
    | bad e l c =>
      rw [hp] at H2
      clear hp
      go_enter Tryz.func120, Tryz.ntmps120
      go_wp2_with (first
        | (go_at_call 133; refine HT.out.mono ?_; rintro e w1 ⟨rfl, hc, hch⟩)
        | (go_at_call 112; refine (H2.out _ hc).mono ?_; rintro e w2 ⟨rfl, hch2⟩))
      exact ⟨rfl, rfl, hch.trans hch2⟩
    | ok n r2 =>
      rw [hp] at H2
      clear hp
      go_enter Tryz.func120, Tryz.ntmps120
      go_wp2_with (first
        | (go_at_call 133; refine HT.out.mono ?_; rintro e w1 ⟨rfl, hc, hch⟩)
        | (go_at_call 112; refine (H2.out _ hc).mono ?_; rintro e w2 ⟨rfl, hc2, hch2⟩))
      go_ret
      exact ⟨rfl, hc2, hch.trans hch2⟩

theorem behind_lit {w : World} {B : Nat} {toks ts : List Tok} {q : List Value} (h : Cur w B toks q ts) (he : EndL ts) (key : List UInt8) (a : Array UInt8) (ha : key.toArray = a) :
    Calls Tryz.prog 121 #[.pointer (some ⟨B, 0, none⟩), .string ⟨a⟩] w (RPost w B toks q (fun n => .int .i64 n) (behindM key ts)) := by subst ha; exact behind_any h he key
theorem nameBehind_lit {w : World} {B : Nat} {toks ts : List Tok} {q : List Value} (h : Cur w B toks q ts) (he : EndL ts) (key : List UInt8) (a : Array UInt8) (ha : key.toArray = a) :
    Calls Tryz.prog 120 #[.pointer (some ⟨B, 0, none⟩), .string ⟨a⟩] w (RPost w B toks q (fun s => .string ⟨s.toArray⟩) (nameBehindM key ts)) := by subst ha; exact nameBehind_any h he key
theorem ch_set (w : World) (n o : Nat) (u : Value) : Ch (· = n) w (w.setCell ⟨n, o, none⟩ u) := (Ch.refl (· = n) w).setCell (p := ⟨n, o, none⟩) (.inl rfl) u
theorem ch_set3 (w : World) (n : Nat) (u0 u1 u2 : Value) : Ch (· = n) w (((w.setCell ⟨n, 0, none⟩ u0).setCell ⟨n, 1, none⟩ u1).setCell ⟨n, 2, none⟩ u2) := ((ch_set w n 0 u0).trans (ch_set _ n 1 u1)).trans (ch_set _ n 2 u2)
theorem Ch.fresh {X : Nat → Prop} {w w1 w2 : World} {n : Nat} (h : Ch X w w1) (hn : w.heap.size ≤ n) (h2 : Ch (· = n) w1 w2) : Ch X w w2 :=
  ⟨h2.os.trans h.os, h2.tape.trans h.tape, h2.output.trans h.output, Nat.le_trans h.size h2.size, fun k hk hx => (h2.block k (Nat.lt_of_lt_of_le hk h.size) (by omega)).trans (h.block k hk hx)⟩
abbrev tmV (t : TimesM) : Value := .agg #[.int .i64 t.frm, .int .i64 t.every, .int .i64 t.len]
set_option maxHeartbeats 1000000 in
theorem times_any {w : World} {B : Nat} {toks ts : List Tok} {q : List Value} (h : Cur w B toks q ts) (he : EndL ts) (key : List UInt8) :
    Calls Tryz.prog 114 #[.pointer (some ⟨B, 0, none⟩), .string ⟨key.toArray⟩] w (RPost w B toks q tmV (timesM key ts)) := by
  have HA := Lib.hid (fun w1 (hw : Below w.heap.size w w1) => behind_lit (h.after hw) he kFrom #[102, 114, 111, 109] rfl)
  unfold timesM
  cases hp : behindM kFrom ts with
  | bad e l c =>
    rw [hp] at HA
    clear hp h he
    rw [bind_bad]
    go_enter Tryz.func114, Tryz.ntmps114
    go_wp2_with (go_at_call 121; refine (HA.out _ (one_box _ _)).mono ?_; rintro e w1 ⟨rfl, hc⟩)
    exact ⟨rfl, rfl, (Ch.of_below (one_box _ _)).trans hc⟩
  | ok a r1 =>
    rw [hp] at HA
    have he1 := (keeps_behind _ _ _ _ he hp).1
    have HB := Lib.hid (fun w1 (h1 : Cur w1 B toks q r1) => behind_lit h1 he1 kEvery #[101, 118, 101, 114, 121] rfl)
    rw [bind_ok]
    try dsimp only
    cases hp : behindM kEvery r1 with
    | bad e l c =>
      rw [hp] at HB
      clear hp h he he1
      rw [bind_bad]
      go_enter Tryz.func114, Tryz.ntmps114
      go_wp2_with (go_at_call 121; first | ((with_reducible refine (HA.out _ (one_box _ _)).mono ?_); rintro e w1 ⟨rfl, hc, hch⟩) | ((with_reducible refine (HB.out _ hc).mono ?_); rintro e w2 ⟨rfl, hch2⟩))
      exact ⟨rfl, rfl, ((Ch.of_below (one_box _ _)).trans hch).trans hch2⟩
    | ok b r2 =>
      rw [hp] at HB
      have he2 := (keeps_behind _ _ _ _ he1 hp).1
      have HC := Lib.hid (fun w1 (h1 : Cur w1 B toks q r2) => behind_any h1 he2 key)
      rw [bind_ok]
      try dsimp only
      cases hp : behindM key r2 with
      | bad e l c =>
        rw [hp] at HC
        clear hp h he he1 he2
        rw [bind_bad]
        go_enter Tryz.func114, Tryz.ntmps114
        go_wp2_with (go_at_call 121; first | ((with_reducible refine (HA.out _ (one_box _ _)).mono ?_); rintro e w1 ⟨rfl, hc, hch⟩) | ((with_reducible refine (HB.out _ hc).mono ?_); rintro e w2 ⟨rfl, hc2, hch2⟩) | ((with_reducible refine (HC.out _ hc2).mono ?_); rintro e w3 ⟨rfl, hch3⟩))
        exact ⟨rfl, rfl, (((Ch.of_below (one_box _ _)).trans hch).trans hch2).trans hch3⟩
      | ok d r3 =>
        rw [hp] at HC
        have hB0 : B < w.heap.size := h.lt
        clear hp h he he1 he2
        rw [bind_ok]
        go_enter Tryz.func114, Tryz.ntmps114
        go_wp2_with (go_at_call 121; first | ((with_reducible refine (HA.out _ (one_box _ _)).mono ?_); rintro e w1 ⟨rfl, hc, hch⟩; have HZ1 := Lib.hid (hch.blk (Blk.new w 39 [.int .i64 0, .int .i64 0, .int .i64 0]) (by omega))) | ((with_reducible refine (HB.out _ hc).mono ?_); rintro e w2 ⟨rfl, hc2, hch2⟩; have HZ2 := Lib.hid (hch2.blk HZ1.out (by omega))) | ((with_reducible refine (HC.out _ hc2).mono ?_); rintro e w3 ⟨rfl, hc3, hch3⟩; have HZ3 := Lib.hid (hch3.blk HZ2.out (by omega)); have z0 : w3.cell? ⟨w.heap.size, 0, none⟩ = some (.int .i64 0) := HZ3.out.cell 0; have z1 : w3.cell? ⟨w.heap.size, 1, none⟩ = some (.int .i64 0) := HZ3.out.cell 1; have z2 : w3.cell? ⟨w.heap.size, 2, none⟩ = some (.int .i64 0) := HZ3.out.cell 2; have zf := HZ3.out.frozen))
        refine bodyPost_ret (v := .agg #[.int .i64 a, .int .i64 b, .int .i64 d]) (by simp [results, Tryz.results114, go_sem, z0, z1, z2]) rfl ?_
        exact ⟨rfl, hc3.ch (ch_set3 _ _ _ _ _) (fun k hk e => by omega), ((((Ch.of_below (one_box _ _)).trans hch).trans hch2).trans hch3).fresh (Nat.le_refl _) (ch_set3 _ _ _ _ _)⟩
theorem times_lit {w : World} {B : Nat} {toks ts : List Tok} {q : List Value} (h : Cur w B toks q ts) (he : EndL ts) (key : List UInt8) (a : Array UInt8) (ha : key.toArray = a) :
    Calls Tryz.prog 114 #[.pointer (some ⟨B, 0, none⟩), .string ⟨a⟩] w (RPost w B toks q tmV (timesM key ts)) := by subst ha; exact times_any h he key
set_option maxHeartbeats 1000000 in
theorem stay_any {w : World} {B : Nat} {toks ts : List Tok} {q : List Value} (h : Cur w B toks q ts) (he : EndL ts) :
    Calls Tryz.prog 117 #[.pointer (some ⟨B, 0, none⟩)] w (RPost w B toks q (fun n => .int .i64 n) (stayM ts)) := by
  obtain ⟨t, r, rfl⟩ := he.cons
  have HN : Hid (Calls Tryz.prog 116 #[.pointer (some ⟨B, 0, none⟩)] w fun e w' => e = .returned (.agg #[.int .i64 t.kind, .string ⟨t.text.toArray⟩, .int .i64 t.num, .int .i64 t.line, .int .i64 t.col]) ∧ Below w.heap.size w w') := Lib.hid (next_any h rfl)
  have HA := Lib.hid (fun w1 (hw : Below w.heap.size w w1) => behind_lit (h.after hw) he kStay #[115, 116, 97, 121] rfl)
  have HC := Lib.hid (fun w1 (hw : Below w.heap.size w w1) => h.after hw)
  have hfd := field_kind
  unfold stayM headKind
  dsimp only
  by_cases hk : t.kind = 2
  · rw [if_pos hk]
    have hk1 : (t.kind == 2) = true := beq_iff_eq.2 hk
    have hk2 : (t.kind != 2) = false := by simp [bne, hk1]
    cases hp : behindM kStay (t :: r) with
    | bad e l c =>
      rw [hp] at HA
      clear hp h he hk
      go_enter Tryz.func117, Tryz.ntmps117
      go_wp2_with (first
        | (go_at_call 116; refine HN.out.mono ?_; rintro e w1 ⟨rfl, hb⟩)
        | (go_at_call 121; refine (HA.out _ hb).mono ?_; rintro e w1 ⟨rfl, hc⟩))
      exact ⟨rfl, rfl, (Ch.of_below hb).trans hc⟩
    | ok a r1 =>
      rw [hp] at HA
      clear hp h he hk
      go_enter Tryz.func117, Tryz.ntmps117
      go_wp2_with (first
        | (go_at_call 116; refine HN.out.mono ?_; rintro e w1 ⟨rfl, hb⟩)
        | (go_at_call 121; refine (HA.out _ hb).mono ?_; rintro e w1 ⟨rfl, hc, hch⟩))
      go_ret
      exact ⟨rfl, hc, (Ch.of_below hb).trans hch⟩
  · rw [if_neg hk]
    have hk1 : (t.kind == 2) = false := beq_eq_false_iff_ne.2 hk
    have hk2 : (t.kind != 2) = true := by simp [bne, hk1]
    clear h he hk
    go_enter Tryz.func117, Tryz.ntmps117
    go_wp2_with (go_at_call 116; refine HN.out.mono ?_; rintro e w1 ⟨rfl, hb⟩)
    go_ret
    exact ⟨rfl, HC.out _ hb, .of_below hb⟩
end Go.Proofs.YteonmabfhilcfaaGreatDoor.Sh
namespace Go.Proofs.YteonmabfhilcfaaGreatDoor.Sh
open Go.ChangeShapes Go.WideShapes Go.ChangeAt Go.RowKit
open Lx
set_option linter.unusedVariables false

abbrev str (s : List UInt8) : Value := .string ⟨s.toArray⟩
abbrev i64 (n : Int) : Value := .int .i64 n
abbrev paV (p : PathM) : Value := .agg #[str p.name, str p.a, str p.b, i64 p.len]
abbrev doV (p : DoorM) : Value := .agg #[str p.name, str p.a, str p.b, i64 p.len, i64 p.times.frm, i64 p.times.every, i64 p.times.len]
abbrev trV (p : TripM) : Value := .agg #[str p.name, str p.route, i64 p.frm, i64 p.every, i64 p.til]
abbrev haV (p : HazM) : Value := .agg #[str p.name, str p.at_, i64 p.times.frm, i64 p.times.every, i64 p.times.len]
def paC (p : PathM) : List Value := [str p.name, str p.a, str p.b, i64 p.len]
def doC (p : DoorM) : List Value := [str p.name, str p.a, str p.b, i64 p.len, i64 p.times.frm, i64 p.times.every, i64 p.times.len]
def trC (p : TripM) : List Value := [str p.name, str p.route, i64 p.frm, i64 p.every, i64 p.til]
def haC (p : HazM) : List Value := [str p.name, str p.at_, i64 p.times.frm, i64 p.times.every, i64 p.times.len]
def strC (s : List UInt8) : List Value := [str s]
def intC (n : Int) : List Value := [i64 n]

/-- the cells of a row of things, each of as many cells -/
def cs {α : Type} (f : α → List Value) (l : List α) : List Value := l.flatMap f
theorem cs_nil {α : Type} (f : α → List Value) : cs f [] = [] := rfl
theorem cs_cons {α : Type} (f : α → List Value) (a : α) (l : List α) : cs f (a :: l) = f a ++ cs f l := rfl
theorem cs_append {α : Type} (f : α → List Value) (a b : List α) : cs f (a ++ b) = cs f a ++ cs f b := by simp [cs]
theorem cs_one {α : Type} (f : α → List Value) (a : α) : cs f [a] = f a := by simp [cs]
theorem cs_length {α : Type} (f : α → List Value) (k : Nat) (h : ∀ a, (f a).length = k) (l : List α) : (cs f l).length = l.length * k := by
  induction l with
  | nil => simp [cs]
  | cons a l ih => rw [cs_cons, List.length_append, h, ih, List.length_cons, Nat.succ_mul]; omega
theorem cs_at {α : Type} (f : α → List Value) (k : Nat) (h : ∀ a, (f a).length = k) (l : List α) (i : Nat) (a : α) (ha : l[i]? = some a) (j : Nat) (hj : j < k) : (cs f l)[i * k + j]? = (f a)[j]? := by
  induction l generalizing i with
  | nil => simp at ha
  | cons b l ih =>
    rw [cs_cons]
    cases i with
    | zero =>
      simp at ha; subst ha
      rw [Nat.zero_mul, Nat.zero_add, List.getElem?_append_left (by rw [h]; exact hj)]
    | succ i =>
      simp at ha
      rw [List.getElem?_append_right (by rw [h, Nat.succ_mul]; omega), h, ← ih i ha]
      congr 1; rw [Nat.succ_mul]; omega
theorem cs_take {α : Type} (f : α → List Value) (k : Nat) (h : ∀ a, (f a).length = k) (l : List α) (n : Nat) : cs f (l.take n) = (cs f l).take (n * k) := by
  induction l generalizing n with
  | nil => simp [cs]
  | cons b l ih =>
    cases n with
    | zero => simp [cs]
    | succ n =>
      rw [List.take_succ_cons, cs_cons, cs_cons, ih, List.take_append, h]
      have e1 : (f b).take ((n + 1) * k) = f b := List.take_of_length_le (by rw [h, Nat.succ_mul]; omega)
      have e2 : (n + 1) * k - k = n * k := by rw [Nat.succ_mul]; omega
      rw [e1, e2]

/-- what an append leaves: the row it makes is the call's own -/
theorem wpList_append_ch {P : Program} {w : World} {ops : Array Oper} {rest : List Oper} {o : Oper} {a : Act} {Q : Exit → Act → World → Prop} (hgd : o.guard = none) (s x : Operand) (t : TypeId)
    (ho : o.op = .call { callee := .builtin .append, args := #[s, x], argTypes := #[t, t] })
    (base : Nat) (e : TypeId) (z : Value) (size bytes : Nat) (ht : P.underlying t = some (.slice e)) (hinfo : (P.info? e).map (fun i => (i.zero, i.size, i.bytes)) = some (some z, size, bytes)) (hzs : z.cells.size = size) (hsz : 0 < size) (hb16 : bytes ≤ 96)
    (v : Value) (n : Nat) (xs : List Value) (hs : a.eval s = v) (hown : w.ownsRow base e size v n xs) (S : Nat → Prop) (A : Option Addr) (m c : Nat) (news : List Value) (hx : a.eval x = .slice A m c) (hl : news.length = m * size) (hr : Rd w S A news) (h1 : ∀ u ∈ news, u.oneCell' = true)
    (hN : n + m ≤ 1000000) (hbase : base ≤ w.heap.size)
    (h : ∀ v' w', Hid (w'.ownsRow base e size v' (n + m) (xs ++ news)) → Hid (w.grownBy w' v.ownBlock) → Hid (v'.ownBlock = v.ownBlock ∨ v'.ownBlock = some w.heap.size) → wpList P ops Q rest (a.put o.dst v') w') : wpList P ops Q (o :: rest) a w := by
  refine wpList_plain hgd fun K hK => ?_
  obtain ⟨i, hi, hz, hsize, hby⟩ := info_parts hinfo
  obtain ⟨v', w', hrun, h2, h3, h4⟩ := run_append_rd (P := P) w base t o.type e i z size bytes ht hi hz hsize hby hzs hsz v n xs hown S A m c news hl hr h1 (by simp only [maxLen]; omega)
    (by have : (n + m) * bytes ≤ 1000000 * 96 := Nat.mul_le_mul hN hb16
        omega) hbase
  unfold Oper.wp
  simp only [execOp, ho, resolve, invoke, builtin, Sem.run_bind, Sem.run_pure, Result.andThen_ok, List.map_toArray, List.map_cons, List.map_nil, hs, hx, hrun]
  exact hK _ _ (h v' w' h2 h3 h4)
theorem lit_rd (w : World) (l : Array Value) (t : TypeId) (xs : List Value) (h : xs.toArray = l) : Rd (w.alloc (.cells l t)) (· < (w.alloc (.cells l t)).heap.size) (some ⟨w.heap.size, 0, none⟩) xs := by
  subst h
  exact (Blk.new w t xs).rd (S := fun b => b < (w.alloc (.cells xs.toArray t)).heap.size) (by simp) 0
theorem lit_at (w : World) (n : Nat) (l : Array Value) (t : TypeId) (xs : List Value) (hn : n = w.heap.size) (h : xs.toArray = l) : Rd (w.alloc (.cells l t)) (· < (w.alloc (.cells l t)).heap.size) (some ⟨n, 0, none⟩) xs := by subst hn; exact lit_rd w l t xs h

/-- the first token of the line, among the reader's cells -/
def fc (t : Tok) : List Value := [i64 t.kind, str t.text, i64 t.num, i64 t.line, i64 t.col]
theorem Cur.blk {w : World} {B : Nat} {toks ts : List Tok} {q : List Value} (h : Cur w B toks q ts) : ∃ l, Blk w B 72 l := by obtain ⟨_, _, _, h, _⟩ := h; exact ⟨_, h⟩
theorem first_cells {w : World} {B : Nat} {toks ts : List Tok} {q : List Value} {t : Tok} (h : Cur w B toks (fc t ++ q) ts) :
    w.cell? ⟨B, 2, none⟩ = some (.int .i64 t.kind) ∧ w.cell? ⟨B, 3, none⟩ = some (.string ⟨t.text.toArray⟩) ∧ w.cell? ⟨B, 4, none⟩ = some (.int .i64 t.num) ∧ w.cell? ⟨B, 5, none⟩ = some (.int .i64 t.line) ∧ w.cell? ⟨B, 6, none⟩ = some (.int .i64 t.col) := by
  obtain ⟨A, c, at_, hb, _⟩ := h
  exact ⟨hb.cell 2, hb.cell 3, hb.cell 4, hb.cell 5, hb.cell 6⟩

/-- what a put leaves -/
def PutPost (w : World) (B : Nat) (toks : List Tok) (q : List Value) (e size : Nat) (v : Value) (n : Nat) (xs new : List Value) : PR Unit → Ending → World → Prop
  | .ok _ r, en, w' => ∃ (A' : Option Addr) (c' : Nat), en = .returned (.slice A' (n + 1) c') ∧ w'.ownsRow (B + 1) e size (.slice A' (n + 1) c') (n + 1) (xs ++ new) ∧ Cur w' B toks q r ∧ Ch (fun b => b = B ∨ some b = v.ownBlock) w w' ∧ ((Value.slice A' (n + 1) c').ownBlock = v.ownBlock ∨ ∃ k, (Value.slice A' (n + 1) c').ownBlock = some k ∧ w.heap.size ≤ k)
  | .bad er l c, en, w' => en = .panicked (gave er l c) ∧ Ch (· = B) w w'
theorem put_done {w w1 w2 : World} {o : Obj} {B : Nat} {toks ts : List Tok} {q : List Value} {e size n : Nat} {v v' : Value} {xs new : List Value} {u : Unit}
    (hc : Cur w1 B toks q ts) (hch : Ch (· = B) w w1) (hv : w.ownsRow (B + 1) e size v n xs) (h2 : w2.ownsRow (B + 1) e size v' (n + 1) (xs ++ new)) (hg : (w1.alloc o).grownBy w2 v.ownBlock) (hb : v'.ownBlock = v.ownBlock ∨ v'.ownBlock = some (w1.alloc o).heap.size) :
    PutPost w B toks q e size v n xs new (.ok u ts) (.returned v') w2 := by
  have hc2 : Ch (fun b => some b = v.ownBlock) w1 w2 := (Ch.of_below (one_box w1 o)).trans (Ch.of_grown hg fun k hk => hk)
  obtain ⟨A', c', rfl, -, -⟩ := own_form h2
  refine ⟨A', c', rfl, h2, hc.ch hc2 fun k hk e => ?_, ?_, ?_⟩
  · have := (hv.lt k e.symm).1; omega
  · exact (hch.mono fun k _ e => .inl e).trans (hc2.mono fun k _ e => .inr e)
  · rcases hb with hb | hb
    · exact .inl hb
    · exact .inr ⟨_, hb, by have := hch.size; simp; omega⟩
end Go.Proofs.YteonmabfhilcfaaGreatDoor.Sh
namespace Go.Proofs.YteonmabfhilcfaaGreatDoor.Sh
open Go.ChangeShapes Go.WideShapes Go.ChangeAt Go.RowKit
open Lx
set_option linter.unusedVariables false

abbrev fnV (f : Nat) : Value := .func (.func f) #[] #[]
def mapEs : Array MapEntry := #[⟨.string ⟨kHorizon.toArray⟩, fnV 87, 0⟩, ⟨.string ⟨kStop.toArray⟩, fnV 88, 1⟩, ⟨.string ⟨kPath.toArray⟩, fnV 89, 2⟩,
  ⟨.string ⟨kDoor.toArray⟩, fnV 90, 3⟩, ⟨.string ⟨kRoute.toArray⟩, fnV 91, 4⟩, ⟨.string ⟨kTrip.toArray⟩, fnV 92, 5⟩, ⟨.string ⟨kHazard.toArray⟩, fnV 93, 6⟩]
theorem uMap : Tryz.prog.underlying 99 = some (.map 9 101) := by kernel_rfl
theorem ckey (w : World) (b : Bool) (s : ByteArray) : (Instr.checkKey b 10000 9 (.string s)).run Tryz.prog w = .ok () w := by kernel_rfl
theorem ins_step (w : World) (g : Nat) (es : Array MapEntry) (c : Nat) (k : ByteArray) (v : Value) (hg : w.heap[g]? = some (.map es c)) (hf : Instr.findNow .string (.string k) es.toList 0 = some none) :
    ∃ W', (Instr.mapUpdate 99 (.map (some g)) (.string k) v).run Tryz.prog w = .ok () W' ∧ W'.heap[g]? = some (.map (es.push ⟨.string k, v, c⟩) (c + 1)) ∧ Ch (· = g) w W' := by
  have hlt : g < w.heap.size := (Array.getElem?_eq_some_iff.1 hg).1
  refine ⟨{ w with heap := w.heap.setIfInBounds g (.map (es.push ⟨.string k, v, c⟩) (c + 1)) }, ?_, ?_, ⟨rfl, rfl, rfl, by simp, fun i hi hne => ?_⟩⟩
  · simp [Instr.mapUpdate, run_underlying uMap, MapKept.run_getObj_map hg, ckey, Instr.findKey, run_underlying Tryz.underlying9, hf, MapKept.run_setObj_map _ hg, Result.andThen]
  · simp [hlt]
  · simp only [Array.getElem?_setIfInBounds]
    rw [if_neg (by omega)]
theorem mk_map (w : World) : (Instr.makeMap 99 none).run Tryz.prog w = .ok (.map (some w.heap.size)) (w.alloc (.map #[] 0)) := rfl
def MapPost (w : World) (e : Ending) (w' : World) : Prop := e = .returned (.map (some w.heap.size)) ∧ w'.heap[w.heap.size]? = some (.map mapEs 7) ∧ Below w.heap.size w w'
set_option maxRecDepth 100000 in
set_option maxHeartbeats 1000000 in
theorem byWord_any (w : World) : Calls Tryz.prog 58 #[] w (MapPost w) := by
  have hmk := mk_map w
  have h0 : (w.alloc (.map #[] 0)).heap[w.heap.size]? = some (.map #[] 0) := heap_alloc_new w _
  obtain ⟨W1, r1, h1, c1⟩ := ins_step _ w.heap.size _ _ ⟨#[104, 111, 114, 105, 122, 111, 110]⟩ (fnV 87) h0 rfl
  obtain ⟨W2, r2, h2, c2⟩ := ins_step _ w.heap.size _ _ ⟨#[115, 116, 111, 112]⟩ (fnV 88) h1 rfl
  obtain ⟨W3, r3, h3, c3⟩ := ins_step _ w.heap.size _ _ ⟨#[112, 97, 116, 104]⟩ (fnV 89) h2 rfl
  obtain ⟨W4, r4, h4, c4⟩ := ins_step _ w.heap.size _ _ ⟨#[100, 111, 111, 114]⟩ (fnV 90) h3 rfl
  obtain ⟨W5, r5, h5, c5⟩ := ins_step _ w.heap.size _ _ ⟨#[114, 111, 117, 116, 101]⟩ (fnV 91) h4 rfl
  obtain ⟨W6, r6, h6, c6⟩ := ins_step _ w.heap.size _ _ ⟨#[116, 114, 105, 112]⟩ (fnV 92) h5 rfl
  obtain ⟨W7, r7, h7, c7⟩ := ins_step _ w.heap.size _ _ ⟨#[104, 97, 122, 97, 114, 100]⟩ (fnV 93) h6 rfl
  have HM := Lib.hid h7
  have HB : Hid (Below w.heap.size w W7) := Lib.hid ((Ch.fresh (X := fun _ => False) (.of_below (one_box w _)) (Nat.le_refl _) ((((((c1.trans c2).trans c3).trans c4).trans c5).trans c6).trans c7)).below (Nat.le_refl _) fun _ h => h.elim)
  clear h0 h1 h2 h3 h4 h5 h6 h7 c1 c2 c3 c4 c5 c6 c7
  go_enter Tryz.func58, Tryz.ntmps58
  go_wp2
  go_ret
  exact ⟨rfl, HM.out, HB.out⟩
/-- what the map tells of a word -/
def lookF (s : List UInt8) : Option Nat :=
  if s = kHorizon then some 87 else if s = kStop then some 88 else if s = kPath then some 89 else if s = kDoor then some 90
  else if s = kRoute then some 91 else if s = kTrip then some 92 else if s = kHazard then some 93 else none
def lookV (o : Option Nat) : Value := match o with | some f => .tuple #[fnV f, .bool true] | none => .tuple #[.nilFunc, .bool false]
theorem beq_ba (a b : List UInt8) : ((⟨a.toArray⟩ : ByteArray) == ⟨b.toArray⟩) = decide (a = b) := by
  show (a.toArray == b.toArray) = decide (a = b)
  by_cases h : a = b
  · subst h; simp
  · rw [decide_eq_false h]
    refine beq_eq_false_iff_ne.2 fun e => h ?_
    simpa using congrArg Array.toList e
theorem look_any (w : World) (g : Nat) (s : List UInt8) (hg : w.heap[g]? = some (.map mapEs 7)) : (Instr.lookup 99 (.map (some g)) (.string ⟨s.toArray⟩) true).run Tryz.prog w = .ok (lookV (lookF s)) w := by
  have hf : Instr.findNow .string (.string ⟨s.toArray⟩) mapEs.toList 0 = some (if s = kHorizon then some (0, fnV 87) else if s = kStop then some (1, fnV 88) else if s = kPath then some (2, fnV 89) else if s = kDoor then some (3, fnV 90)
      else if s = kRoute then some (4, fnV 91) else if s = kTrip then some (5, fnV 92) else if s = kHazard then some (6, fnV 93) else none) := by
    simp only [mapEs, Instr.findNow, Instr.sameNow, beq_ba]
    by_cases h1 : s = kHorizon
    · rw [if_pos h1, decide_eq_true h1]
    rw [if_neg h1, decide_eq_false h1]
    by_cases h2 : s = kStop
    · rw [if_pos h2, decide_eq_true h2]
    rw [if_neg h2, decide_eq_false h2]
    by_cases h3 : s = kPath
    · rw [if_pos h3, decide_eq_true h3]
    rw [if_neg h3, decide_eq_false h3]
    by_cases h4 : s = kDoor
    · rw [if_pos h4, decide_eq_true h4]
    rw [if_neg h4, decide_eq_false h4]
    by_cases h5 : s = kRoute
    · rw [if_pos h5, decide_eq_true h5]
    rw [if_neg h5, decide_eq_false h5]
    by_cases h6 : s = kTrip
    · rw [if_pos h6, decide_eq_true h6]
    rw [if_neg h6, decide_eq_false h6]
    by_cases h7 : s = kHazard
    · rw [if_pos h7, decide_eq_true h7]
    rw [if_neg h7, decide_eq_false h7]
  have hgen : ∀ o, Instr.findNow .string (.string ⟨s.toArray⟩) mapEs.toList 0 = some o → (Instr.lookup 99 (.map (some g)) (.string ⟨s.toArray⟩) true).run Tryz.prog w = .ok (match o with | some (_, v) => .tuple #[v, .bool true] | none => .tuple #[.nilFunc, .bool false]) w := by
    intro o ho
    cases o with
    | none => simp [Instr.lookup, run_underlying uMap, MapKept.run_getObj_map hg, ckey, Instr.findKey, run_underlying Tryz.underlying9, ho, Result.andThen]
    | some p => simp [Instr.lookup, run_underlying uMap, MapKept.run_getObj_map hg, ckey, Instr.findKey, run_underlying Tryz.underlying9, ho, Result.andThen]
  rw [hgen _ hf]
  unfold lookF lookV
  by_cases h1 : s = kHorizon
  · simp only [if_pos h1]
  simp only [if_neg h1]
  by_cases h2 : s = kStop
  · simp only [if_pos h2]
  simp only [if_neg h2]
  by_cases h3 : s = kPath
  · simp only [if_pos h3]
  simp only [if_neg h3]
  by_cases h4 : s = kDoor
  · simp only [if_pos h4]
  simp only [if_neg h4]
  by_cases h5 : s = kRoute
  · simp only [if_pos h5]
  simp only [if_neg h5]
  by_cases h6 : s = kTrip
  · simp only [if_pos h6]
  simp only [if_neg h6]
  by_cases h7 : s = kHazard
  · simp only [if_pos h7]
  simp only [if_neg h7]
end Go.Proofs.YteonmabfhilcfaaGreatDoor.Sh
namespace Go.Proofs.YteonmabfhilcfaaGreatDoor.Sh
open Go.ChangeShapes Go.WideShapes Go.ChangeAt Go.RowKit
open Lx
set_option linter.unusedVariables false

def zSheet : List Value := [.int .i64 0, .slice none 0 0, .slice none 0 0, .slice none 0 0, .slice none 0 0, .slice none 0 0, .slice none 0 0]
def CatchPost (w : World) (n0 n1 : Nat) (er l c : Int) (e : Ending) (u' : FrameMode) (w' : World) : Prop :=
  e = .returned (.tuple #[]) ∧ u' = .panicking [{ v := .iface 67 (.agg #[.int .i64 er, .int .i64 l, .int .i64 c]), recovered := true }] ∧ Blk w' n0 29 zSheet ∧ Blk w' n1 32 [.int .i64 er, .int .i64 l, .int .i64 c] ∧ Ch (fun k => k = n0 ∨ k = n1) w w'
set_option maxRecDepth 100000 in
set_option maxHeartbeats 1000000 in
theorem catch_idle (a b : Value) (w : World) :
    CallsD Tryz.prog 25 #[a, b] .returning w fun e u' w' => e = .returned (.tuple #[]) ∧ u' = .returning ∧ w' = w := by
  refine callsD_of_wpS Tryz.func25 rfl fun c₀ cs hu => ?_
  apply wpS_seq
  apply wpS_region
  simp [wpOpsS, go_sem, recoverD, hu, Tryz.ntmps25, Exit.thenS]
  refine wpS_of_wp ?_
  simp [Array.replicate]
  go_wp2
  cases c₀
  simp_all [bodyPostS, results, Tryz.results25]
theorem field_fault (w : World) (x y z : Int) : (Instr.field 67 (.agg #[.int .i64 x, .int .i64 y, .int .i64 z]) 0).run Tryz.prog w = .ok (.agg #[.int .i64 x, .int .i64 y, .int .i64 z]) w := by kernel_rfl
theorem assert_ok (w : World) (x y z : Int) : (Instr.typeAssert (.iface 67 (.agg #[.int .i64 x, .int .i64 y, .int .i64 z])) 20 67 false).run Tryz.prog w = .ok (.agg #[.int .i64 x, .int .i64 y, .int .i64 z]) w := by kernel_rfl
theorem len7 {l : List Value} (h : l.length = 7) : ∃ a b c d e f g, l = [a, b, c, d, e, f, g] := by
  match l, h with
  | [a, b, c, d, e, f, g], _ => exact ⟨a, b, c, d, e, f, g, rfl⟩
theorem len3 {l : List Value} (h : l.length = 3) : ∃ a b c, l = [a, b, c] := by
  match l, h with
  | [a, b, c], _ => exact ⟨a, b, c, rfl⟩
theorem set7 {w : World} {n : Nat} {t : TypeId} {a0 a1 a2 a3 a4 a5 a6 : Value} (h : Blk w n t [a0, a1, a2, a3, a4, a5, a6]) (u0 u1 u2 u3 u4 u5 u6 : Value) :
    Blk (((((((w.setCell ⟨n, 0, none⟩ u0).setCell ⟨n, 1, none⟩ u1).setCell ⟨n, 2, none⟩ u2).setCell ⟨n, 3, none⟩ u3).setCell ⟨n, 4, none⟩ u4).setCell ⟨n, 5, none⟩ u5).setCell ⟨n, 6, none⟩ u6) n t [u0, u1, u2, u3, u4, u5, u6] :=
  ((((((h.set_ 0 u0).set_ 1 u1).set_ 2 u2).set_ 3 u3).set_ 4 u4).set_ 5 u5).set_ 6 u6
theorem set3 {w : World} {n : Nat} {t : TypeId} {a0 a1 a2 : Value} (h : Blk w n t [a0, a1, a2]) (u0 u1 u2 : Value) :
    Blk (((w.setCell ⟨n, 0, none⟩ u0).setCell ⟨n, 1, none⟩ u1).setCell ⟨n, 2, none⟩ u2) n t [u0, u1, u2] :=
  ((h.set_ 0 u0).set_ 1 u1).set_ 2 u2
theorem ch_set7 (w : World) (n : Nat) (u0 u1 u2 u3 u4 u5 u6 : Value) : Ch (· = n) w (((((((w.setCell ⟨n, 0, none⟩ u0).setCell ⟨n, 1, none⟩ u1).setCell ⟨n, 2, none⟩ u2).setCell ⟨n, 3, none⟩ u3).setCell ⟨n, 4, none⟩ u4).setCell ⟨n, 5, none⟩ u5).setCell ⟨n, 6, none⟩ u6) :=
  ((((((ch_set w n 0 u0).trans (ch_set _ n 1 u1)).trans (ch_set _ n 2 u2)).trans (ch_set _ n 3 u3)).trans (ch_set _ n 4 u4)).trans (ch_set _ n 5 u5)).trans (ch_set _ n 6 u6)
theorem blk_drew {w : World} {n : Nat} {t : TypeId} {l : List Value} (h : Blk w n t l) : Blk w.drew n t l := h
theorem catch_fin (w : World) (n0 n1 : Nat) (er l c : Int) {a0 a1 a2 a3 a4 a5 a6 c0 c1 c2 : Value} (h0 : Blk w n0 29 [a0, a1, a2, a3, a4, a5, a6]) (h1 : Blk w n1 32 [c0, c1, c2]) (hne : n0 ≠ n1) :
    Blk ((((((((((w.setCell ⟨n0, 0, none⟩ (.int .i64 0)).setCell ⟨n0, 1, none⟩ (.slice none 0 0)).setCell ⟨n0, 2, none⟩ (.slice none 0 0)).setCell ⟨n0, 3, none⟩ (.slice none 0 0)).setCell ⟨n0, 4, none⟩ (.slice none 0 0)).setCell ⟨n0, 5, none⟩ (.slice none 0 0)).setCell ⟨n0, 6, none⟩ (.slice none 0 0)).setCell ⟨n1, 0, none⟩ (.int .i64 er)).setCell ⟨n1, 1, none⟩ (.int .i64 l)).setCell ⟨n1, 2, none⟩ (.int .i64 c)).drew n0 29 zSheet ∧
    Blk ((((((((((w.setCell ⟨n0, 0, none⟩ (.int .i64 0)).setCell ⟨n0, 1, none⟩ (.slice none 0 0)).setCell ⟨n0, 2, none⟩ (.slice none 0 0)).setCell ⟨n0, 3, none⟩ (.slice none 0 0)).setCell ⟨n0, 4, none⟩ (.slice none 0 0)).setCell ⟨n0, 5, none⟩ (.slice none 0 0)).setCell ⟨n0, 6, none⟩ (.slice none 0 0)).setCell ⟨n1, 0, none⟩ (.int .i64 er)).setCell ⟨n1, 1, none⟩ (.int .i64 l)).setCell ⟨n1, 2, none⟩ (.int .i64 c)).drew n1 32 [.int .i64 er, .int .i64 l, .int .i64 c] ∧
    Ch (fun k => k = n0 ∨ k = n1) w ((((((((((w.setCell ⟨n0, 0, none⟩ (.int .i64 0)).setCell ⟨n0, 1, none⟩ (.slice none 0 0)).setCell ⟨n0, 2, none⟩ (.slice none 0 0)).setCell ⟨n0, 3, none⟩ (.slice none 0 0)).setCell ⟨n0, 4, none⟩ (.slice none 0 0)).setCell ⟨n0, 5, none⟩ (.slice none 0 0)).setCell ⟨n0, 6, none⟩ (.slice none 0 0)).setCell ⟨n1, 0, none⟩ (.int .i64 er)).setCell ⟨n1, 1, none⟩ (.int .i64 l)).setCell ⟨n1, 2, none⟩ (.int .i64 c)).drew := by
  have k0 := set7 h0 (.int .i64 0) (.slice none 0 0) (.slice none 0 0) (.slice none 0 0) (.slice none 0 0) (.slice none 0 0) (.slice none 0 0)
  have d := ch_set7 w n0 (.int .i64 0) (.slice none 0 0) (.slice none 0 0) (.slice none 0 0) (.slice none 0 0) (.slice none 0 0) (.slice none 0 0)
  generalize ((((((w.setCell ⟨n0, 0, none⟩ (.int .i64 0)).setCell ⟨n0, 1, none⟩ (.slice none 0 0)).setCell ⟨n0, 2, none⟩ (.slice none 0 0)).setCell ⟨n0, 3, none⟩ (.slice none 0 0)).setCell ⟨n0, 4, none⟩ (.slice none 0 0)).setCell ⟨n0, 5, none⟩ (.slice none 0 0)).setCell ⟨n0, 6, none⟩ (.slice none 0 0) = W at k0 d ⊢
  have k1 := set3 (d.blk h1 (Ne.symm hne)) (.int .i64 er) (.int .i64 l) (.int .i64 c)
  have d1 := ch_set3 W n1 (.int .i64 er) (.int .i64 l) (.int .i64 c)
  exact ⟨blk_drew (d1.blk k0 hne), blk_drew k1, ((d.mono fun _ _ e => .inl e : Ch (fun k => k = n0 ∨ k = n1) w W).trans (d1.mono fun _ _ e => .inr e)).drew⟩
set_option maxRecDepth 100000 in
set_option maxHeartbeats 1000000 in
theorem catch_panicking (w : World) (n0 n1 : Nat) (l0 l1 : List Value) (er l c : Int) (h0 : Blk w n0 29 l0) (h1 : Blk w n1 32 l1) (z0 : l0.length = 7) (z1 : l1.length = 3) (hne : n0 ≠ n1) :
    CallsD Tryz.prog 25 #[.pointer (some ⟨n0, 0, none⟩), .pointer (some ⟨n1, 0, none⟩)] (.panicking (gave er l c)) w (CatchPost w n0 n1 er l c) := by
  refine callsD_of_wpS Tryz.func25 rfl fun c₀ cs hu => ?_
  apply wpS_seq
  apply wpS_region
  simp [wpOpsS, go_sem, recoverD, hu, Tryz.ntmps25, Exit.thenS]
  refine wpS_of_wp ?_
  simp [Array.replicate]
  have hff := field_fault
  have hta := assert_ok
  obtain ⟨a0, a1, a2, a3, a4, a5, a6, rfl⟩ := len7 z0
  obtain ⟨c0, c1, c2, rfl⟩ := len3 z1
  have x0 : w.cell? ⟨n0, 0, none⟩ = some a0 := h0.cell 0
  have x1 : w.cell? ⟨n0, 1, none⟩ = some a1 := h0.cell 1
  have x2 : w.cell? ⟨n0, 2, none⟩ = some a2 := h0.cell 2
  have x3 : w.cell? ⟨n0, 3, none⟩ = some a3 := h0.cell 3
  have x4 : w.cell? ⟨n0, 4, none⟩ = some a4 := h0.cell 4
  have x5 : w.cell? ⟨n0, 5, none⟩ = some a5 := h0.cell 5
  have x6 : w.cell? ⟨n0, 6, none⟩ = some a6 := h0.cell 6
  have y0 : w.cell? ⟨n1, 0, none⟩ = some c0 := h1.cell 0
  have y1 : w.cell? ⟨n1, 1, none⟩ = some c1 := h1.cell 1
  have y2 : w.cell? ⟨n1, 2, none⟩ = some c2 := h1.cell 2
  have xf := h0.frozen
  have yf := h1.frozen
  have HH0 := Lib.hid h0
  have HH1 := Lib.hid h1
  clear h0 h1 z0 z1
  go_wp2
  go_region
  all_goals
    go_wp2
    refine ⟨rfl, _, rfl, .tuple #[], by simp [results, Tryz.results25], rfl, rfl, ?_⟩
    exact catch_fin w n0 n1 er l c HH0.out HH1.out hne
end Go.Proofs.YteonmabfhilcfaaGreatDoor.Sh
