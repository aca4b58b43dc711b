/- Words for package sheet: what a call changes; tokens as they lie; the reader and where it is; panics. · Package sheet's reader: what it takes of a line, token by token, proved by walking its text. Conditions: a token is to come. · Package sheet's reader: words with numbers and names behind them, times, stays, proved by walking their text. Conditions: a token is to come. · Words for the rows of a sheet: the cells of things; what an append leaves; what a put leaves; the sheet that is read so far. · Package sheet's byWord: the map from a word to what reads its line; how it is asked. No conditions. · Package sheet's Parse: what its deferred function does, at a panic and without one. Conditions: it was a reader that panicked. -/
import Derived.Test.YtcmlmfcnbmpajaaGreatDoorLexOne
import Derived.Test.YtcmlmfcnbmpajaaGreatDoorPlain
import Derived.Deep.RegionWith
import Derived.WalkLawsBesides
import Derived.Outline
import Derived.Deep.Cut
import Derived.MapKept
import Derived.Defers
import Derived.Recover
import Derived.Laws.Pointers
namespace Go.Proofs.YtcmlmfcnbmpajaaGreatDoor.Sh
open Go.ChangeShapes Go.WideShapes Go.ChangeAt Go.RowKit
open Lx
set_option linter.unusedVariables false

/-- a token's value -/
abbrev ta (t : Tok) : Value := .agg #[.int .i64 t.kind, .string ⟨t.text.toArray⟩, .int .i64 t.num, .int .i64 t.line, .int .i64 t.col]
/-- the cells of the token at address a -/
structure TokC (w : World) (a : Addr) (t : Tok) : Prop where
  c0 : w.cell? a = some (.int .i64 t.kind)
  c1 : w.cell? ⟨a.block, a.off + 1, none⟩ = some (.string ⟨t.text.toArray⟩)
  c2 : w.cell? ⟨a.block, a.off + 2, none⟩ = some (.int .i64 t.num)
  c3 : w.cell? ⟨a.block, a.off + 3, none⟩ = some (.int .i64 t.line)
  c4 : w.cell? ⟨a.block, a.off + 4, none⟩ = some (.int .i64 t.col)
theorem rd_tok {w : World} {S : Nat → Prop} {A : Option Addr} {zs : List Tok} (h : Rd w S A (tc zs)) {k : Nat} {t : Tok} (hk : zs[k]? = some t) : ∃ ad, A = some ad ∧ S ad.block ∧ TokC w (ad.add (k * 5)) t := by
  have hlt : k < zs.length := by
    rcases Nat.lt_or_ge k zs.length with hl | hl
    · exact hl
    · rw [List.getElem?_eq_none hl] at hk; cases hk
  obtain ⟨ad, e, hb, hc⟩ := h (by rw [tc_length]; omega)
  obtain ⟨h0, h1, h2, h3, h4⟩ := tc_at zs k t hk
  have e1 : (⟨(ad.add (k * 5)).block, (ad.add (k * 5)).off + 1, none⟩ : Addr) = (ad.add (k * 5)).add 1 := rfl
  have e2 : (⟨(ad.add (k * 5)).block, (ad.add (k * 5)).off + 2, none⟩ : Addr) = (ad.add (k * 5)).add 2 := rfl
  have e3 : (⟨(ad.add (k * 5)).block, (ad.add (k * 5)).off + 3, none⟩ : Addr) = (ad.add (k * 5)).add 3 := rfl
  have e4 : (⟨(ad.add (k * 5)).block, (ad.add (k * 5)).off + 4, none⟩ : Addr) = (ad.add (k * 5)).add 4 := rfl
  exact ⟨ad, e, hb, hc _ _ h0, by rw [e1, add_of_add]; exact hc _ _ h1, by rw [e2, add_of_add]; exact hc _ _ h2, by rw [e3, add_of_add]; exact hc _ _ h3, by rw [e4, add_of_add]; exact hc _ _ h4⟩
theorem rd_old {w : World} {B : Nat} {A : Option Addr} {xs : List Value} (h : Rd w (fun b => B ≤ b ∧ b < w.heap.size) A xs) : Rd w (· < w.heap.size) A xs := h.more fun _ hb => hb.2
theorem rd_later {w w' : World} {A : Option Addr} {xs : List Value} (h : Rd w (· < w.heap.size) A xs) (hb : Below w.heap.size w w') : Rd w' (· < w'.heap.size) A xs :=
  (h.below hb).more fun b h1 => by have := hb.size; omega
theorem bcell {W w1 : World} (hb : Below W.heap.size W w1) : (∀ b o, b < W.heap.size → w1.cell? ⟨b, o, none⟩ = W.cell? ⟨b, o, none⟩) ∧ (∀ b o, b < W.heap.size → w1.frozen? ⟨b, o, none⟩ = W.frozen? ⟨b, o, none⟩) :=
  ⟨fun b o h => hb.cell (p := ⟨b, o, none⟩) h, fun b o h => hb.frozen (p := ⟨b, o, none⟩) h⟩
theorem one_box (w : World) (o : Obj) : Below w.heap.size w (w.alloc o) := (Below.refl _ _).alloc (Nat.le_refl _) _
theorem two_box (w : World) (o p : Obj) : Below w.heap.size w ((w.alloc o).alloc p) := ((Below.refl _ _).alloc (Nat.le_refl _) _).alloc (by simp) _

/-- of what was there only blocks of X are changed -/
structure Ch (X : Nat → Prop) (w w' : World) : Prop where
  os : w'.os = w.os
  tape : w'.tape = w.tape
  output : w'.output = w.output
  size : w.heap.size ≤ w'.heap.size
  block : ∀ k, k < w.heap.size → ¬ X k → w'.heap[k]? = w.heap[k]?
section
variable {X Y : Nat → Prop} {w w' w'' : World}
theorem Ch.refl (X : Nat → Prop) (w : World) : Ch X w w := ⟨rfl, rfl, rfl, Nat.le_refl _, fun _ _ _ => rfl⟩
theorem Ch.trans (h : Ch X w w') (k : Ch X w' w'') : Ch X w w'' :=
  ⟨k.os.trans h.os, k.tape.trans h.tape, k.output.trans h.output, Nat.le_trans h.size k.size, fun i hi hx => (k.block i (Nat.lt_of_lt_of_le hi h.size) hx).trans (h.block i hi hx)⟩
theorem Ch.trans' (h : Ch X w w') (k : Ch Y w' w'') (hy : ∀ i, i < w.heap.size → Y i → X i) : Ch X w w'' :=
  ⟨k.os.trans h.os, k.tape.trans h.tape, k.output.trans h.output, Nat.le_trans h.size k.size, fun i hi hx => (k.block i (Nat.lt_of_lt_of_le hi h.size) (fun e => hx (hy i hi e))).trans (h.block i hi hx)⟩
theorem Ch.mono (h : Ch X w w') (hx : ∀ k, k < w.heap.size → X k → Y k) : Ch Y w w' := ⟨h.os, h.tape, h.output, h.size, fun k hk hy => h.block k hk (fun e => hy (hx k hk e))⟩
theorem Ch.of_below (h : Below w.heap.size w w') : Ch X w w' := ⟨h.os, h.tape, h.output, h.size, fun k hk _ => h.block k hk⟩
theorem Ch.of_grown {row : Option Nat} (h : w.grownBy w' row) (hx : ∀ k, some k = row → X k) : Ch X w w' := ⟨h.os, h.tape, h.output, h.size, fun k hk hn => h.block k hk (fun e => hn (hx k e))⟩
theorem Ch.alloc (h : Ch X w w') (o : Obj) : Ch X w (w'.alloc o) := h.trans (.of_below (one_box _ _))
theorem Ch.setCell (h : Ch X w w') {p : Addr} (hp : X p.block ∨ w.heap.size ≤ p.block) (u : Value) : Ch X w (w'.setCell p u) :=
  ⟨h.os, h.tape, h.output, by simpa [World.setCell] using h.size, fun k hk hx => (Below.heap_setCell _ _ _ _ (by rintro rfl; rcases hp with hp | hp; exact hx hp; omega)).trans (h.block k hk hx)⟩
theorem Ch.drew (h : Ch X w w') : Ch X w w'.drew := ⟨h.os, h.tape, h.output, h.size, h.block⟩
theorem Ch.drewN (h : Ch X w w') (n : Nat) : Ch X w (w'.drewN n) := ⟨h.os, h.tape, h.output, h.size, h.block⟩
theorem Ch.below (h : Ch X w w') {B : Nat} (hB : B ≤ w.heap.size) (hx : ∀ k, X k → B ≤ k) : Below B w w' := ⟨h.os, h.tape, h.output, h.size, fun k hk => h.block k (by omega) (fun e => by have := hx k e; omega)⟩
theorem Ch.blk {g : Nat} {t : TypeId} {l : List Value} (h : Ch X w w') (hb : Blk w g t l) (hx : ¬ X g) : Blk w' g t l := (h.block g hb.lt hx).trans hb
theorem Ch.rd {S : Nat → Prop} {A : Option Addr} {xs : List Value} (h : Ch X w w') (hr : Rd w S A xs) (hx : ∀ b, S b → b < w.heap.size ∧ ¬ X b) : Rd w' S A xs := hr.keep fun b hb => h.block b (hx b hb).1 (hx b hb).2
theorem Ch.own {base e size n : Nat} {v : Value} {xs : List Value} (h : Ch X w w') (ho : w.ownsRow base e size v n xs) (hx : ∀ k, v.ownBlock = some k → ¬ X k) : w'.ownsRow base e size v n xs := by
  refine ⟨ho.1, ?_⟩
  rcases ho.2 with hn | ⟨g, cap, cur, rfl, hb, hgg, rest⟩
  · exact .inl hn
  · exact .inr ⟨g, cap, cur, rfl, hb, (h.block g (Array.getElem?_eq_some_iff.1 hgg).1 (hx g rfl)).trans hgg, rest⟩
end
/-- rows of unlike things lie in unlike blocks -/
theorem own_ne {w : World} {b b' e e' size size' n n' : Nat} {v v' : Value} {xs xs' : List Value} (h : w.ownsRow b e size v n xs) (h' : w.ownsRow b' e' size' v' n' xs') (he : e ≠ e') :
    ∀ k, v.ownBlock = some k → v'.ownBlock ≠ some k := by
  intro k hk hk'
  rcases h.2 with ⟨rfl, _⟩ | ⟨g, cap, cur, rfl, _, hg, _⟩
  · cases hk
  rcases h'.2 with ⟨rfl, _⟩ | ⟨g', cap', cur', rfl, _, hg', _⟩
  · cases hk'
  · simp [Value.ownBlock] at hk hk'
    subst hk; subst hk'
    rw [hg] at hg'
    injection hg' with hg'
    injection hg' with _ h2
    exact he h2
theorem own_ne_blk {w : World} {b e t size n g : Nat} {v : Value} {xs l : List Value} (h : w.ownsRow b e size v n xs) (h' : Blk w g t l) (he : e ≠ t) : ∀ k, v.ownBlock = some k → k ≠ g := by
  rintro k hk rfl
  rcases h.2 with ⟨rfl, _⟩ | ⟨g', cap, cur, rfl, _, hg, _⟩
  · cases hk
  · simp [Value.ownBlock] at hk
    subst hk
    unfold Blk at h'
    rw [hg] at h'
    injection h' with h'
    injection h' with _ h2
    exact he h2

end Go.Proofs.YtcmlmfcnbmpajaaGreatDoor.Sh
namespace Go.Proofs.YtcmlmfcnbmpajaaGreatDoor.Sh
open Go.ChangeShapes Go.WideShapes Go.ChangeAt Go.RowKit
open Lx
set_option linter.unusedVariables false

theorem TokC.on {w w' : World} {a : Addr} {t : Tok} (h : TokC w a t) (hk : w'.heap[a.block]? = w.heap[a.block]?) : TokC w' a t := by
  have e : ∀ o, w'.cell? ⟨a.block, o, none⟩ = w.cell? ⟨a.block, o, none⟩ := fun o => World.cell?_of_block (a := ⟨a.block, o, none⟩) hk
  exact ⟨(World.cell?_of_block hk).trans h.c0, (e _).trans h.c1, (e _).trans h.c2, (e _).trans h.c3, (e _).trans h.c4⟩
theorem field_text (w : World) (k n l c : Int) (x : ByteArray) : (Instr.field 107 (.agg #[.int .i64 k, .string x, .int .i64 n, .int .i64 l, .int .i64 c]) 1).run Tryz.prog w = .ok (.string x) w := by kernel_rfl
theorem field_num (w : World) (k n l c : Int) (x : ByteArray) : (Instr.field 107 (.agg #[.int .i64 k, .string x, .int .i64 n, .int .i64 l, .int .i64 c]) 2).run Tryz.prog w = .ok (.int .i64 n) w := by kernel_rfl
theorem field_kind (w : World) (k n l c : Int) (x : ByteArray) : (Instr.field 107 (.agg #[.int .i64 k, .string x, .int .i64 n, .int .i64 l, .int .i64 c]) 0).run Tryz.prog w = .ok (.int .i64 k) w := by kernel_rfl

theorem toList_arr (a b : List UInt8) : ((⟨a.toArray⟩ : ByteArray).toList == (⟨b.toArray⟩ : ByteArray).toList) = (a == b) := by rw [ByteArray.toList_eq, ByteArray.toList_eq]
end Go.Proofs.YtcmlmfcnbmpajaaGreatDoor.Sh
namespace Go.Proofs.YtcmlmfcnbmpajaaGreatDoor.Sh
open Go.ChangeShapes Go.WideShapes Go.ChangeAt Go.RowKit
open Lx
set_option linter.unusedVariables false

theorem ch_add {w w' w2 : World} {B : Nat} (h : Ch (· = B) w w') (h2 : Ch (· = B) w' w2) : Ch (· = B) w w2 := h.trans h2
theorem ch_set (w : World) (n o : Nat) (u : Value) : Ch (· = n) w (w.setCell ⟨n, o, none⟩ u) := (Ch.refl (· = n) w).setCell (p := ⟨n, o, none⟩) (.inl rfl) u
theorem ch_set3 (w : World) (n : Nat) (u0 u1 u2 : Value) : Ch (· = n) w (((w.setCell ⟨n, 0, none⟩ u0).setCell ⟨n, 1, none⟩ u1).setCell ⟨n, 2, none⟩ u2) := ((ch_set w n 0 u0).trans (ch_set _ n 1 u1)).trans (ch_set _ n 2 u2)
theorem Ch.fresh {X : Nat → Prop} {w w1 w2 : World} {n : Nat} (h : Ch X w w1) (hn : w.heap.size ≤ n) (h2 : Ch (· = n) w1 w2) : Ch X w w2 :=
  ⟨h2.os.trans h.os, h2.tape.trans h.tape, h2.output.trans h.output, Nat.le_trans h.size h2.size, fun k hk hx => (h2.block k (Nat.lt_of_lt_of_le hk h.size) (by omega)).trans (h.block k hk hx)⟩
abbrev tmV (t : TimesM) : Value := .agg #[.int .i64 t.frm, .int .i64 t.every, .int .i64 t.len]
end Go.Proofs.YtcmlmfcnbmpajaaGreatDoor.Sh
namespace Go.Proofs.YtcmlmfcnbmpajaaGreatDoor.Sh
open Go.ChangeShapes Go.WideShapes Go.ChangeAt Go.RowKit
open Lx
set_option linter.unusedVariables false

abbrev str (s : List UInt8) : Value := .string ⟨s.toArray⟩
abbrev i64 (n : Int) : Value := .int .i64 n
abbrev paV (p : PathM) : Value := .agg #[str p.name, str p.a, str p.b, i64 p.len]
abbrev doV (p : DoorM) : Value := .agg #[str p.name, str p.a, str p.b, i64 p.len, i64 p.times.frm, i64 p.times.every, i64 p.times.len]
abbrev trV (p : TripM) : Value := .agg #[str p.name, str p.route, i64 p.frm, i64 p.every, i64 p.til]
abbrev haV (p : HazM) : Value := .agg #[str p.name, str p.at_, i64 p.times.frm, i64 p.times.every, i64 p.times.len]
def paC (p : PathM) : List Value := [str p.name, str p.a, str p.b, i64 p.len]
def doC (p : DoorM) : List Value := [str p.name, str p.a, str p.b, i64 p.len, i64 p.times.frm, i64 p.times.every, i64 p.times.len]
def trC (p : TripM) : List Value := [str p.name, str p.route, i64 p.frm, i64 p.every, i64 p.til]
def haC (p : HazM) : List Value := [str p.name, str p.at_, i64 p.times.frm, i64 p.times.every, i64 p.times.len]
def strC (s : List UInt8) : List Value := [str s]
def intC (n : Int) : List Value := [i64 n]

/-- the cells of a row of things, each of as many cells -/
def cs {α : Type} (f : α → List Value) (l : List α) : List Value := l.flatMap f
theorem cs_nil {α : Type} (f : α → List Value) : cs f [] = [] := rfl
theorem cs_cons {α : Type} (f : α → List Value) (a : α) (l : List α) : cs f (a :: l) = f a ++ cs f l := rfl
theorem cs_append {α : Type} (f : α → List Value) (a b : List α) : cs f (a ++ b) = cs f a ++ cs f b := by simp [cs]
theorem cs_one {α : Type} (f : α → List Value) (a : α) : cs f [a] = f a := by simp [cs]
theorem cs_length {α : Type} (f : α → List Value) (k : Nat) (h : ∀ a, (f a).length = k) (l : List α) : (cs f l).length = l.length * k := by
  induction l with
  | nil => simp [cs]
  | cons a l ih => rw [cs_cons, List.length_append, h, ih, List.length_cons, Nat.succ_mul]; omega
theorem cs_at {α : Type} (f : α → List Value) (k : Nat) (h : ∀ a, (f a).length = k) (l : List α) (i : Nat) (a : α) (ha : l[i]? = some a) (j : Nat) (hj : j < k) : (cs f l)[i * k + j]? = (f a)[j]? := by
  induction l generalizing i with
  | nil => simp at ha
  | cons b l ih =>
    rw [cs_cons]
    cases i with
    | zero =>
      simp at ha; subst ha
      rw [Nat.zero_mul, Nat.zero_add, List.getElem?_append_left (by rw [h]; exact hj)]
    | succ i =>
      simp at ha
      rw [List.getElem?_append_right (by rw [h, Nat.succ_mul]; omega), h, ← ih i ha]
      congr 1; rw [Nat.succ_mul]; omega
theorem cs_take {α : Type} (f : α → List Value) (k : Nat) (h : ∀ a, (f a).length = k) (l : List α) (n : Nat) : cs f (l.take n) = (cs f l).take (n * k) := by
  induction l generalizing n with
  | nil => simp [cs]
  | cons b l ih =>
    cases n with
    | zero => simp [cs]
    | succ n =>
      rw [List.take_succ_cons, cs_cons, cs_cons, ih, List.take_append, h]
      have e1 : (f b).take ((n + 1) * k) = f b := List.take_of_length_le (by rw [h, Nat.succ_mul]; omega)
      have e2 : (n + 1) * k - k = n * k := by rw [Nat.succ_mul]; omega
      rw [e1, e2]

/-- what an append leaves: the row it makes is the call's own -/
theorem wpList_append_ch {P : Program} {w : World} {ops : Array Oper} {rest : List Oper} {o : Oper} {a : Act} {Q : Exit → Act → World → Prop} (hgd : o.guard = none) (s x : Operand) (t : TypeId)
    (ho : o.op = .call { callee := .builtin .append, args := #[s, x], argTypes := #[t, t] })
    (base : Nat) (e : TypeId) (z : Value) (size bytes : Nat) (ht : P.underlying t = some (.slice e)) (hinfo : (P.info? e).map (fun i => (i.zero, i.size, i.bytes)) = some (some z, size, bytes)) (hzs : z.cells.size = size) (hsz : 0 < size) (hb16 : bytes ≤ 96)
    (v : Value) (n : Nat) (xs : List Value) (hs : a.eval s = v) (hown : w.ownsRow base e size v n xs) (S : Nat → Prop) (A : Option Addr) (m c : Nat) (news : List Value) (hx : a.eval x = .slice A m c) (hl : news.length = m * size) (hr : Rd w S A news) (h1 : ∀ u ∈ news, u.oneCell' = true)
    (hN : n + m ≤ 1000000) (hbase : base ≤ w.heap.size)
    (h : ∀ v' w', Hid (w'.ownsRow base e size v' (n + m) (xs ++ news)) → Hid (w.grownBy w' v.ownBlock) → Hid (v'.ownBlock = v.ownBlock ∨ v'.ownBlock = some w.heap.size) → wpList P ops Q rest (a.put o.dst v') w') : wpList P ops Q (o :: rest) a w := by
  refine wpList_plain hgd fun K hK => ?_
  obtain ⟨i, hi, hz, hsize, hby⟩ := info_parts hinfo
  obtain ⟨v', w', hrun, h2, h3, h4⟩ := run_append_rd (P := P) w base t o.type e i z size bytes ht hi hz hsize hby hzs hsz v n xs hown S A m c news hl hr h1 (by simp only [maxLen]; omega)
    (by have : (n + m) * bytes ≤ 1000000 * 96 := Nat.mul_le_mul hN hb16
        omega) hbase
  unfold Oper.wp
  simp only [execOp, ho, resolve, invoke, builtin, Sem.run_bind, Sem.run_pure, Result.andThen_ok, List.map_toArray, List.map_cons, List.map_nil, hs, hx, hrun]
  exact hK _ _ (h v' w' h2 h3 h4)
theorem lit_rd (w : World) (l : Array Value) (t : TypeId) (xs : List Value) (h : xs.toArray = l) : Rd (w.alloc (.cells l t)) (· < (w.alloc (.cells l t)).heap.size) (some ⟨w.heap.size, 0, none⟩) xs := by
  subst h
  exact (Blk.new w t xs).rd (S := fun b => b < (w.alloc (.cells xs.toArray t)).heap.size) (by simp) 0
theorem lit_at (w : World) (n : Nat) (l : Array Value) (t : TypeId) (xs : List Value) (hn : n = w.heap.size) (h : xs.toArray = l) : Rd (w.alloc (.cells l t)) (· < (w.alloc (.cells l t)).heap.size) (some ⟨n, 0, none⟩) xs := by subst hn; exact lit_rd w l t xs h

/-- the first token of the line, among the reader's cells -/
def fc (t : Tok) : List Value := [i64 t.kind, str t.text, i64 t.num, i64 t.line, i64 t.col]
end Go.Proofs.YtcmlmfcnbmpajaaGreatDoor.Sh
namespace Go.Proofs.YtcmlmfcnbmpajaaGreatDoor.Sh
open Go.ChangeShapes Go.WideShapes Go.ChangeAt Go.RowKit
open Lx
set_option linter.unusedVariables false

abbrev fnV (f : Nat) : Value := .func (.func f) #[] #[]
theorem ckey (w : World) (b : Bool) (s : ByteArray) : (Instr.checkKey b 10000 9 (.string s)).run Tryz.prog w = .ok () w := by kernel_rfl
def lookV (o : Option Nat) : Value := match o with | some f => .tuple #[fnV f, .bool true] | none => .tuple #[.nilFunc, .bool false]
theorem beq_ba (a b : List UInt8) : ((⟨a.toArray⟩ : ByteArray) == ⟨b.toArray⟩) = decide (a = b) := by
  show (a.toArray == b.toArray) = decide (a = b)
  by_cases h : a = b
  · subst h; simp
  · rw [decide_eq_false h]
    refine beq_eq_false_iff_ne.2 fun e => h ?_
    simpa using congrArg Array.toList e
end Go.Proofs.YtcmlmfcnbmpajaaGreatDoor.Sh
namespace Go.Proofs.YtcmlmfcnbmpajaaGreatDoor.Sh
open Go.ChangeShapes Go.WideShapes Go.ChangeAt Go.RowKit
open Lx
set_option linter.unusedVariables false

def zSheet : List Value := [.int .i64 0, .slice none 0 0, .slice none 0 0, .slice none 0 0, .slice none 0 0, .slice none 0 0, .slice none 0 0]
theorem len7 {l : List Value} (h : l.length = 7) : ∃ a b c d e f g, l = [a, b, c, d, e, f, g] := by
  match l, h with
  | [a, b, c, d, e, f, g], _ => exact ⟨a, b, c, d, e, f, g, rfl⟩
theorem len3 {l : List Value} (h : l.length = 3) : ∃ a b c, l = [a, b, c] := by
  match l, h with
  | [a, b, c], _ => exact ⟨a, b, c, rfl⟩
theorem set7 {w : World} {n : Nat} {t : TypeId} {a0 a1 a2 a3 a4 a5 a6 : Value} (h : Blk w n t [a0, a1, a2, a3, a4, a5, a6]) (u0 u1 u2 u3 u4 u5 u6 : Value) :
    Blk (((((((w.setCell ⟨n, 0, none⟩ u0).setCell ⟨n, 1, none⟩ u1).setCell ⟨n, 2, none⟩ u2).setCell ⟨n, 3, none⟩ u3).setCell ⟨n, 4, none⟩ u4).setCell ⟨n, 5, none⟩ u5).setCell ⟨n, 6, none⟩ u6) n t [u0, u1, u2, u3, u4, u5, u6] :=
  ((((((h.set_ 0 u0).set_ 1 u1).set_ 2 u2).set_ 3 u3).set_ 4 u4).set_ 5 u5).set_ 6 u6
theorem set3 {w : World} {n : Nat} {t : TypeId} {a0 a1 a2 : Value} (h : Blk w n t [a0, a1, a2]) (u0 u1 u2 : Value) :
    Blk (((w.setCell ⟨n, 0, none⟩ u0).setCell ⟨n, 1, none⟩ u1).setCell ⟨n, 2, none⟩ u2) n t [u0, u1, u2] :=
  ((h.set_ 0 u0).set_ 1 u1).set_ 2 u2
theorem ch_set7 (w : World) (n : Nat) (u0 u1 u2 u3 u4 u5 u6 : Value) : Ch (· = n) w (((((((w.setCell ⟨n, 0, none⟩ u0).setCell ⟨n, 1, none⟩ u1).setCell ⟨n, 2, none⟩ u2).setCell ⟨n, 3, none⟩ u3).setCell ⟨n, 4, none⟩ u4).setCell ⟨n, 5, none⟩ u5).setCell ⟨n, 6, none⟩ u6) :=
  ((((((ch_set w n 0 u0).trans (ch_set _ n 1 u1)).trans (ch_set _ n 2 u2)).trans (ch_set _ n 3 u3)).trans (ch_set _ n 4 u4)).trans (ch_set _ n 5 u5)).trans (ch_set _ n 6 u6)
theorem blk_drew {w : World} {n : Nat} {t : TypeId} {l : List Value} (h : Blk w n t l) : Blk w.drew n t l := h
theorem catch_fin (w : World) (n0 n1 : Nat) (er l c : Int) {a0 a1 a2 a3 a4 a5 a6 c0 c1 c2 : Value} (h0 : Blk w n0 29 [a0, a1, a2, a3, a4, a5, a6]) (h1 : Blk w n1 61 [c0, c1, c2]) (hne : n0 ≠ n1) :
    Blk ((((((((((w.setCell ⟨n0, 0, none⟩ (.int .i64 0)).setCell ⟨n0, 1, none⟩ (.slice none 0 0)).setCell ⟨n0, 2, none⟩ (.slice none 0 0)).setCell ⟨n0, 3, none⟩ (.slice none 0 0)).setCell ⟨n0, 4, none⟩ (.slice none 0 0)).setCell ⟨n0, 5, none⟩ (.slice none 0 0)).setCell ⟨n0, 6, none⟩ (.slice none 0 0)).setCell ⟨n1, 0, none⟩ (.int .i64 er)).setCell ⟨n1, 1, none⟩ (.int .i64 l)).setCell ⟨n1, 2, none⟩ (.int .i64 c)).drew n0 29 zSheet ∧
    Blk ((((((((((w.setCell ⟨n0, 0, none⟩ (.int .i64 0)).setCell ⟨n0, 1, none⟩ (.slice none 0 0)).setCell ⟨n0, 2, none⟩ (.slice none 0 0)).setCell ⟨n0, 3, none⟩ (.slice none 0 0)).setCell ⟨n0, 4, none⟩ (.slice none 0 0)).setCell ⟨n0, 5, none⟩ (.slice none 0 0)).setCell ⟨n0, 6, none⟩ (.slice none 0 0)).setCell ⟨n1, 0, none⟩ (.int .i64 er)).setCell ⟨n1, 1, none⟩ (.int .i64 l)).setCell ⟨n1, 2, none⟩ (.int .i64 c)).drew n1 61 [.int .i64 er, .int .i64 l, .int .i64 c] ∧
    Ch (fun k => k = n0 ∨ k = n1) w ((((((((((w.setCell ⟨n0, 0, none⟩ (.int .i64 0)).setCell ⟨n0, 1, none⟩ (.slice none 0 0)).setCell ⟨n0, 2, none⟩ (.slice none 0 0)).setCell ⟨n0, 3, none⟩ (.slice none 0 0)).setCell ⟨n0, 4, none⟩ (.slice none 0 0)).setCell ⟨n0, 5, none⟩ (.slice none 0 0)).setCell ⟨n0, 6, none⟩ (.slice none 0 0)).setCell ⟨n1, 0, none⟩ (.int .i64 er)).setCell ⟨n1, 1, none⟩ (.int .i64 l)).setCell ⟨n1, 2, none⟩ (.int .i64 c)).drew := by
  have k0 := set7 h0 (.int .i64 0) (.slice none 0 0) (.slice none 0 0) (.slice none 0 0) (.slice none 0 0) (.slice none 0 0) (.slice none 0 0)
  have d := ch_set7 w n0 (.int .i64 0) (.slice none 0 0) (.slice none 0 0) (.slice none 0 0) (.slice none 0 0) (.slice none 0 0) (.slice none 0 0)
  generalize ((((((w.setCell ⟨n0, 0, none⟩ (.int .i64 0)).setCell ⟨n0, 1, none⟩ (.slice none 0 0)).setCell ⟨n0, 2, none⟩ (.slice none 0 0)).setCell ⟨n0, 3, none⟩ (.slice none 0 0)).setCell ⟨n0, 4, none⟩ (.slice none 0 0)).setCell ⟨n0, 5, none⟩ (.slice none 0 0)).setCell ⟨n0, 6, none⟩ (.slice none 0 0) = W at k0 d ⊢
  have k1 := set3 (d.blk h1 (Ne.symm hne)) (.int .i64 er) (.int .i64 l) (.int .i64 c)
  have d1 := ch_set3 W n1 (.int .i64 er) (.int .i64 l) (.int .i64 c)
  exact ⟨blk_drew (d1.blk k0 hne), blk_drew k1, ((d.mono fun _ _ e => .inl e : Ch (fun k => k = n0 ∨ k = n1) w W).trans (d1.mono fun _ _ e => .inr e)).drew⟩
end Go.Proofs.YtcmlmfcnbmpajaaGreatDoor.Sh

