/- The kit's Same, Own, Pick and the document's own answer on names, proved by walking their texts; what a call changes. Conditions: a row has at most a million things. -/
import Derived.Test.YtceamidobdfhbaaInLex
import Derived.Test.YtceamidobdfhbaaPlain
import Derived.Deep.RegionWith
import Derived.WalkLawsBesides
import Derived.Outline
import Derived.Deep.Cut
import Derived.MapKept
import Derived.Laws.Pointers
import Derived.StillTailTactics
import Derived.Deep.RegionHeldLaw
namespace Go.Proofs.Ytceamidobdfhbaa.Sh
open Go.ChangeShapes Go.WideShapes Go.ChangeAt Go.RowKit
open Lx
set_option linter.unusedVariables false
set_option linter.unusedSimpArgs false

theorem rd_old {w : World} {B : Nat} {A : Option Addr} {xs : List Value} (h : Rd w (fun b => B ≤ b ∧ b < w.heap.size) A xs) : Rd w (· < w.heap.size) A xs := h.more fun _ hb => hb.2
theorem rd_later {w w' : World} {A : Option Addr} {xs : List Value} (h : Rd w (· < w.heap.size) A xs) (hb : Below w.heap.size w w') : Rd w' (· < w'.heap.size) A xs :=
  (h.below hb).more fun b h1 => by have := hb.size; omega
theorem bcell {W w1 : World} (hb : Below W.heap.size W w1) : (∀ b o, b < W.heap.size → w1.cell? ⟨b, o, none⟩ = W.cell? ⟨b, o, none⟩) ∧ (∀ b o, b < W.heap.size → w1.frozen? ⟨b, o, none⟩ = W.frozen? ⟨b, o, none⟩) :=
  ⟨fun b o h => hb.cell (p := ⟨b, o, none⟩) h, fun b o h => hb.frozen (p := ⟨b, o, none⟩) h⟩
theorem one_box (w : World) (o : Obj) : Below w.heap.size w (w.alloc o) := (Below.refl _ _).alloc (Nat.le_refl _) _
theorem two_box (w : World) (o p : Obj) : Below w.heap.size w ((w.alloc o).alloc p) := ((Below.refl _ _).alloc (Nat.le_refl _) _).alloc (by simp) _
/-- of what was there only blocks of X are changed -/
structure Ch (X : Nat → Prop) (w w' : World) : Prop where
  os : w'.os = w.os
  tape : w'.tape = w.tape
  output : w'.output = w.output
  size : w.heap.size ≤ w'.heap.size
  block : ∀ k, k < w.heap.size → ¬ X k → w'.heap[k]? = w.heap[k]?
section
variable {X Y : Nat → Prop} {w w' w'' : World}
theorem Ch.refl (X : Nat → Prop) (w : World) : Ch X w w := ⟨rfl, rfl, rfl, Nat.le_refl _, fun _ _ _ => rfl⟩
theorem Ch.trans (h : Ch X w w') (k : Ch X w' w'') : Ch X w w'' :=
  ⟨k.os.trans h.os, k.tape.trans h.tape, k.output.trans h.output, Nat.le_trans h.size k.size, fun i hi hx => (k.block i (Nat.lt_of_lt_of_le hi h.size) hx).trans (h.block i hi hx)⟩
theorem Ch.trans' (h : Ch X w w') (k : Ch Y w' w'') (hy : ∀ i, i < w.heap.size → Y i → X i) : Ch X w w'' :=
  ⟨k.os.trans h.os, k.tape.trans h.tape, k.output.trans h.output, Nat.le_trans h.size k.size, fun i hi hx => (k.block i (Nat.lt_of_lt_of_le hi h.size) (fun e => hx (hy i hi e))).trans (h.block i hi hx)⟩
theorem Ch.mono (h : Ch X w w') (hx : ∀ k, k < w.heap.size → X k → Y k) : Ch Y w w' := ⟨h.os, h.tape, h.output, h.size, fun k hk hy => h.block k hk (fun e => hy (hx k hk e))⟩
theorem Ch.of_below (h : Below w.heap.size w w') : Ch X w w' := ⟨h.os, h.tape, h.output, h.size, fun k hk _ => h.block k hk⟩
theorem Ch.of_grown {row : Option Nat} (h : w.grownBy w' row) (hx : ∀ k, some k = row → X k) : Ch X w w' := ⟨h.os, h.tape, h.output, h.size, fun k hk hn => h.block k hk (fun e => hn (hx k e))⟩
theorem Ch.alloc (h : Ch X w w') (o : Obj) : Ch X w (w'.alloc o) := h.trans (.of_below (one_box _ _))
theorem Ch.setCell (h : Ch X w w') {p : Addr} (hp : X p.block ∨ w.heap.size ≤ p.block) (u : Value) : Ch X w (w'.setCell p u) :=
  ⟨h.os, h.tape, h.output, by simpa [World.setCell] using h.size, fun k hk hx => (Below.heap_setCell _ _ _ _ (by rintro rfl; rcases hp with hp | hp; exact hx hp; omega)).trans (h.block k hk hx)⟩
theorem Ch.drew (h : Ch X w w') : Ch X w w'.drew := ⟨h.os, h.tape, h.output, h.size, h.block⟩
theorem Ch.drewN (h : Ch X w w') (n : Nat) : Ch X w (w'.drewN n) := ⟨h.os, h.tape, h.output, h.size, h.block⟩
theorem Ch.below (h : Ch X w w') {B : Nat} (hB : B ≤ w.heap.size) (hx : ∀ k, X k → B ≤ k) : Below B w w' := ⟨h.os, h.tape, h.output, h.size, fun k hk => h.block k (by omega) (fun e => by have := hx k e; omega)⟩
theorem Ch.blk {g : Nat} {t : TypeId} {l : List Value} (h : Ch X w w') (hb : Blk w g t l) (hx : ¬ X g) : Blk w' g t l := (h.block g hb.lt hx).trans hb
theorem Ch.rd {S : Nat → Prop} {A : Option Addr} {xs : List Value} (h : Ch X w w') (hr : Rd w S A xs) (hx : ∀ b, S b → b < w.heap.size ∧ ¬ X b) : Rd w' S A xs := hr.keep fun b hb => h.block b (hx b hb).1 (hx b hb).2
theorem Ch.own {base e size n : Nat} {v : Value} {xs : List Value} (h : Ch X w w') (ho : w.ownsRow base e size v n xs) (hx : ∀ k, v.ownBlock = some k → ¬ X k) : w'.ownsRow base e size v n xs := by
  refine ⟨ho.1, ?_⟩
  rcases ho.2 with hn | ⟨g, cap, cur, rfl, hb, hgg, rest⟩
  · exact .inl hn
  · exact .inr ⟨g, cap, cur, rfl, hb, (h.block g (Array.getElem?_eq_some_iff.1 hgg).1 (hx g rfl)).trans hgg, rest⟩
end
/-- rows of unlike things lie in unlike blocks -/
theorem own_ne {w : World} {b b' e e' size size' n n' : Nat} {v v' : Value} {xs xs' : List Value} (h : w.ownsRow b e size v n xs) (h' : w.ownsRow b' e' size' v' n' xs') (he : e ≠ e') :
    ∀ k, v.ownBlock = some k → v'.ownBlock ≠ some k := by
  intro k hk hk'
  rcases h.2 with ⟨rfl, _⟩ | ⟨g, cap, cur, rfl, _, hg, _⟩
  · cases hk
  rcases h'.2 with ⟨rfl, _⟩ | ⟨g', cap', cur', rfl, _, hg', _⟩
  · cases hk'
  · simp [Value.ownBlock] at hk hk'
    subst hk; subst hk'
    rw [hg] at hg'
    injection hg' with hg'
    injection hg' with _ h2
    exact he h2
theorem own_ne_blk {w : World} {b e t size n g : Nat} {v : Value} {xs l : List Value} (h : w.ownsRow b e size v n xs) (h' : Blk w g t l) (he : e ≠ t) : ∀ k, v.ownBlock = some k → k ≠ g := by
  rintro k hk rfl
  rcases h.2 with ⟨rfl, _⟩ | ⟨g', cap, cur, rfl, _, hg, _⟩
  · cases hk
  · simp [Value.ownBlock] at hk
    subst hk
    unfold Blk at h'
    rw [hg] at h'
    injection h' with h'
    injection h' with _ h2
    exact he h2
theorem toList_arr (a b : List UInt8) : ((⟨a.toArray⟩ : ByteArray).toList == (⟨b.toArray⟩ : ByteArray).toList) = (a == b) := by rw [ByteArray.toList_eq, ByteArray.toList_eq]
theorem ch_add {w w' w2 : World} {B : Nat} (h : Ch (· = B) w w') (h2 : Ch (· = B) w' w2) : Ch (· = B) w w2 := h.trans h2
theorem ch_set (w : World) (n o : Nat) (u : Value) : Ch (· = n) w (w.setCell ⟨n, o, none⟩ u) := (Ch.refl (· = n) w).setCell (p := ⟨n, o, none⟩) (.inl rfl) u
theorem Ch.fresh {X : Nat → Prop} {w w1 w2 : World} {n : Nat} (h : Ch X w w1) (hn : w.heap.size ≤ n) (h2 : Ch (· = n) w1 w2) : Ch X w w2 :=
  ⟨h2.os.trans h.os, h2.tape.trans h.tape, h2.output.trans h.output, Nat.le_trans h.size h2.size, fun k hk hx => (h2.block k (Nat.lt_of_lt_of_le hk h.size) (by omega)).trans (h.block k hk hx)⟩
abbrev str (s : List UInt8) : Value := .string ⟨s.toArray⟩
abbrev i64 (n : Int) : Value := .int .i64 n
def paC (p : PathM) : List Value := [str p.name, str p.a, str p.b, i64 p.len]
def doC (p : DoorM) : List Value := [str p.name, str p.a, str p.b, i64 p.len, i64 p.times.frm, i64 p.times.every, i64 p.times.len]
def trC (p : TripM) : List Value := [str p.name, str p.route, i64 p.frm, i64 p.every, i64 p.til]
def haC (p : HazM) : List Value := [str p.name, str p.at_, i64 p.times.frm, i64 p.times.every, i64 p.times.len]
def strC (s : List UInt8) : List Value := [str s]
def intC (n : Int) : List Value := [i64 n]
/-- the cells of a row of things, each of as many cells -/
def cs {α : Type} (f : α → List Value) (l : List α) : List Value := l.flatMap f
theorem cs_cons {α : Type} (f : α → List Value) (a : α) (l : List α) : cs f (a :: l) = f a ++ cs f l := rfl
theorem cs_length {α : Type} (f : α → List Value) (k : Nat) (h : ∀ a, (f a).length = k) (l : List α) : (cs f l).length = l.length * k := by
  induction l with
  | nil => simp [cs]
  | cons a l ih => rw [cs_cons, List.length_append, h, ih, List.length_cons, Nat.succ_mul]; omega
theorem cs_at {α : Type} (f : α → List Value) (k : Nat) (h : ∀ a, (f a).length = k) (l : List α) (i : Nat) (a : α) (ha : l[i]? = some a) (j : Nat) (hj : j < k) : (cs f l)[i * k + j]? = (f a)[j]? := by
  induction l generalizing i with
  | nil => simp at ha
  | cons b l ih =>
    rw [cs_cons]
    cases i with
    | zero =>
      simp at ha; subst ha
      rw [Nat.zero_mul, Nat.zero_add, List.getElem?_append_left (by rw [h]; exact hj)]
    | succ i =>
      simp at ha
      rw [List.getElem?_append_right (by rw [h, Nat.succ_mul]; omega), h, ← ih i ha]
      congr 1; rw [Nat.succ_mul]; omega
theorem cs_take {α : Type} (f : α → List Value) (k : Nat) (h : ∀ a, (f a).length = k) (l : List α) (n : Nat) : cs f (l.take n) = (cs f l).take (n * k) := by
  induction l generalizing n with
  | nil => simp [cs]
  | cons b l ih =>
    cases n with
    | zero => simp [cs]
    | succ n =>
      rw [List.take_succ_cons, cs_cons, cs_cons, ih, List.take_append, h]
      have e1 : (f b).take ((n + 1) * k) = f b := List.take_of_length_le (by rw [h, Nat.succ_mul]; omega)
      have e2 : (n + 1) * k - k = n * k := by rw [Nat.succ_mul]; omega
      rw [e1, e2]
/-- what an append leaves: the row it makes is the call's own -/
theorem wpList_append_ch {P : Program} {w : World} {ops : Array Oper} {rest : List Oper} {o : Oper} {a : Act} {Q : Exit → Act → World → Prop} (hgd : o.guard = none) (s x : Operand) (t : TypeId)
    (ho : o.op = .call { callee := .builtin .append, args := #[s, x], argTypes := #[t, t] })
    (base : Nat) (e : TypeId) (z : Value) (size bytes : Nat) (ht : P.underlying t = some (.slice e)) (hinfo : (P.info? e).map (fun i => (i.zero, i.size, i.bytes)) = some (some z, size, bytes)) (hzs : z.cells.size = size) (hsz : 0 < size) (hb16 : bytes ≤ 96)
    (v : Value) (n : Nat) (xs : List Value) (hs : a.eval s = v) (hown : w.ownsRow base e size v n xs) (S : Nat → Prop) (A : Option Addr) (m c : Nat) (news : List Value) (hx : a.eval x = .slice A m c) (hl : news.length = m * size) (hr : Rd w S A news) (h1 : ∀ u ∈ news, u.oneCell' = true)
    (hN : n + m ≤ 1000000) (hbase : base ≤ w.heap.size)
    (h : ∀ v' w', Hid (w'.ownsRow base e size v' (n + m) (xs ++ news)) → Hid (w.grownBy w' v.ownBlock) → Hid (v'.ownBlock = v.ownBlock ∨ v'.ownBlock = some w.heap.size) → wpList P ops Q rest (a.put o.dst v') w') : wpList P ops Q (o :: rest) a w := by
  refine wpList_plain hgd fun K hK => ?_
  obtain ⟨i, hi, hz, hsize, hby⟩ := info_parts hinfo
  obtain ⟨v', w', hrun, h2, h3, h4⟩ := run_append_rd (P := P) w base t o.type e i z size bytes ht hi hz hsize hby hzs hsz v n xs hown S A m c news hl hr h1 (by simp only [maxLen]; omega)
    (by have : (n + m) * bytes ≤ 1000000 * 96 := Nat.mul_le_mul hN hb16
        omega) hbase
  unfold Oper.wp
  simp only [execOp, ho, resolve, invoke, builtin, Sem.run_bind, Sem.run_pure, Result.andThen_ok, List.map_toArray, List.map_cons, List.map_nil, hs, hx, hrun]
  exact hK _ _ (h v' w' h2 h3 h4)
theorem lit_rd (w : World) (l : Array Value) (t : TypeId) (xs : List Value) (h : xs.toArray = l) : Rd (w.alloc (.cells l t)) (· < (w.alloc (.cells l t)).heap.size) (some ⟨w.heap.size, 0, none⟩) xs := by
  subst h
  exact (Blk.new w t xs).rd (S := fun b => b < (w.alloc (.cells xs.toArray t)).heap.size) (by simp) 0
theorem lit_at (w : World) (n : Nat) (l : Array Value) (t : TypeId) (xs : List Value) (hn : n = w.heap.size) (h : xs.toArray = l) : Rd (w.alloc (.cells l t)) (· < (w.alloc (.cells l t)).heap.size) (some ⟨n, 0, none⟩) xs := by subst hn; exact lit_rd w l t xs h
theorem blk_drew {w : World} {n : Nat} {t : TypeId} {l : List Value} (h : Blk w n t l) : Blk w.drew n t l := h
theorem info_Str : (Try.prog.info? 9).map (fun i => (i.zero, i.size, i.bytes)) = some (some (.string ⟨#[]⟩), 1, 16) := by kernel_rfl
/-- the cells of routes, whose own rows lie in blocks of S -/
def Rts (w : World) (S : Nat → Prop) : List RouteM → List Value → Prop
  | [], c => c = []
  | r :: l, c => ∃ (sa : Option Addr) (sc : Nat) (ra : Option Addr) (rc : Nat) (ya : Option Addr) (yc : Nat) (rest : List Value),
      c = .string ⟨r.name.toArray⟩ :: .slice sa r.stops.length sc :: .slice ra r.rides.length rc :: .slice ya r.stays.length yc :: rest ∧
      Rd w S sa (cs strC r.stops) ∧ Rd w S ra (cs intC r.rides) ∧ Rd w S ya (cs intC r.stays) ∧ Rts w S l rest
theorem Rts.keep {w w' : World} {S : Nat → Prop} (hk : ∀ b, S b → w'.heap[b]? = w.heap[b]?) : ∀ {l : List RouteM} {c : List Value}, Rts w S l c → Rts w' S l c
  | [], _, h => h
  | _ :: _, _, ⟨sa, sc, ra, rc, ya, yc, rest, e, h1, h2, h3, h4⟩ => ⟨sa, sc, ra, rc, ya, yc, rest, e, h1.keep hk, h2.keep hk, h3.keep hk, Rts.keep hk h4⟩
theorem Rts.more {w : World} {S S' : Nat → Prop} (hs : ∀ b, S b → S' b) : ∀ {l : List RouteM} {c : List Value}, Rts w S l c → Rts w S' l c
  | [], _, h => h
  | _ :: _, _, ⟨sa, sc, ra, rc, ya, yc, rest, e, h1, h2, h3, h4⟩ => ⟨sa, sc, ra, rc, ya, yc, rest, e, h1.more hs, h2.more hs, h3.more hs, Rts.more hs h4⟩
theorem Rts.length {w : World} {S : Nat → Prop} : ∀ {l : List RouteM} {c : List Value}, Rts w S l c → c.length = l.length * 4
  | [], _, h => by rw [show _ = _ from h]; rfl
  | _ :: _, _, ⟨_, _, _, _, _, _, _, e, _, _, _, h4⟩ => by rw [e]; simp [Rts.length h4]; omega
/-- blocks below B are as they were, and so are maps -/
structure Up (B : Nat) (w w' : World) : Prop where
  below : Below B w w'
  maps : ∀ (k : Nat) (es : Array MapEntry) (c : Nat), w.heap[k]? = some (Obj.map es c) → w'.heap[k]? = some (Obj.map es c)
theorem Up.trans {B : Nat} {w w' w'' : World} (h : Up B w w') (k : Up B w' w'') : Up B w w'' := ⟨h.below.trans k.below, fun i es c e => k.maps i es c (h.maps i es c e)⟩
theorem not_map {w : World} {g t : Nat} {l : List Value} (h : Blk w g t l) : ∀ (es : Array MapEntry) (c : Nat), w.heap[g]? ≠ some (Obj.map es c) := fun es c e => by unfold Blk at h; rw [h] at e; cases e
theorem own_not_map {w : World} {b e s n : Nat} {v : Value} {xs : List Value} (h : w.ownsRow b e s v n xs) : ∀ k, v.ownBlock = some k → ∀ (es : Array MapEntry) (c : Nat), w.heap[k]? ≠ some (Obj.map es c) := by
  intro k hk es c e'
  rcases h.2 with ⟨rfl, _⟩ | ⟨g, cap, cur, rfl, _, hg, _⟩
  · cases hk
  · simp [Value.ownBlock] at hk; subst hk; rw [hg] at e'; cases e'
/-- where a sheet's rows lie, and what room they have -/
structure ShA where
  a1 : Option Addr
  a2 : Option Addr
  a3 : Option Addr
  a4 : Option Addr
  a5 : Option Addr
  a6 : Option Addr
  c1 : Nat
  c2 : Nat
  c3 : Nat
  c4 : Nat
  c5 : Nat
  c6 : Nat
/-- the sheet x lies at p, in blocks of S -/
structure Sh (w : World) (S : Nat → Prop) (x : SheetM) (p : ShA) : Prop where
  r1 : Rd w S p.a1 (cs strC x.stops)
  r2 : Rd w S p.a2 (cs paC x.paths)
  r3 : Rd w S p.a3 (cs doC x.doors)
  r4 : ∃ c, Rd w S p.a4 c ∧ Rts w S x.routes c
  r5 : Rd w S p.a5 (cs trC x.trips)
  r6 : Rd w S p.a6 (cs haC x.hazards)
theorem Sh.keep {w w' : World} {S : Nat → Prop} {x : SheetM} {p : ShA} (h : Sh w S x p) (hk : ∀ b, S b → w'.heap[b]? = w.heap[b]?) : Sh w' S x p := by
  obtain ⟨c, h4, h4'⟩ := h.r4
  exact ⟨h.r1.keep hk, h.r2.keep hk, h.r3.keep hk, ⟨c, h4.keep hk, h4'.keep hk⟩, h.r5.keep hk, h.r6.keep hk⟩
theorem Sh.more {w : World} {S S' : Nat → Prop} {x : SheetM} {p : ShA} (h : Sh w S x p) (hs : ∀ b, S b → S' b) : Sh w S' x p := by
  obtain ⟨c, h4, h4'⟩ := h.r4
  exact ⟨h.r1.more hs, h.r2.more hs, h.r3.more hs, ⟨c, h4.more hs, h4'.more hs⟩, h.r5.more hs, h.r6.more hs⟩
theorem Sh.below {w w' : World} {B : Nat} {x : SheetM} {p : ShA} (h : Sh w (· < B) x p) (hb : Below B w w') : Sh w' (· < B) x p := h.keep fun b hl => hb.block b hl
theorem strC_len (l : List (List UInt8)) : (cs strC l).length = l.length := by rw [cs_length strC 1 (fun _ => rfl)]; omega
theorem tok_at (zs : List Tok) {k n : Nat} (hn : Hid (n = zs.length)) (hk : k < n) : ∃ t, zs[k]? = some t := ⟨_, List.getElem?_eq_getElem (by rw [← hn.out]; exact hk)⟩
section
variable {w wr w' : World} {B b0 : Nat} {toks ts r : List Tok} {q : List Value} {nm : List UInt8} {g : Legs} {vr vy v3 : Value}
end
theorem own_rd {w : World} {b e s n k c : Nat} {A : Option Addr} {xs : List Value} (h : w.ownsRow b e s (.slice A n c) k xs) : Rd w (fun i => b ≤ i ∧ i < w.heap.size) A xs := by
  obtain ⟨A', c', e', -, hr⟩ := own_form h
  injection e' with e1 e2 e3; subst e1; exact hr
def BPost (w : World) (b : Bool) (e : Ending) (w' : World) : Prop := e = .returned (.bool b) ∧ Below w.heap.size w w'
theorem rd_at {α : Type} {f : α → List Value} {w : World} {S : Nat → Prop} {A : Option Addr} {l : List α} (size : Nat) (hf : ∀ a, (f a).length = size) (hs : 0 < size) (h : Rd w S A (cs f l)) {k : Nat} {a : α} (ha : l[k]? = some a) :
    ∃ ad, A = some ad ∧ S ad.block ∧ w.cell? (ad.add (k * size)) = (f a)[0]? ∧ ∀ j, j < size → w.cell? ⟨(ad.add (k * size)).block, (ad.add (k * size)).off + j, none⟩ = (f a)[j]? ∨ j = 0 := by
  have hk : k < l.length := (List.getElem?_eq_some_iff.1 ha).1
  obtain ⟨ad, e, hb, hc⟩ := h (by rw [cs_length f size hf]; exact Nat.mul_pos (by omega) hs)
  have g : ∀ j, j < size → w.cell? (ad.add (k * size + j)) = (f a)[j]? := fun j hj => by
    have e2 := cs_at f size hf l k a ha j hj
    obtain ⟨u, hu⟩ : ∃ u, (f a)[j]? = some u := ⟨_, List.getElem?_eq_getElem (by rw [hf]; exact hj)⟩
    rw [hu]; exact hc _ u (by rw [e2, hu])
  refine ⟨ad, e, hb, g 0 hs, fun j hj => ?_⟩
  by_cases h0 : j = 0
  · exact .inr h0
  · left
    have e3 : (⟨(ad.add (k * size)).block, (ad.add (k * size)).off + j, none⟩ : Addr) = (ad.add (k * size)).add j := by
      conv => rhs; unfold Addr.add
      rw [if_neg h0]; rfl
    rw [e3, add_of_add]; exact g j hj
theorem all_take {α : Type} {g : α → Bool} {l : List α} {k : Nat} {a : α} (ha : l[k]? = some a) (h : (l.take k).all g = true) (hg : g a = true) : (l.take (k + 1)).all g = true := by
  rw [List.take_add_one, ha]; simp [h, hg]
theorem all_no {α : Type} {g : α → Bool} {l : List α} {k : Nat} {a : α} (ha : l[k]? = some a) (hg : g a = false) : l.all g = false := by
  rw [List.all_eq_false]; exact ⟨a, List.mem_of_getElem? ha, by simp [hg]⟩
theorem all_full {α : Type} {g : α → Bool} {l : List α} {k : Nat} (h : (l.take k).all g = true) (hk : l.length ≤ k) : l.all g = true := by rwa [List.take_of_length_le hk] at h
theorem at_in {α : Type} (l : List α) {k n : Nat} (hn : Hid (n = l.length)) (hk : k < n) : ∃ t, l[k]? = some t := ⟨_, List.getElem?_eq_getElem (by rw [← hn.out]; exact hk)⟩
/-- what Pick tells, of a number above 0 -/
def PickPost (m : Int) (w : World) (e : Ending) (w' : World) : Prop := ∃ r : Nat, e = .returned (.int .i64 r) ∧ Hid ((r : Int) < m) ∧ w = w'
theorem pick_mk {m r : Int} {w : World} (h0 : 0 ≤ r) (h1 : r < m) : PickPost m w (.returned (.int .i64 r)) w :=
  ⟨r.toNat, by rw [Int.toNat_of_nonneg h0], by show _ < _; omega, rfl⟩
theorem pick_any (k m : Int) (w : World) (h0 : -9223372036854775808 ≤ k) (h1 : k ≤ 9223372036854775807) (hm0 : 1 ≤ m) (hm : m ≤ 1000000) :
    Calls Try.prog 27 #[.int .i64 k, .int .i64 m] w (PickPost m w) := by
  by_cases hk : 0 ≤ k
  · have H1 := Int.emod_nonneg k (show m ≠ 0 by omega)
    have H2 := Int.emod_lt_of_pos k (show 0 < m by omega)
    go_enter Try.func27, Try.ntmps27
    go_wp2
    go_ret
    exact pick_mk (by omega) (by omega)
  · have H1 : -m < k.tmod m := Int.lt_tmod_of_pos k (by omega)
    have H2 : k.tmod m < m := Int.tmod_lt_of_pos k (by omega)
    go_enter Try.func27, Try.ntmps27
    go_wp2
    all_goals
      go_ret
      exact pick_mk (by omega) (by omega)
/-- a route as it lies -/
structure RtAt (w : World) (S : Nat → Prop) (r : RouteM) (sa ra ya : Option Addr) : Prop where
  hs : Rd w S sa (cs strC r.stops)
  hr : Rd w S ra (cs intC r.rides)
  hy : Rd w S ya (cs intC r.stays)
theorem RtAt.keep {w w' : World} {S : Nat → Prop} {r : RouteM} {sa ra ya : Option Addr} (h : RtAt w S r sa ra ya) (hk : ∀ b, S b → w'.heap[b]? = w.heap[b]?) : RtAt w' S r sa ra ya := ⟨h.hs.keep hk, h.hr.keep hk, h.hy.keep hk⟩
theorem RtAt.more {w : World} {S S' : Nat → Prop} {r : RouteM} {sa ra ya : Option Addr} (h : RtAt w S r sa ra ya) (hs : ∀ b, S b → S' b) : RtAt w S' r sa ra ya := ⟨h.hs.more hs, h.hr.more hs, h.hy.more hs⟩
set_option maxRecDepth 100000 in
set_option maxHeartbeats 1000000 in
theorem same_str (w : World) (A B : Option Addr) (n c d : Nat) (l : List (List UInt8)) (hn : Hid (n = l.length)) (hN : n ≤ 1000000) (hx : Rd w (· < w.heap.size) A (cs strC l)) (hy : Rd w (· < w.heap.size) B (cs strC l)) :
    Calls Try.prog 22 #[.slice A n c, .slice B n d] w (BPost w true) := by
  have HX := Lib.hid hx
  have HY := Lib.hid hy
  clear hx hy
  go_enter Try.func22, Try.ntmps22
  go_wp2
  go_loopw [5] (fun v wr => ∃ k : Nat, v = .int .i64 k ∧ k ≤ n ∧ Hid (Below w.heap.size w wr)) (fun v _ => n - (intOf v).toNat)
  case atStart => exact ⟨0, rfl, by omega, Lib.hid (Below.refl _ _)⟩
  case round =>
    obtain ⟨k, rfl, hk, HB⟩ := hrel
    by_cases hlt : k < n
    · obtain ⟨a, ha⟩ := at_in l hn hlt
      obtain ⟨ad, rfl, hS, h0, hj⟩ := rd_at 1 (fun _ => rfl) (by omega) (HX.out.below HB.out) ha
      obtain ⟨bd, rfl, hT, g0, gj⟩ := rd_at 1 (fun _ => rfl) (by omega) (HY.out.below HB.out) ha
      obtain ⟨x0, hx0⟩ : ∃ x0, x0 = a := ⟨_, rfl⟩
      subst hx0
      rw [Nat.mul_one] at h0 g0
      have a0 : wr.cell? (ad.add k) = some (.string ⟨x0.toArray⟩) := h0
      have b0 : wr.cell? (bd.add k) = some (.string ⟨x0.toArray⟩) := g0
      have hi : (k : Int) < (n : Int) := by omega
      clear ha h0 hj g0 gj
      go_wp2
      go_quiet (fail)
      go_wp2
      go_roundw
      case rel => exact ⟨k + 1, by go_num, by omega, Lib.hid (below_drewN HB.out _)⟩
      case measure => simp [intOf]; omega
    · go_wp2
      go_ret
      exact ⟨rfl, HB.out⟩
theorem str_app (a b : List UInt8) : (⟨a.toArray⟩ : ByteArray) ++ ⟨b.toArray⟩ = ⟨(a ++ b).toArray⟩ := by
  apply ByteArray.ext
  simp
theorem bytes_eq {a b : ByteArray} (h : a.data.toList = b.data.toList) : a = b := ByteArray.ext (Array.ext' h)
theorem litd_at (w : World) (n : Nat) (l : Array Value) (t : TypeId) (xs : List Value) (hn : n = w.heap.size) (h : xs.toArray = l) : Rd (w.alloc (.cells l t)).drew (· < (w.alloc (.cells l t)).heap.size) (some ⟨n, 0, none⟩) xs := lit_at w n l t xs hn h
theorem below_alive {w wr W w4 : World} {t : TypeId} {l : List Value} (h1 : Below w.heap.size w wr) (h2 : Blk wr w.heap.size t l) (h3 : Below (w.heap.size + 1) W w4) (h4 : Below wr.heap.size wr W) : Below w.heap.size w w4 ∧ Blk w4 w.heap.size t l :=
  ⟨h1.trans ((h4.mono (by have := h2.lt; omega)).trans (h3.mono (by omega))), (h2.after h4).below h3 (by omega)⟩
theorem own_lit1 (w : World) (n : Nat) (e : TypeId) (u : Value) (hu : u.oneCell' = true) (hn : n ≤ w.heap.size) : (w.alloc (.cells #[u] e)).ownsRow n e 1 (.slice (some ⟨w.heap.size, 0, none⟩) 1 1) 1 [u] :=
  ⟨by simp, .inr ⟨w.heap.size, 1, #[u], rfl, hn, heap_alloc_new w _, by omega, by simp [maxLen], by simp, by simp⟩⟩
theorem kind5 (c : UInt8) : (kindOf c == 5) = (decide (97 ≤ c.toNat) && decide (c.toNat ≤ 122)) := by
  rw [Bool.eq_iff_iff]
  simp only [beq_iff_eq, Bool.and_eq_true, decide_eq_true_eq]
  unfold kindOf
  split
  · omega
  · split
    · omega
    · split
      · omega
      · split
        · omega
        · split
          · omega
          · split <;> omega
theorem kind6 (c : UInt8) : (kindOf c == 6) = (decide (48 ≤ c.toNat) && decide (c.toNat ≤ 57)) := by
  rw [Bool.eq_iff_iff]
  simp only [beq_iff_eq, Bool.and_eq_true, decide_eq_true_eq]
  unfold kindOf
  split
  · omega
  · split
    · omega
    · split
      · omega
      · split
        · omega
        · split
          · omega
          · split <;> omega
theorem kind7 (c : UInt8) : (kindOf c == 7) = (decide (c.toNat = 45) || decide (c.toNat = 95)) := by
  rw [Bool.eq_iff_iff]
  simp only [beq_iff_eq, Bool.or_eq_true, decide_eq_true_eq]
  unfold kindOf
  split
  · omega
  · split
    · omega
    · split
      · omega
      · split
        · omega
        · split
          · omega
          · split <;> omega
set_option maxHeartbeats 1000000 in
theorem letter_any (c : UInt8) (w : World) : Calls Try.prog 47 #[.int .u8 (c.toNat : Int)] w fun e w' => e = .returned (.bool (kindOf c == 5)) ∧ w = w' := by
  rw [kind5]
  generalize c.toNat = n
  by_cases h1 : 97 ≤ n
  · have g1 : (97 : Int) ≤ (n : Int) := by omega
    by_cases h2 : n ≤ 122
    · have g2 : (n : Int) ≤ 122 := by omega
      go_enter Try.func47, Try.ntmps47
      go_wp2
      go_ret
      exact ⟨by simp [h1, h2], rfl⟩
    · have g2 : ¬ (n : Int) ≤ 122 := by omega
      go_enter Try.func47, Try.ntmps47
      go_wp2
      go_ret
      exact ⟨by simp [h2], rfl⟩
  · have g1 : ¬ (97 : Int) ≤ (n : Int) := by omega
    go_enter Try.func47, Try.ntmps47
    go_wp2
    go_ret
    exact ⟨by simp [h1], rfl⟩
set_option maxHeartbeats 1000000 in
theorem digitR_any (c : UInt8) (w : World) : Calls Try.prog 56 #[.int .u8 (c.toNat : Int)] w fun e w' => e = .returned (.bool (kindOf c == 6)) ∧ w = w' := by
  rw [kind6]
  generalize c.toNat = n
  by_cases h1 : 48 ≤ n
  · have g1 : (48 : Int) ≤ (n : Int) := by omega
    by_cases h2 : n ≤ 57
    · have g2 : (n : Int) ≤ 57 := by omega
      go_enter Try.func56, Try.ntmps56
      go_wp2
      go_ret
      exact ⟨by simp [h1, h2], rfl⟩
    · have g2 : ¬ (n : Int) ≤ 57 := by omega
      go_enter Try.func56, Try.ntmps56
      go_wp2
      go_ret
      exact ⟨by simp [h2], rfl⟩
  · have g1 : ¬ (48 : Int) ≤ (n : Int) := by omega
    go_enter Try.func56, Try.ntmps56
    go_wp2
    go_ret
    exact ⟨by simp [h1], rfl⟩
set_option maxHeartbeats 1000000 in
theorem more_any (c : UInt8) (w : World) : Calls Try.prog 48 #[.int .u8 (c.toNat : Int)] w fun e w' => e = .returned (.bool (isMore c)) ∧ w = w' := by
  have C1 := Lib.hid (fun w' => letter_any c w')
  have C2 := Lib.hid (fun w' => digitR_any c w')
  have hm : isMore c = (kindOf c == 5 || kindOf c == 6 || (decide (c.toNat = 45) || decide (c.toNat = 95))) := by rw [← kind7]; rfl
  rw [hm]
  clear hm
  generalize (kindOf c == 5) = b1 at *
  generalize (kindOf c == 6) = b2 at *
  generalize c.toNat = n at *
  have e1 : ((n : Int) == 45) = decide (n = 45) := by rw [Bool.eq_iff_iff]; simp; omega
  have e2 : ((n : Int) == 95) = decide (n = 95) := by rw [Bool.eq_iff_iff]; simp; omega
  generalize decide (n = 45) = b3 at *
  generalize decide (n = 95) = b4 at *
  cases b1 <;> cases b2 <;> cases b3 <;> cases b4
  all_goals go_enter Try.func48, Try.ntmps48
  all_goals go_wp2_with (first
    | (go_at_call 47; (with_reducible refine (C1.out _).mono ?_); rintro e w1 ⟨rfl, rfl⟩)
    | (go_at_call 56; (with_reducible refine (C2.out _).mono ?_); rintro e w1 ⟨rfl, rfl⟩)
    | fail)
  all_goals go_ret
  all_goals exact ⟨rfl, rfl⟩
theorem byte_at (s : ByteArray) (i : Nat) (h : i < s.size) : s.data.toList[i]? = some s[i] := by
  have h' : i < s.data.toList.length := by rw [← Lib.size_eq s]; exact h
  rw [List.getElem?_eq_getElem h']
  simp [ByteArray.getElem_eq_getElem_data]
/-- is it a word? -/
def wordB (l : List UInt8) : Bool := decide (l.length ≤ 24) && (nextK l == 5 && l.all isMore)
set_option maxRecDepth 100000 in
set_option maxHeartbeats 2000000 in
theorem word_any (s : ByteArray) (w : World) : Calls Try.prog 37 #[.string s] w fun e w' => e = .returned (.bool (wordB s.data.toList)) ∧ Below w.heap.size w w' := by
  have hz := Lib.size_eq s
  by_cases h0 : s.size = 0
  · have hq : wordB s.data.toList = false := by
      have : s.data.toList = [] := List.length_eq_zero_iff.1 (by omega)
      rw [this]; rfl
    rw [hq]
    have e0 : ((s.size : Int) == 0) = true := by rw [beq_iff_eq]; omega
    have e00 : (s.size == 0) = true := by rw [beq_iff_eq]; omega
    clear hz hq
    go_enter Try.func37, Try.ntmps37
    go_wp2
    go_ret
    exact ⟨rfl, Below.refl _ _⟩
  have e0 : ((s.size : Int) == 0) = false := by rw [beq_eq_false_iff_ne]; omega
  by_cases h24 : 24 < s.size
  · have hq : wordB s.data.toList = false := by
      unfold wordB
      rw [decide_eq_false (by omega)]; rfl
    rw [hq]
    have g24 : (24 : Int) < (s.size : Int) := by omega
    clear hz hq
    go_enter Try.func37, Try.ntmps37
    go_wp2
    go_ret
    exact ⟨rfl, Below.refl _ _⟩
  have g24 : ¬ (24 : Int) < (s.size : Int) := by omega
  have hp : 0 < s.size := by omega
  have gp : (0 : Int) < (s.size : Int) := by omega
  have b0 := byte_at s 0 hp
  have C1 := Lib.hid (fun w' => letter_any s[0] w')
  have hnk : nextK s.data.toList = kindOf s[0] := by
    cases hl : s.data.toList with
    | nil => rw [hl] at b0; simp at b0
    | cons c r => rw [hl] at b0; simp at b0; rw [b0]; rfl
  have hw : wordB s.data.toList = ((kindOf s[0] == 5) && s.data.toList.all isMore) := by
    unfold wordB
    rw [decide_eq_true (by omega), hnk, Bool.true_and]
  rw [hw]
  clear hw hnk b0
  cases hk : (kindOf s[0] == 5) with
  | false =>
    rw [hk] at C1
    clear hk hz
    go_enter Try.func37, Try.ntmps37
    go_wp2_with (first
      | (go_at_call 47; refine (C1.out _).mono ?_; rintro e w1 ⟨rfl, rfl⟩)
      | fail)
    go_ret
    exact ⟨rfl, Below.refl _ _⟩
  | true =>
    rw [hk] at C1
    rw [Bool.true_and]
    obtain ⟨B, hB⟩ : ∃ B, B = s.data.toList.all isMore := ⟨_, rfl⟩
    rw [← hB]
    have HBB := Lib.hid hB
    clear hB
    have HZ := Lib.hid hz
    clear hk hz
    go_enter Try.func37, Try.ntmps37
    go_wp2_with (first
      | (go_at_call 47; refine (C1.out _).mono ?_; rintro e w1 ⟨rfl, rfl⟩)
      | fail)
    go_loopw [3] (fun v wr => ∃ i : Nat, v = .int .i64 i ∧ i ≤ s.size ∧ Hid ((s.data.toList.take i).all isMore = true) ∧ Hid (Below w.heap.size w wr)) (fun v _ => s.size - (intOf v).toNat)
    case atStart => exact ⟨0, rfl, by omega, Lib.hid (by simp), Lib.hid (Below.refl _ _)⟩
    case round =>
      obtain ⟨i, rfl, hi, HT, HB⟩ := hrel
      by_cases hlt : i < s.size
      · have hi1 : (i : Int) < (s.size : Int) := by omega
        have hb := byte_at s i hlt
        have C2 := Lib.hid (fun w' => more_any s[i] w')
        cases hm : isMore s[i] with
        | true =>
          rw [hm] at C2
          have HT2 := Lib.hid (all_take hb HT.out hm)
          clear hm hb
          go_wp2_with (first
            | (go_at_call 48; refine (C2.out _).mono ?_; rintro e w1 ⟨rfl, rfl⟩)
            | fail)
          go_roundw
          case rel => exact ⟨i + 1, by go_num, by omega, HT2, HB⟩
          case measure => simp [intOf]; omega
        | false =>
          rw [hm] at C2
          have HNO := Lib.hid (HBB.out.trans (all_no hb hm))
          clear hm hb
          go_wp2_with (first
            | (go_at_call 48; refine (C2.out _).mono ?_; rintro e w1 ⟨rfl, rfl⟩)
            | fail)
          go_ret
          exact ⟨by rw [HNO.out]; rfl, HB.out⟩
      · have hi1 : ¬ (i : Int) < (s.size : Int) := by omega
        have HA := Lib.hid (HBB.out.trans (all_full HT.out (by rw [← HZ.out]; omega)))
        go_wp2
        go_ret
        exact ⟨by rw [HA.out]; rfl, HB.out⟩
theorem reservedR_some (s : ByteArray) (i : Nat) (r : List UInt8) (hr : reservedL[i]? = some r) (h : (r == s.toList) = true) : isRes s.data.toList = true := by
  rw [ByteArray.toList_eq, beq_iff_eq] at h
  unfold isRes
  rw [List.contains_eq_mem, ← h]
  simp [List.mem_of_getElem? hr]
set_option maxRecDepth 100000 in
set_option maxHeartbeats 2000000 in
theorem reservedR_any (s : ByteArray) (w : World) : Calls Try.prog 38 #[.string s] w fun e w' => e = .returned (.bool (isRes s.data.toList)) ∧ Below w.heap.size w w' := by
  obtain ⟨B, hB⟩ : ∃ B, B = isRes s.data.toList := ⟨_, rfl⟩
  rw [← hB]
  have HBB := Lib.hid hB
  clear hB
  go_enter Try.func38, Try.ntmps38
  go_wp2
  have HR : Hid (Rd (w.alloc (.cells (cs strC reservedL).toArray 9)) (· < (w.alloc (.cells (cs strC reservedL).toArray 9)).heap.size) (some ⟨w.heap.size, 0, none⟩) (cs strC reservedL)) := Lib.hid (lit_at _ _ _ _ _ rfl rfl)
  go_loopw [4] (fun v wr => ∃ i : Nat, v = .int .i64 i ∧ i ≤ 15 ∧ Hid (∀ j r, j < i → reservedL[j]? = some r → (r == s.toList) = false) ∧ Hid (Rd wr (· < wr.heap.size) (some ⟨w.heap.size, 0, none⟩) (cs strC reservedL)) ∧ Hid (Below w.heap.size w wr)) (fun v _ => 15 - (intOf v).toNat)
  case atStart => exact ⟨0, rfl, by omega, Lib.hid (fun j r hj => absurd hj (by omega)), HR, Lib.hid (one_box _ _)⟩
  case round =>
    obtain ⟨i, rfl, hi, HN, HRR, HB⟩ := hrel
    by_cases hlt : i < 15
    · have hi1 : (i : Int) < 15 := by omega
      obtain ⟨r, hr⟩ : ∃ r, reservedL[i]? = some r := ⟨_, List.getElem?_eq_getElem (by exact hlt)⟩
      obtain ⟨ad, had, hS, x0, -⟩ := rd_at 1 (fun _ => rfl) (by omega) HRR.out hr
      cases had
      have x1 : wr.cell? ((⟨w.heap.size, 0, none⟩ : Addr).add (i * 1)) = some (.string ⟨r.toArray⟩) := x0
      have ea : (⟨w.heap.size, 0, none⟩ : Addr).add (i * 1) = ⟨w.heap.size, i, none⟩ := by
        rw [Nat.mul_one]
        unfold Addr.add
        split
        · subst_vars; rfl
        · simp
      rw [ea] at x1
      clear ea
      cases hq : (r == s.toList) with
      | true =>
        have HT := Lib.hid (HBB.out.trans (reservedR_some s i r hr hq))
        clear hr x0
        go_wp2
        go_ret
        exact ⟨by rw [HT.out]; rfl, HB.out⟩
      | false =>
        have HN2 : Hid (∀ j r, j < i + 1 → reservedL[j]? = some r → (r == s.toList) = false) := Lib.hid (fun j r' hj hr' => by
          rcases Nat.lt_or_ge j i with h | h
          · exact HN.out j r' h hr'
          · obtain rfl : j = i := by omega
            rw [hr] at hr'
            injection hr' with e
            rw [← e]; exact hq)
        clear hr x0
        go_wp2
        go_roundw
        case rel => exact ⟨i + 1, by go_num, by omega, HN2, HRR, HB⟩
        case measure => simp [intOf]; omega
    · have hi1 : ¬ (i : Int) < 15 := by omega
      have HF : Hid (B = false) := Lib.hid (HBB.out.trans (by
        cases hq : isRes s.data.toList with
        | false => rfl
        | true =>
          unfold isRes at hq
          rw [List.contains_eq_mem] at hq
          have hm : s.data.toList ∈ reservedL := by simpa using hq
          obtain ⟨j, hj, e⟩ := List.getElem_of_mem hm
          have hj2 : j < 15 := hj
          have := HN.out j _ (by omega) (List.getElem?_eq_getElem hj)
          rw [e, ByteArray.toList_eq, beq_eq_false_iff_ne] at this
          exact absurd rfl this))
      go_wp2
      go_ret
      exact ⟨by rw [HF.out]; rfl, HB.out⟩
set_option maxHeartbeats 1000000 in
theorem refname_any (s : ByteArray) (w : World) : Calls Try.prog 26 #[.string s] w (BPost w (nameB s.data.toList)) := by
  have C1 := Lib.hid (fun w' => word_any s w')
  have C2 := Lib.hid (fun w' => reservedR_any s w')
  have e : nameB s.data.toList = (wordB s.data.toList && !isRes s.data.toList) := by
    unfold nameB wordB
    cases decide (s.data.toList.length ≤ 24) <;> cases isRes s.data.toList <;> cases (nextK s.data.toList == 5) <;> cases s.data.toList.all isMore <;> rfl
  rw [e]
  clear e
  generalize wordB s.data.toList = b1 at *
  generalize isRes s.data.toList = b2 at *
  cases b1 <;> cases b2
  all_goals go_enter Try.func26, Try.ntmps26
  all_goals go_wp2_with (first
    | (go_at_call 37; refine (C1.out _).mono ?_; rintro e w1 ⟨rfl, hb⟩; have G := Lib.hid hb; clear hb)
    | (go_at_call 38; refine (C2.out _).mono ?_; rintro e w2 ⟨rfl, hb⟩; have G := Lib.hid (keep_trans G.out hb); clear hb)
    | fail)
  all_goals go_ret
  all_goals exact ⟨rfl, G.out⟩
theorem info_I64 : (Try.prog.info? 2).map (fun i => (i.zero, i.size, i.bytes)) = some (some (.int .i64 0), 1, 8) := by kernel_rfl
theorem litd_at2 (w : World) (n : Nat) (l : Array Value) (t : TypeId) (xs : List Value) (hn : n = w.heap.size) (h : xs.toArray = l) : Rd (w.alloc (.cells l t)).drew (· < (w.alloc (.cells l t)).heap.size) (some ⟨n, 0, none⟩) xs := lit_at w n l t xs hn h
theorem own_empty' {base size n : Nat} (w : World) (e : TypeId) (hb : base ≤ w.heap.size) (hn : n = w.heap.size) : (w.alloc (.cells #[] e)).ownsRow base e size (.slice (some ⟨n, 0, none⟩) 0 0) 0 [] := by subst hn; exact own_empty hb
theorem below_two {B : Nat} {a W w4 : World} (h3 : Below B W w4) (h4 : Below B a W) : Below B a w4 := h4.trans h3
theorem below_alive2 {w wr W w4 : World} {t : TypeId} {l : List Value} (h1 : Below w.heap.size w wr) (h2 : Blk wr w.heap.size t l) (h3 : Below (w.heap.size + 1) W w4) (h4 : Below wr.heap.size wr W) : Below w.heap.size w w4 ∧ Blk w4 w.heap.size t l :=
  ⟨h1.trans ((h4.mono (by have := h2.lt; omega)).trans (h3.mono (by omega))), (h2.after h4).below h3 (by omega)⟩
theorem cell_keep {B : Nat} {a b : World} {p : Addr} (h : Below B a b) (hb : p.block < B) : b.cell? p = a.cell? p := World.cell?_of_block (h.block _ hb)
theorem cs_each {α : Type} {f : α → List Value} (hf : ∀ a, ∀ u ∈ f a, u.oneCell' = true) (l : List α) : ∀ u ∈ cs f l, u.oneCell' = true := by
  intro u hu
  obtain ⟨a, -, h⟩ := List.mem_flatMap.1 hu
  exact hf a u h
theorem str_one : ∀ a, ∀ u ∈ strC a, u.oneCell' = true := by intro a u hu; simp [strC] at hu; subst hu; rfl
theorem rw_over {α β : Type} {w wr : World} {et : TypeId} {cf : β → List Value} {L0 : List β} {N c : Nat} {A : Option Addr} {f : α → List β} {l : List α} {n : Nat} (hn : n = l.length) (h : wr.ownsRow (w.heap.size + 1) et 1 (.slice A N c) N (cs cf (L0 ++ (l.take n).flatMap f))) :
    wr.ownsRow (w.heap.size + 1) et 1 (.slice A N c) N (cs cf (L0 ++ l.flatMap f)) := by
  subst hn
  rwa [List.take_length] at h
theorem own_one1 (w : World) (n : Nat) (e : TypeId) (u : Value) (hu : u.oneCell' = true) (hn : n ≤ w.heap.size) : (w.alloc (.cells #[u] e)).ownsRow n e 1 (.slice (some ⟨w.heap.size, 0, none⟩) 1 1) 1 [u] :=
  ⟨by simp, .inr ⟨w.heap.size, 1, #[u], rfl, hn, heap_alloc_new w _, by omega, by simp [maxLen], by simp, by simp⟩⟩
theorem cs_drop {α : Type} (f : α → List Value) (k : Nat) (h : ∀ a, (f a).length = k) (l : List α) (n : Nat) : cs f (l.drop n) = (cs f l).drop (n * k) := by
  induction l generalizing n with
  | nil => simp [cs]
  | cons a l ih =>
    cases n with
    | zero => simp
    | succ n => rw [List.drop_succ_cons, ih, cs_cons, Nat.succ_mul, Nat.add_comm, ← List.drop_drop, List.drop_left' (h a)]
theorem wpList_append_rdw {P : Program} {w : World} {ops : Array Oper} {rest : List Oper} {o : Oper} {a : Act} {Q : Exit → Act → World → Prop} (hgd : o.guard = none) (s x : Operand) (t : TypeId)
    (ho : o.op = .call { callee := .builtin .append, args := #[s, x], argTypes := #[t, t] })
    (base : Nat) (e : TypeId) (z : Value) (size bytes : Nat) (ht : P.underlying t = some (.slice e)) (hinfo : (P.info? e).map (fun i => (i.zero, i.size, i.bytes)) = some (some z, size, bytes)) (hzs : z.cells.size = size) (hsz : 0 < size) (hb16 : bytes ≤ 128)
    (v : Value) (n : Nat) (xs : List Value) (hs : a.eval s = v) (hown : w.ownsRow base e size v n xs) (S : Nat → Prop) (A : Option Addr) (m c : Nat) (news : List Value) (hx : a.eval x = .slice A m c) (hl : news.length = m * size) (hr : Rd w S A news) (h1 : ∀ u ∈ news, u.oneCell' = true)
    (hN : n + m ≤ 4000000) (hbase : base ≤ w.heap.size)
    (h : ∀ v' w', Hid (w'.ownsRow base e size v' (n + m) (xs ++ news)) → Hid (Below base w w') → wpList P ops Q rest (a.put o.dst v') w') : wpList P ops Q (o :: rest) a w := by
  refine wpList_plain hgd fun K hK => ?_
  obtain ⟨i, hi, hz, hsize, hby⟩ := info_parts hinfo
  obtain ⟨v', w', hrun, h2, h3, h4⟩ := run_append_rd (P := P) w base t o.type e i z size bytes ht hi hz hsize hby hzs hsz v n xs hown S A m c news hl hr h1 (by simp only [maxLen]; omega)
    (by have : (n + m) * bytes ≤ 4000000 * 128 := Nat.mul_le_mul hN hb16
        omega) hbase
  unfold Oper.wp
  simp only [execOp, ho, resolve, invoke, builtin, Sem.run_bind, Sem.run_pure, Result.andThen_ok, List.map_toArray, List.map_cons, List.map_nil, hs, hx, hrun]
  exact hK _ _ (h v' w' h2 ((Below.refl _ _).grown h3 hbase (fun k hk => (hown.lt k hk).1)))
theorem step_append_rdw {P : Program} {w : World} {ops : Array Oper} {o : Oper} {a : Act} {K : Act → World → Prop} {Q : Exit → Act → World → Prop} {E : Prop} (hgd : o.guard = none) (s x : Operand) (t : TypeId)
    (ho : o.op = .call { callee := .builtin .append, args := #[s, x], argTypes := #[t, t] })
    (base : Nat) (e : TypeId) (z : Value) (size bytes : Nat) (ht : P.underlying t = some (.slice e)) (hinfo : (P.info? e).map (fun i => (i.zero, i.size, i.bytes)) = some (some z, size, bytes)) (hzs : z.cells.size = size) (hsz : 0 < size) (hb16 : bytes ≤ 128)
    (v : Value) (n : Nat) (xs : List Value) (hs : a.eval s = v) (hown : Hid (w.ownsRow base e size v n xs)) (S : Nat → Prop) (A : Option Addr) (m c : Nat) (news : List Value) (hx : a.eval x = .slice A m c) (hl : Hid (news.length = m * size)) (hr : Hid (Rd w S A news)) (h1 : ∀ u ∈ news, u.oneCell' = true)
    (hN : n + m ≤ 4000000) (hbase : base ≤ w.heap.size)
    (h : ∀ v' w', Hid (w'.ownsRow base e size v' (n + m) (xs ++ news)) → Hid (Below base w w') → Hid (w.grownBy w' v.ownBlock) → K (a.put o.dst v') w') :
    if Region.wanted o (yielded ops a.tmps) = true then Oper.wp P o a w K Q else E := by
  have hw : Region.wanted o (yielded ops a.tmps) = true := by simp [Region.wanted, hgd]
  rw [if_pos hw]
  obtain ⟨i, hi, hz, hsize, hby⟩ := info_parts hinfo
  obtain ⟨v', w', hrun, h2, h3, h4⟩ := run_append_rd (P := P) w base t o.type e i z size bytes ht hi hz hsize hby hzs hsz v n xs hown.out S A m c news hl.out hr.out h1 (by simp only [maxLen]; omega)
    (by have : (n + m) * bytes ≤ 4000000 * 128 := Nat.mul_le_mul hN hb16
        omega) hbase
  unfold Oper.wp
  simp only [execOp, ho, resolve, invoke, builtin, Sem.run_bind, Sem.run_pure, Result.andThen_ok, List.map_toArray, List.map_cons, List.map_nil, hs, hx, hrun]
  exact h v' w' h2 ((Below.refl _ _).grown h3 hbase (fun k hk => (hown.out.lt k hk).1)) h3
/-- a row of n things in new memory -/
def NewRow (w : World) (T : TypeId) (size : Nat) (xs : List Value) (n : Nat) (e : Ending) (w' : World) : Prop :=
  ∃ A c, e = .returned (.slice A n c) ∧ n ≤ c ∧ Hid (w'.ownsRow w.heap.size T size (.slice A n c) n xs) ∧ Below w.heap.size w w'
set_option maxRecDepth 100000 in
set_option maxHeartbeats 1000000 in
theorem own_str (w : World) (A : Option Addr) (n c : Nat) (l : List (List UInt8)) (hn : Hid (n = l.length)) (hN : n ≤ 1000000) (hx : Rd w (· < w.heap.size) A (cs strC l)) :
    Calls Try.prog 15 #[.slice A n c] w (NewRow w 9 1 (cs strC l) n) := by
  have hx' : Rd (w.alloc (.cells #[] 9)) (· < w.heap.size) A (cs strC l) := hx.keep fun b hb => Below.heap_alloc w _ b hb
  have HX := Lib.hid hx'
  have hl : Hid ((cs strC l).length = n * 1) := by show _ = _; rw [cs_length strC 1 (fun _ => rfl), hn.out]
  have h1 := cs_each str_one l
  have H1 := Lib.hid h1
  clear hx hx' h1
  go_enter Try.func15, Try.ntmps15
  go_wp2_with (at_builtin; refine wpList_append_rdw rfl (.tmp 3) (.tmp 4) 26 rfl w.heap.size 9 _ 1 16 Try.underlying26 info_Str rfl (by omega) (by omega) _ 0 [] rfl (own_empty (Nat.le_refl _)) _ A n c (cs strC l) rfl hl.out HX.out H1.out (by omega) (by simp) ?_; intro v' w1 hown hbel)
  obtain ⟨B, d, hv, hnd, hrd⟩ := own_form hown.out
  have ho := hown.out
  simp only [Nat.zero_add, List.nil_append] at hv ho hnd
  subst hv
  go_ret
  exact ⟨B, d, rfl, hnd, Lib.hid ho, ((Below.refl _ _).alloc (Nat.le_refl _) _).trans hbel.out⟩
theorem take_more2 {α : Type} {l k : List α} {i : Nat} {a b : α} (h : l.take i = k.take i) (ha : l[i]? = some a) (hb : k[i]? = some b) (e : a = b) : l.take (i + 1) = k.take (i + 1) := by
  rw [List.take_add_one, List.take_add_one, h, ha, hb, e]
theorem row_ne {α : Type} [DecidableEq α] {l k : List α} {i : Nat} {a b : α} (ha : l[i]? = some a) (hb : k[i]? = some b) (e : a ≠ b) : decide (l = k) = false := by
  rw [decide_eq_false_iff_not]
  rintro rfl
  rw [ha] at hb
  exact e (Option.some.inj hb)
set_option maxRecDepth 100000 in
set_option maxHeartbeats 2000000 in
theorem samed_str (w : World) (A B : Option Addr) (n m c d : Nat) (l q : List (List UInt8)) (hn : Hid (n = l.length)) (hm : Hid (m = q.length)) (hN : n ≤ 1000000) (hM : m ≤ 1000000) (hx : Rd w (· < w.heap.size) A (cs strC l)) (hy : Rd w (· < w.heap.size) B (cs strC q)) :
    Calls Try.prog 22 #[.slice A n c, .slice B m d] w (BPost w (decide (l = q))) := by
  have HX := Lib.hid hx
  have HY := Lib.hid hy
  clear hx hy
  by_cases hnm : n = m
  · subst hnm
    go_enter Try.func22, Try.ntmps22
    go_wp2
    go_loopw [5] (fun v wr => ∃ k : Nat, v = .int .i64 k ∧ k ≤ n ∧ Hid (l.take k = q.take k) ∧ Hid (Below w.heap.size w wr)) (fun v _ => n - (intOf v).toNat)
    case atStart => exact ⟨0, rfl, by omega, Lib.hid (by simp), Lib.hid (Below.refl _ _)⟩
    case round =>
      obtain ⟨k, rfl, hk, HT, HB⟩ := hrel
      by_cases hlt : k < n
      · obtain ⟨a, ha⟩ := at_in l hn hlt
        obtain ⟨b, hb⟩ := at_in q hm hlt
        have HA := Lib.hid ha
        have HBB := Lib.hid hb
        obtain ⟨ad, rfl, hS, h0, hj⟩ := rd_at 1 (fun _ => rfl) (by omega) (HX.out.below HB.out) ha
        obtain ⟨bd, rfl, hT, g0, gj⟩ := rd_at 1 (fun _ => rfl) (by omega) (HY.out.below HB.out) hb
        have hi : (k : Int) < (n : Int) := by omega
        clear ha hb
        obtain ⟨x0, hx0⟩ : ∃ x0, x0 = a := ⟨_, rfl⟩
        subst hx0
        obtain ⟨y0, hy0⟩ : ∃ y0, y0 = b := ⟨_, rfl⟩
        subst hy0
        rw [Nat.mul_one] at h0 g0
        have a0 : wr.cell? (ad.add k) = some (.string ⟨x0.toArray⟩) := h0
        have b0 : wr.cell? (bd.add k) = some (.string ⟨y0.toArray⟩) := g0
        clear h0 hj g0 gj
        by_cases e0 : x0 = y0
        · subst e0
          go_wp2
          go_quiet (fail)
          go_wp2
          go_roundw
          case rel => exact ⟨k + 1, by go_num, by omega, Lib.hid (take_more2 HT.out HA.out HBB.out rfl), Lib.hid (below_drewN HB.out _)⟩
          case measure => simp [intOf]; omega
        · have t0 : (x0 == y0) = false := beq_eq_false_iff_ne.2 e0
          have HNE := Lib.hid (row_ne HA.out HBB.out (by intro e; exact e0 e))
          clear e0
          go_wp2
          go_quiet (fail)
          go_wp2
          go_ret
          exact ⟨by rw [HNE.out]; rfl, below_drewN HB.out _⟩
      · have e : l = q := by
          have h1 := HT.out
          rwa [List.take_of_length_le (by have := hn.out; omega), List.take_of_length_le (by have := hm.out; omega)] at h1
        have HD : Hid (decide (l = q) = true) := Lib.hid (decide_eq_true e)
        clear e
        go_wp2
        go_ret
        exact ⟨by rw [HD.out]; rfl, HB.out⟩
  · have HD : Hid (decide (l = q) = false) := Lib.hid (by rw [decide_eq_false_iff_not]; rintro rfl; exact hnm (hn.out.trans hm.out.symm))
    rw [HD.out]
    have hne : ((n : Int) == (m : Int)) = false := by rw [beq_eq_false_iff_ne]; omega
    have hn2 : ¬ n = m := hnm
    clear hnm
    go_enter Try.func22, Try.ntmps22
    go_wp2
    go_ret
    exact ⟨rfl, Below.refl _ _⟩
end Go.Proofs.Ytceamidobdfhbaa.Sh
