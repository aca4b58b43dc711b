/- Plain facts on decimal numerals: which lists of bytes are numerals without a needless 0, what number they are, and that the numeral of that number is the list. Imports no program. · Plain facts on how a text is cut into tokens: what the document's words say, as a function on lists of bytes, one token at a time, and how it goes on step by step. Imports no program. · Plain facts on cutting texts: a line's end between two texts; lines counted farther on; which rows of tokens come; the text of such a row is cut into the like. Imports no program. · Plain facts on how a row of tokens is read as a timetable, line by line: what the document's words say, as functions on lists of tokens. Imports no program. · Plain facts: which rows of tokens come out of a text; what is cut of a token's bytes. Imports no program. · Package tick's Parse and what it calls: what number, digits and Parse answer, at any tick and any text, proved by walking their text; the library's AppendInt and ParseInt by the shelf's contracts. Conditions: the package-level variables of the library that these read hold what start-up lays (Env). · The row's condition on the library's variables gives what the library's text reads (Env); start-up's heap meets it. · Words for package lex: rows of tokens as they lie in memory, what keeps them; the cursor; append onto a row of the call's own. · Package lex's inner calls: of which kind a byte is, what comes next, how far bytes of some kinds go. Conditions: the cursor lies in mem -/
import Derived.Test.YtfefnfifeaihhaaGreatSq
import Derived.Test.YtfefnfifeaihhaaGreatRows
import Derived.Below
import Derived.Shelf.SlIter.Nil
import Derived.Shelf.AbstractIn
import Derived.Lib.Strings
import Derived.Lib.ItoaNum
import Derived.Lib.ItoaMem
import Derived.Lib.AtoiTie
import Derived.Lib.ParseIntBTie
import Derived.WalkKit
import Derived.ProofKit
import Derived.OpenShut
import Derived.Handy
import Derived.Lib.AppendIntMem
import Derived.Lib.AtoiErrMem
import Derived.Lib.AtoiBound
import Derived.Lib.ItoaLen
import Derived.Lib.Slices
import Derived.Lib.Hide
import Derived.Lib.LaidTab
import Derived.Laws.IdiomStrings
import Derived.Deep.RegionWith
import Derived.WalkLawsBesides
import Derived.OwnWalk
import Derived.BigCall
import Derived.LaidMore
import Derived.Stop.Joined
import Derived.Stop.LaidErr
import Derived.RegionTactic
import Derived.BigRegion
import Derived.ChangeAlike
import Derived.LoopTactic
import Derived.Deep.Draws
import Derived.Deep.QuietTactic
import Derived.BigQuiet
import Derived.Laws.OwnMore
import Derived.Laws.Rows
import Derived.Laws.AppendOwnNone
import Derived.Maps.AppendAt
import Derived.Deep.AppendLies
import Derived.Deep.LoopGhost
import Derived.Deep.RegionLaw
import Derived.Orders
import Derived.Outline
import Derived.Deep.Cut
import Derived.MapKept
import Derived.Defers
import Derived.Recover
import Derived.Laws.Pointers
import Derived.RegionDies
import Derived.Deep.RegionHeld3
import Derived.Deep.DeepCutAuto
set_option linter.unusedVariables false
set_option linter.unusedSimpArgs false
set_option maxHeartbeats 1000000
set_option maxRecDepth 100000
namespace Go.Proofs.YtfefnfifeaihhaaGreat.Tk
open Go.Lib
end Go.Proofs.YtfefnfifeaihhaaGreat.Tk
namespace Go.Proofs.YtfefnfifeaihhaaGreat.Lx
open Tk
structure Tok where
  kind : Int
  text : List UInt8
  num : Int
  line : Int
  col : Int
/-- the kinds of bytes -/
def kindOf (c : UInt8) : Nat :=
  if c.toNat = 32 ∨ c.toNat = 9 then 2 else if c.toNat = 10 then 3 else if c.toNat = 35 then 4
  else if 97 ≤ c.toNat ∧ c.toNat ≤ 122 then 5 else if 48 ≤ c.toNat ∧ c.toNat ≤ 57 then 6 else if c.toNat = 45 ∨ c.toNat = 95 then 7 else 0
def isMore (c : UInt8) : Bool := kindOf c == 5 || kindOf c == 6 || kindOf c == 7
/-- the kind of what comes next; 1: nothing -/
def nextK : List UInt8 → Nat
  | [] => 1
  | c :: _ => kindOf c
def reservedL : List (List UInt8) := [[104, 111, 114, 105, 122, 111, 110], [115, 116, 111, 112], [112, 97, 116, 104], [100, 111, 111, 114], [114, 111, 117, 116, 101], [116, 114, 105, 112], [104, 97, 122, 97, 114, 100], [102, 114, 111, 109], [101, 118, 101, 114, 121], [111, 112, 101, 110], [99, 108, 111, 115, 101, 100], [111, 102], [111, 110], [117, 110, 116, 105, 108], [115, 116, 97, 121]]
def isRes (s : List UInt8) : Bool := reservedL.contains s
inductive Res
  | bad (e line col : Nat)
  | ok (l : List Tok)
/-- is there a token in the line already? -/
def someT (l : List Tok) : Bool := match l.getLast? with
  | none => false
  | Option.some t => !(t.kind == 4)
theorem someT_nil : someT [] = false := rfl
end Go.Proofs.YtfefnfifeaihhaaGreat.Lx
namespace Go.Proofs.YtfefnfifeaihhaaGreat.Lx
open Tk
end Go.Proofs.YtfefnfifeaihhaaGreat.Lx
namespace Go.Proofs.YtfefnfifeaihhaaGreat.Sh
open Lx
structure PathM where
  name : List UInt8
  a : List UInt8
  b : List UInt8
  len : Int
structure TimesM where
  frm : Int
  every : Int
  len : Int
structure DoorM where
  name : List UInt8
  a : List UInt8
  b : List UInt8
  len : Int
  times : TimesM
structure RouteM where
  name : List UInt8
  stops : List (List UInt8)
  rides : List Int
  stays : List Int
structure TripM where
  name : List UInt8
  route : List UInt8
  frm : Int
  every : Int
  til : Int
structure HazM where
  name : List UInt8
  at_ : List UInt8
  times : TimesM
structure SheetM where
  horizon : Int
  stops : List (List UInt8)
  paths : List PathM
  doors : List DoorM
  routes : List RouteM
  trips : List TripM
  hazards : List HazM
structure Legs where
  stops : List Tok
  rides : List Int
  stays : List Int
end Go.Proofs.YtfefnfifeaihhaaGreat.Sh
namespace Go.Proofs.YtfefnfifeaihhaaGreat.Lx
open Tk
end Go.Proofs.YtfefnfifeaihhaaGreat.Lx
namespace Go.Proofs.YtfefnfifeaihhaaGreat.Sh
open Lx Tk
end Go.Proofs.YtfefnfifeaihhaaGreat.Sh
namespace Go.Proofs.YtfefnfifeaihhaaGreat.Tk
open Go.Shelf Go.ChangeShapes Go.WideShapes Go.ChangeAt Go.RowKit
theorem ret_2 {a b c d : Int} (h : a = c ∧ b = d) : Ending.returned (.tuple #[.int .i64 c, .int .i64 d]) = .returned (.tuple #[.int .i64 a, .int .i64 b]) := by rw [h.1, h.2]
theorem ext_data (s : ByteArray) (a b : Nat) : (s.extract a b).data.toList = (s.data.toList.take b).drop a := by
  rw [Lib.extract_data, List.drop_take]
end Go.Proofs.YtfefnfifeaihhaaGreat.Tk
namespace Go.Proofs.YtfefnfifeaihhaaGreat.Tk
open Go.ChangeShapes Go.WideShapes Go.ChangeAt Go.RowKit
end Go.Proofs.YtfefnfifeaihhaaGreat.Tk
namespace Go.Proofs.YtfefnfifeaihhaaGreat.Lx
open Go.ChangeShapes Go.WideShapes Go.ChangeAt Go.RowKit
/-- the cells of tokens -/
def tk (t : Tok) : List Value := [.int .i64 t.kind, .string ⟨t.text.toArray⟩, .int .i64 t.num, .int .i64 t.line, .int .i64 t.col]
def tc (l : List Tok) : List Value := l.flatMap tk
theorem block_of_add (a : Addr) (n : Nat) : (a.add n).block = a.block := by unfold Addr.add; split <;> rfl
theorem add_of_add (a : Addr) (i j : Nat) : (a.add i).add j = a.add (i + j) := by
  unfold Addr.add
  by_cases hi : i = 0 <;> by_cases hj : j = 0 <;> simp [hi, hj, Nat.add_assoc]
/-- the cells xs lie from A on, in a block of S -/
def Rd (w : World) (S : Nat → Prop) (A : Option Addr) (xs : List Value) : Prop :=
  0 < xs.length → ∃ ad, A = some ad ∧ S ad.block ∧ ∀ j u, xs[j]? = some u → w.cell? (ad.add j) = some u
section
variable {w w' : World} {S S' : Nat → Prop} {A : Option Addr} {xs : List Value}
theorem Rd.none_ : Rd w S A [] := fun h => absurd h (by simp)
theorem Rd.keep (h : Rd w S A xs) (hk : ∀ b, S b → w'.heap[b]? = w.heap[b]?) : Rd w' S A xs := fun hn => by
  obtain ⟨ad, e, hb, hc⟩ := h hn
  exact ⟨ad, e, hb, fun j u hu => (World.cell?_of_block (hk _ (by rw [block_of_add]; exact hb))).trans (hc j u hu)⟩
theorem Rd.more (h : Rd w S A xs) (hs : ∀ b, S b → S' b) : Rd w S' A xs := fun hn => by
  obtain ⟨ad, e, hb, hc⟩ := h hn
  exact ⟨ad, e, hs _ hb, hc⟩
theorem Rd.below {B : Nat} (h : Rd w (· < B) A xs) (hb : Below B w w') : Rd w' (· < B) A xs := h.keep fun b hl => hb.block b hl
theorem Rd.drop (h : Rd w S A xs) {k : Nat} {c : Prop} [Decidable c] (hc : k < xs.length → ¬ c) : Rd w S (if c then A else A.map (·.add k)) (xs.drop k) := fun hn => by
  obtain ⟨ad, rfl, hb, hcell⟩ := h (by simp at hn; omega)
  rw [if_neg (hc (by simp at hn; omega))]
  refine ⟨ad.add k, rfl, by rw [block_of_add]; exact hb, fun j u hu => ?_⟩
  rw [add_of_add]
  exact hcell _ u (by rw [← hu, List.getElem?_drop])
end
/-- block g is the cells l, none frozen -/
def Blk (w : World) (g : Nat) (t : TypeId) (l : List Value) : Prop := w.heap[g]? = some (.cells l.toArray t (0, 0))
section
variable {w w' : World} {g : Nat} {t : TypeId} {l : List Value}
theorem Blk.lt (h : Blk w g t l) : g < w.heap.size := by
  rcases Nat.lt_or_ge g w.heap.size with hlt | hge
  · exact hlt
  · unfold Blk at h; rw [Array.getElem?_eq_none hge] at h; cases h
theorem Blk.cell (h : Blk w g t l) (i : Nat) : w.cell? ⟨g, i, none⟩ = l[i]? := by
  have := cell_of_row w g i l.toArray t (0, 0) h
  simpa using this
theorem Blk.frozen (h : Blk w g t l) (i : Nat) : w.frozen? ⟨g, i, none⟩ = false := by
  unfold Blk at h
  simp [World.frozen?, h]
theorem Blk.new (w : World) (t : TypeId) (l : List Value) : Blk (w.alloc (.cells l.toArray t)) w.heap.size t l := heap_alloc_new w _
theorem Blk.alloc (h : Blk w g t l) (o : Obj) : Blk (w.alloc o) g t l := (Below.heap_alloc w o g h.lt).trans h
theorem Blk.set_ (h : Blk w g t l) (i : Nat) (u : Value) : Blk (w.setCell ⟨g, i, none⟩ u) g t (l.set i u) := by
  unfold Blk at h ⊢
  simp [World.setCell, Array.getElem?_modify, h]
theorem Blk.far (h : Blk w g t l) {p : Addr} (hp : g ≠ p.block) (u : Value) : Blk (w.setCell p u) g t l := (Below.heap_setCell w p u g hp).trans h
theorem Blk.below {B : Nat} (h : Blk w g t l) (hb : Below B w w') (hg : g < B) : Blk w' g t l := (hb.block g hg).trans h
theorem Blk.grown {row : Option Nat} (h : Blk w g t l) (hb : w.grownBy w' row) (hg : some g ≠ row) : Blk w' g t l := (hb.block g h.lt hg).trans h
theorem Blk.after (h : Blk w g t l) (hb : Below w.heap.size w w') : Blk w' g t l := h.below hb h.lt
theorem Blk.rd (h : Blk w g t l) {S : Nat → Prop} (hS : S g) (off : Nat) : Rd w S (some ⟨g, off, none⟩) (l.drop off) := fun _ =>
  ⟨_, rfl, hS, fun j u hu => by
    have e : (⟨g, off, none⟩ : Addr).add j = ⟨g, off + j, none⟩ := by
      unfold Addr.add; split
      · subst_vars; rfl
      · rfl
    rw [e, h.cell, ← hu, List.getElem?_drop]⟩
end
theorem keep_trans {a b c : World} (h1 : Below a.heap.size a b) (h2 : Below b.heap.size b c) : Below a.heap.size a c :=
  h1.trans (h2.mono h1.size)
theorem below_then {B : Nat} {a b c : World} (h1 : Below B a b) (h2 : Below b.heap.size b c) (hB : B ≤ b.heap.size) : Below B a c :=
  h1.trans (h2.mono hB)
theorem below_drewN {B : Nat} {a w : World} (h : Below B a w) (n : Nat) : Below B a (w.drewN n) := ⟨h.os, h.tape, h.output, h.size, h.block⟩
theorem below_drew {B : Nat} {a w : World} (h : Below B a w) : Below B a w.drew := ⟨h.os, h.tape, h.output, h.size, h.block⟩
theorem ret_b {a b : Bool} (h : a = b) : Ending.returned (.bool b) = .returned (.bool a) := by rw [h]
theorem ret_i {k : IntKind} {a b : Int} (h : a = b) : Ending.returned (.int k a) = .returned (.int k b) := by rw [h]
theorem own_after {w w' : World} {base e size n : Nat} {v : Value} {xs : List Value} (h : w.ownsRow base e size v n xs) (hb : Below w.heap.size w w') :
    w'.ownsRow base e size v n xs := h.kept ⟨hb.os, hb.tape, hb.output, hb.size, fun k hk _ => hb.block k hk⟩ (row := none) (by cases v.ownBlock <;> simp)
theorem run_append_rd {P : Program} (w : World) (base : Nat) (t ty e : TypeId) (i : TypeInfo) (z : Value) (size bytes : Nat) (ht : P.underlying t = some (.slice e)) (hi : P.info? e = some i) (hz : i.zero = some z)
    (hsize : i.size = size) (hby : i.bytes = bytes) (hzs : z.cells.size = size) (hsz : 0 < size)
    (v : Value) (n : Nat) (xs : List Value) (hown : w.ownsRow base e size v n xs) (S : Nat → Prop) (A : Option Addr) (m c : Nat) (news : List Value) (hl : news.length = m * size) (hr : Rd w S A news) (h1 : ∀ u ∈ news, u.oneCell' = true)
    (h63 : n + m ≤ maxLen) (hbytes : (n + m) * bytes ≤ 140737488355328) (hbase : base ≤ w.heap.size) :
    ∃ v' w', (Builtin.append_ #[t, t] ty #[v, .slice A m c]).run P w = .ok v' w' ∧ w'.ownsRow base e size v' (n + m) (xs ++ news) ∧ w.grownBy w' v.ownBlock ∧ (v'.ownBlock = v.ownBlock ∨ v'.ownBlock = some w.heap.size) := by
  by_cases hnews : news = []
  · subst hnews
    have hm : m = 0 := by
      rcases Nat.mul_eq_zero.1 (show m * size = 0 from hl.symm) with h | h
      · exact h
      · omega
    subst hm
    cases A with
    | none =>
      refine ⟨v, w, ?_, by simpa using hown, ⟨rfl, rfl, rfl, Nat.le_refl _, fun _ _ _ => rfl⟩, .inl rfl⟩
      rcases hown.2 with ⟨rfl, rfl⟩ | ⟨g, cap, cur, rfl, _, _, hnc, _⟩
      · simp [Builtin.append_, run_underlying ht, sizeOf, typeInfo, hi, Builtin.lenOf, Builtin.firstCells]
      · simp [Builtin.append_, run_underlying ht, sizeOf, typeInfo, hi, Builtin.lenOf, Builtin.firstCells, hnc, storeCells]
    | some ad =>
      obtain ⟨v', w', h2, h3, h4, _, h5⟩ := run_append_own_at (P := P) w base t ty e i z size bytes ht hi hz hsize hby hzs hsz v n xs hown ad 0 c [] hl (by simp) h1 h63 hbytes hbase
      exact ⟨v', w', h2, h3, h4, h5⟩
  · obtain ⟨ad, rfl, _, hc⟩ := hr (List.length_pos_iff.2 hnews)
    obtain ⟨v', w', h2, h3, h4, _, h5⟩ := run_append_own_at (P := P) w base t ty e i z size bytes ht hi hz hsize hby hzs hsz v n xs hown ad m c news hl hc h1 h63 hbytes hbase
    exact ⟨v', w', h2, h3, h4, h5⟩
/-- what an append leaves: the row it makes is the call's own; nothing below base is changed -/
theorem wpList_append_rd {P : Program} {w : World} {ops : Array Oper} {rest : List Oper} {o : Oper} {a : Act} {Q : Exit → Act → World → Prop} (hgd : o.guard = none) (s x : Operand) (t : TypeId)
    (ho : o.op = .call { callee := .builtin .append, args := #[s, x], argTypes := #[t, t] })
    (base : Nat) (e : TypeId) (z : Value) (size bytes : Nat) (ht : P.underlying t = some (.slice e)) (hinfo : (P.info? e).map (fun i => (i.zero, i.size, i.bytes)) = some (some z, size, bytes)) (hzs : z.cells.size = size) (hsz : 0 < size) (hb16 : bytes ≤ 64)
    (v : Value) (n : Nat) (xs : List Value) (hs : a.eval s = v) (hown : w.ownsRow base e size v n xs) (S : Nat → Prop) (A : Option Addr) (m c : Nat) (news : List Value) (hx : a.eval x = .slice A m c) (hl : news.length = m * size) (hr : Rd w S A news) (h1 : ∀ u ∈ news, u.oneCell' = true)
    (hN : n + m ≤ 4000000) (hbase : base ≤ w.heap.size)
    (h : ∀ v' w', Hid (w'.ownsRow base e size v' (n + m) (xs ++ news)) → Hid (Below base w w') → wpList P ops Q rest (a.put o.dst v') w') : wpList P ops Q (o :: rest) a w := by
  refine wpList_plain hgd fun K hK => ?_
  obtain ⟨i, hi, hz, hsize, hby⟩ := info_parts hinfo
  obtain ⟨v', w', hrun, h2, h3, h4⟩ := run_append_rd (P := P) w base t o.type e i z size bytes ht hi hz hsize hby hzs hsz v n xs hown S A m c news hl hr h1 (by simp only [maxLen]; omega)
    (by have : (n + m) * bytes ≤ 4000000 * 64 := Nat.mul_le_mul hN hb16
        omega) hbase
  unfold Oper.wp
  simp only [execOp, ho, resolve, invoke, builtin, Sem.run_bind, Sem.run_pure, Result.andThen_ok, List.map_toArray, List.map_cons, List.map_nil, hs, hx, hrun]
  exact hK _ _ (h v' w' h2 ((Below.refl _ _).grown h3 hbase (fun k hk => (hown.lt k hk).1)))
theorem own_form {w : World} {base e size n : Nat} {v : Value} {xs : List Value} (h : w.ownsRow base e size v n xs) :
    ∃ A c, v = .slice A n c ∧ n ≤ c ∧ Rd w (fun b => base ≤ b ∧ b < w.heap.size) A xs := by
  rcases h.2 with ⟨rfl, rfl⟩ | ⟨g, cap, cur, rfl, hbg, hg, hnc, _⟩
  · refine ⟨none, 0, rfl, Nat.le_refl _, ?_⟩
    have : xs = [] := List.eq_nil_of_length_eq_zero (by simpa using h.1)
    subst this
    exact Rd.none_
  · exact ⟨_, cap, rfl, hnc, fun _ => ⟨_, rfl, ⟨hbg, (h.lt g rfl).2⟩, h.cells (g := g) rfl⟩⟩
theorem own_empty {w : World} {base e size : Nat} (hb : base ≤ w.heap.size) : (w.alloc (.cells #[] e)).ownsRow base e size (.slice (some ⟨w.heap.size, 0, none⟩) 0 0) 0 [] :=
  ⟨by simp, .inr ⟨w.heap.size, 0, #[], rfl, hb, heap_alloc_new w _, Nat.le_refl _, by simp [maxLen], by simp, by simp⟩⟩
end Go.Proofs.YtfefnfifeaihhaaGreat.Lx
namespace Go.Proofs.YtfefnfifeaihhaaGreat.Lx
open Go.ChangeShapes Go.WideShapes Go.ChangeAt Go.RowKit
def kindN (n : Nat) : Nat := if n = 32 ∨ n = 9 then 2 else if n = 10 then 3 else if n = 35 then 4
  else if 97 ≤ n ∧ n ≤ 122 then 5 else if 48 ≤ n ∧ n ≤ 57 then 6 else if n = 45 ∨ n = 95 then 7 else 0
theorem ne_f {n : Nat} {k : Int} (h : (n : Int) ≠ k) : ((n : Int) == k) = false := by rw [beq_eq_false_iff_ne]; exact h
theorem quiet_add_left {P : Program} {f : FuncId} {args : Array Value} {w : World} {a n : Nat} {v : Value}
    (h : Calls P f args (w.drewN (a + n)) fun e w' => e = .returned v ∧ w.drewN (a + n) = w') :
    Calls P f args (w.drewN (a + n)) fun e w'' => e = .returned v ∧ ∃ m, w'' = w.drewN (a + m) :=
  h.mono fun _ _ ⟨he, hm⟩ => ⟨he, n, hm.symm⟩
theorem kindN_any (n : Nat) (w : World) : Calls Tryz.prog 198 #[.int .u8 (n : Int)] w fun e w' => e = .returned (.int .i64 (kindN n)) ∧ w = w' := by
  by_cases a1 : n = 32
  · subst a1; go_enter Tryz.func198, Tryz.ntmps198; go_wp2; go_ret; exact ⟨rfl, rfl⟩
  by_cases a2 : n = 9
  · subst a2; go_enter Tryz.func198, Tryz.ntmps198; go_wp2; go_ret; exact ⟨rfl, rfl⟩
  by_cases a3 : n = 10
  · subst a3; go_enter Tryz.func198, Tryz.ntmps198; go_wp2; go_ret; exact ⟨rfl, rfl⟩
  by_cases a4 : n = 35
  · subst a4; go_enter Tryz.func198, Tryz.ntmps198; go_wp2; go_ret; exact ⟨rfl, rfl⟩
  by_cases a5 : n = 45
  · subst a5; go_enter Tryz.func198, Tryz.ntmps198; go_wp2; go_ret; exact ⟨rfl, rfl⟩
  by_cases a6 : n = 95
  · subst a6; go_enter Tryz.func198, Tryz.ntmps198; go_wp2; go_ret; exact ⟨rfl, rfl⟩
  have b1 : ((n : Int) == 32) = false := ne_f (by omega)
  have b2 : ((n : Int) == 9) = false := ne_f (by omega)
  have b3 : ((n : Int) == 10) = false := ne_f (by omega)
  have b4 : ((n : Int) == 35) = false := ne_f (by omega)
  have b5 : ((n : Int) == 45) = false := ne_f (by omega)
  have b6 : ((n : Int) == 95) = false := ne_f (by omega)
  by_cases l1 : 97 ≤ n
  · by_cases l2 : n ≤ 122
    · have H : Hid (kindN n = 5) := HH (by unfold kindN; rw [if_neg (by omega), if_neg (by omega), if_neg (by omega), if_pos (by omega)])
      have c1 : (97 : Int) ≤ (n : Int) := by omega
      have c2 : (n : Int) ≤ 122 := by omega
      clear a1 a2 a3 a4 a5 a6
      go_enter Tryz.func198, Tryz.ntmps198
      go_wp2
      go_ret
      exact ⟨by rw [H.out]; rfl, rfl⟩
    · have H : Hid (kindN n = 0) := HH (by unfold kindN; rw [if_neg (by omega), if_neg (by omega), if_neg (by omega), if_neg (by omega), if_neg (by omega), if_neg (by omega)])
      have c1 : (97 : Int) ≤ (n : Int) := by omega
      have c2 : ¬ (n : Int) ≤ 122 := by omega
      have c3 : (48 : Int) ≤ (n : Int) := by omega
      have c4 : ¬ (n : Int) ≤ 57 := by omega
      clear a1 a2 a3 a4 a5 a6
      go_enter Tryz.func198, Tryz.ntmps198
      go_wp2
      go_ret
      exact ⟨by rw [H.out]; rfl, rfl⟩
  · have c1 : ¬ (97 : Int) ≤ (n : Int) := by omega
    by_cases d1 : 48 ≤ n
    · have c3 : (48 : Int) ≤ (n : Int) := by omega
      by_cases d2 : n ≤ 57
      · have H : Hid (kindN n = 6) := HH (by unfold kindN; rw [if_neg (by omega), if_neg (by omega), if_neg (by omega), if_neg (by omega), if_pos (by omega)])
        have c4 : (n : Int) ≤ 57 := by omega
        clear a1 a2 a3 a4 a5 a6
        go_enter Tryz.func198, Tryz.ntmps198
        go_wp2
        go_ret
        exact ⟨by rw [H.out]; rfl, rfl⟩
      · have H : Hid (kindN n = 0) := HH (by unfold kindN; rw [if_neg (by omega), if_neg (by omega), if_neg (by omega), if_neg (by omega), if_neg (by omega), if_neg (by omega)])
        have c4 : ¬ (n : Int) ≤ 57 := by omega
        clear a1 a2 a3 a4 a5 a6
        go_enter Tryz.func198, Tryz.ntmps198
        go_wp2
        go_ret
        exact ⟨by rw [H.out]; rfl, rfl⟩
    · have H : Hid (kindN n = 0) := HH (by unfold kindN; rw [if_neg (by omega), if_neg (by omega), if_neg (by omega), if_neg (by omega), if_neg (by omega), if_neg (by omega)])
      have c3 : ¬ (48 : Int) ≤ (n : Int) := by omega
      clear a1 a2 a3 a4 a5 a6
      go_enter Tryz.func198, Tryz.ntmps198
      go_wp2
      go_ret
      exact ⟨by rw [H.out]; rfl, rfl⟩
theorem kind_any (c : UInt8) (w : World) : Calls Tryz.prog 198 #[.int .u8 (c.toNat : Int)] w fun e w' => e = .returned (.int .i64 (kindOf c)) ∧ w = w' := kindN_any c.toNat w
/-- the cursor's cells -/
def curL (s : ByteArray) (pos line first : Nat) (v : Value) (e l c : Int) : List Value := [.string s, .int .i64 pos, .int .i64 line, .int .i64 first, v, .int .i64 e, .int .i64 l, .int .i64 c]
/-- the cursor's object is block B; its row of tokens is the call's own, from block n0 on -/
structure CurAt (w : World) (n0 B : Nat) (s : ByteArray) (pos line first : Nat) (toks : List Tok) : Prop where
  lo : n0 ≤ B
  posLe : pos ≤ s.size
  firstLe : first ≤ pos
  size : s.size ≤ 65536
  lineLe : line ≤ pos + 1
  count : toks.length + (if someT toks then 1 else 0) ≤ 2 * pos
  obj : ∃ v, Blk w B 244 (curL s pos line first v 0 0 0) ∧ w.ownsRow n0 282 5 v toks.length (tc toks)
theorem CurAt.after {w w' : World} {n0 B : Nat} {s : ByteArray} {pos line first : Nat} {toks : List Tok} (h : CurAt w n0 B s pos line first toks) (hb : Below w.heap.size w w') : CurAt w' n0 B s pos line first toks := by
  obtain ⟨v, h1, h2⟩ := h.obj
  exact ⟨h.lo, h.posLe, h.firstLe, h.size, h.lineLe, h.count, v, h1.after hb, own_after h2 hb⟩
/-- what comes behind the cursor -/
def rest (s : ByteArray) (pos : Nat) : List UInt8 := s.data.toList.drop pos
theorem rest_over {s : ByteArray} {pos : Nat} (h : s.size ≤ pos) : rest s pos = [] := List.drop_eq_nil_of_le (by simpa using h)
theorem rest_at {s : ByteArray} {pos : Nat} (h : pos < s.size) : rest s pos = s[pos] :: rest s (pos + 1) := List.drop_eq_getElem_cons (by simpa using h)
def QuietI (w : World) (n : Int) (e : Ending) (w' : World) : Prop := e = .returned (.int .i64 n) ∧ Below w.heap.size w w'
theorem next_cells (w : World) (B : Nat) (s : ByteArray) (pos : Nat) (hs : s.size ≤ 65536) (hp : pos ≤ s.size) (h0 : w.cell? ⟨B, 0, none⟩ = some (.string s)) (h1 : w.cell? ⟨B, 1, none⟩ = some (.int .i64 pos)) :
    Calls Tryz.prog 192 #[.pointer (some ⟨B, 0, none⟩)] w (QuietI w (nextK (rest s pos))) := by
  by_cases hlt : pos < s.size
  · have H : Hid (nextK (rest s pos) = kindOf s[pos]) := HH (by rw [rest_at hlt]; rfl)
    have hne : ((pos : Int) == (s.size : Int)) = false := by rw [beq_eq_false_iff_ne]; omega
    have hl : (pos : Int) < (s.size : Int) := by omega
    go_enter Tryz.func192, Tryz.ntmps192
    go_wp2
    go_quiet (fail)
    go_wp2
    go_quiet ((go_at_call 198; exact quiet_add_left (kind_any s[pos] _)))
    go_wp2
    go_ret
    exact ⟨ret_i (by rw [H.out]), below_drewN (below_drewN (Below.refl _ _) _) _⟩
  · have H : Hid (nextK (rest s pos) = 1) := HH (by rw [rest_over (by omega)]; rfl)
    obtain rfl : pos = s.size := by omega
    go_enter Tryz.func192, Tryz.ntmps192
    go_wp2
    go_quiet (fail)
    go_wp2
    go_ret
    exact ⟨ret_i (by rw [H.out]; rfl), below_drewN (Below.refl _ _) _⟩
/-- the cells of kinds -/
def kc (l : List Nat) : List Value := l.map fun (k : Nat) => Value.int .i64 (k : Int)
theorem kc_length (l : List Nat) : (kc l).length = l.length := by simp [kc]
theorem Rd.kinds {w : World} {S : Nat → Prop} {A : Option Addr} {ks : List Nat} (h : Rd w S A (kc ks)) {j : Nat} (hj : j < ks.length) : ∃ ad, A = some ad ∧ w.cell? (ad.add j) = some (.int .i64 ((ks.getD j 0 : Nat) : Int)) := by
  obtain ⟨ad, e, hb, hc⟩ := h (by rw [kc_length]; omega)
  exact ⟨ad, e, hc j _ (by simp [kc, List.getD_eq_getElem?_getD, List.getElem?_eq_getElem hj])⟩
def inKs (ks : List Nat) (k : Nat) : Bool := ks.contains k
def IdxPost (ks : List Nat) (k : Nat) (w : World) (e : Ending) (w' : World) : Prop := (∃ i : Int, e = .returned (.int .i64 i) ∧ inKs ks k = decide (0 ≤ i)) ∧ w = w'
theorem inKs_yes {ks : List Nat} {k j : Nat} (hj : j < ks.length) (h : ks.getD j 0 = k) : inKs ks k = true := by
  unfold inKs
  rw [List.contains_iff_mem]
  rw [List.getD_eq_getElem?_getD, List.getElem?_eq_getElem hj] at h
  exact h ▸ List.getElem_mem hj
theorem inKs_no {ks : List Nat} {k : Nat} (h : ∀ i, i < ks.length → ks.getD i 0 ≠ k) : inKs ks k = false := by
  unfold inKs
  rw [Bool.eq_false_iff]
  intro hc
  rw [List.contains_iff_mem] at hc
  obtain ⟨i, hi, e⟩ := List.mem_iff_getElem.1 hc
  have := h i hi
  rw [List.getD_eq_getElem?_getD, List.getElem?_eq_getElem hi] at this
  exact this e
theorem index_any (ks : List Nat) (k : Nat) (w : World) (A : Option Addr) (n c : Nat) (hn : Hid (n = ks.length)) (hN : n ≤ 100) (hr : Rd w (fun _ => True) A (kc ks)) :
    Calls Tryz.prog 205 #[.slice A n c, .int .i64 (k : Int)] w (IdxPost ks k w) := by
  have HR := HH hr
  clear hr
  go_enter Tryz.func205, Tryz.ntmps205
  go_wp2
  go_loop [8] (fun v => ∃ j : Nat, v = .int .i64 j ∧ j ≤ n ∧ Hid (∀ i, i < j → ks.getD i 0 ≠ k)) (fun v => n - (intOf v).toNat)
  case atStart => exact ⟨0, rfl, by omega, HH (fun i h => by omega)⟩
  case round =>
    obtain ⟨j, rfl, hj, HA⟩ := hrel
    by_cases hlt : j < n
    · obtain ⟨ad, rfl, hc⟩ := HR.out.kinds (j := j) (by rw [← hn.out]; exact hlt)
      have hi : (j : Int) < (n : Int) := by omega
      by_cases he : ks.getD j 0 = k
      · have H : Hid (inKs ks k = true) := HH (inKs_yes (by rw [← hn.out]; exact hlt) he)
        rw [he] at hc
        clear he
        go_wp2
        go_ret
        exact ⟨⟨_, rfl, by rw [H.out]; exact (decide_eq_true (by omega)).symm⟩, rfl⟩
      · obtain ⟨q, hq⟩ : ∃ q, q = ks.getD j 0 := ⟨_, rfl⟩
        rw [← hq] at hc
        have hne : ((k : Int) == (q : Int)) = false := ne_f (by intro e; apply he; rw [← hq]; omega)
        have HQ := HH hq
        have HE := HH he
        clear he hq
        go_wp2
        go_round
        case rel => exact ⟨j + 1, by go_num, by omega, HH (fun i h => by
          rcases Nat.lt_or_ge i j with h' | h'
          · exact HA.out i h'
          · obtain rfl : i = j := by omega
            exact HE.out)⟩
        case measure => simp [intOf]; omega
    · have H : Hid (inKs ks k = false) := HH (inKs_no (fun i h => HA.out i (by have := hn.out; omega)))
      have hi : ¬ (j : Int) < (n : Int) := by omega
      go_wp2
      go_ret
      exact ⟨⟨_, rfl, by rw [H.out]; rfl⟩, rfl⟩
theorem contains_any (ks : List Nat) (k : Nat) (w : World) (A : Option Addr) (n c : Nat) (hn : Hid (n = ks.length)) (hN : n ≤ 100) (hr : Rd w (fun _ => True) A (kc ks)) :
    Calls Tryz.prog 199 #[.slice A n c, .int .i64 (k : Int)] w fun e w' => e = .returned (.bool (inKs ks k)) ∧ w = w' := by
  have HR := HH hr
  clear hr
  go_enter Tryz.func199, Tryz.ntmps199
  go_wp2_with (go_at_call 205; refine (index_any ks k _ A n c hn hN HR.out).mono ?_; rintro e w' ⟨⟨i, rfl, hi⟩, rfl⟩; have HI := HH hi; clear hi)
  go_ret
  exact ⟨ret_b HI.out, rfl⟩
section
variable {w w' : World} {n0 B : Nat} {s : ByteArray} {pos line first : Nat} {toks : List Tok}
theorem CurAt.c0 (h : CurAt w n0 B s pos line first toks) : w.cell? ⟨B, 0, none⟩ = some (.string s) := by obtain ⟨v, h1, _⟩ := h.obj; exact h1.cell 0
theorem CurAt.c1 (h : CurAt w n0 B s pos line first toks) : w.cell? ⟨B, 1, none⟩ = some (.int .i64 (pos : Int)) := by obtain ⟨v, h1, _⟩ := h.obj; exact h1.cell 1
theorem CurAt.fr (h : CurAt w n0 B s pos line first toks) (i : Nat) : w.frozen? ⟨B, i, none⟩ = false := by obtain ⟨v, h1, _⟩ := h.obj; exact h1.frozen i
theorem CurAt.lt (h : CurAt w n0 B s pos line first toks) : B < w.heap.size := by obtain ⟨v, h1, _⟩ := h.obj; exact h1.lt
theorem CurAt.base (h : CurAt w n0 B s pos line first toks) : n0 ≤ w.heap.size := by have := h.lo; have := h.lt; omega
theorem own_not {v : Value} {n : Nat} {xs l : List Value} {t : TypeId} (h : w.ownsRow n0 282 5 v n xs) (hb : Blk w B t l) (ht : t ≠ 282) : v.ownBlock ≠ some B := by
  rcases h.2 with ⟨rfl, _⟩ | ⟨g, cap, cur, rfl, _, hg, _⟩
  · simp [Value.ownBlock]
  · intro e
    simp only [Value.ownBlock, Option.some.injEq] at e
    subst e
    unfold Blk at hb
    rw [hg] at hb
    injection hb with hb
    injection hb with _ hb
    exact ht hb.symm
/-- a number is written into the cursor -/
theorem CurAt.wrote (h : CurAt w n0 B s pos line first toks) {pos' line' first' : Nat} (i : Nat) (u : Value) (hl : ∀ v, (curL s pos line first v 0 0 0).set i u = curL s pos' line' first' v 0 0 0)
    (h1 : pos' ≤ s.size) (h2 : first' ≤ pos') (h3 : line' ≤ pos' + 1) (h4 : pos ≤ pos') : CurAt (w.setCell ⟨B, i, none⟩ u) n0 B s pos' line' first' toks := by
  obtain ⟨v, k1, k2⟩ := h.obj
  have hc := h.count
  refine ⟨h.lo, h1, h2, h.size, h3, by omega, v, ?_, ?_⟩
  · have := k1.set_ i u
    rwa [hl] at this
  · exact ownsRow_setCell_other k2 (own_not k2 k1 (by decide)) u
theorem CurAt.step (h : CurAt w n0 B s pos line first toks) (hp : pos < s.size) {u : Value} (hu : u = .int .i64 ((pos + 1 : Nat) : Int)) : CurAt (w.setCell ⟨B, 1, none⟩ u) n0 B s (pos + 1) line first toks := by
  subst hu
  exact h.wrote 1 _ (fun v => rfl) (by omega) (by have := h.firstLe; omega) (by have := h.lineLe; omega) (by omega)
theorem CurAt.store (h : CurAt w n0 B s pos line first toks) {a : World} (hb : Below n0 a w) (i : Nat) (u : Value) : Below n0 a (w.setCell ⟨B, i, none⟩ u) := hb.setCell h.lo u
end
theorem next_any {w : World} {n0 B : Nat} {s : ByteArray} {pos line first : Nat} {toks : List Tok} (h : CurAt w n0 B s pos line first toks) :
    Calls Tryz.prog 192 #[.pointer (some ⟨B, 0, none⟩)] w (QuietI w (nextK (rest s pos))) := next_cells w B s pos h.size h.posLe h.c0 h.c1
/-- how far bytes of some kinds go -/
def passP (ks : List Nat) (c : UInt8) : Bool := inKs ks (kindOf c)
def runN (ks : List Nat) (s : ByteArray) (pos : Nat) : Nat := ((rest s pos).takeWhile (passP ks)).length
theorem rest_len (s : ByteArray) (pos : Nat) : (rest s pos).length = s.size - pos := by simp [rest]
theorem run_le (ks : List Nat) (s : ByteArray) (pos : Nat) (h : pos ≤ s.size) : pos + runN ks s pos ≤ s.size := by
  have h1 : runN ks s pos ≤ (rest s pos).length := (List.takeWhile_prefix _).length_le
  rw [rest_len] at h1; omega
theorem rest_add (s : ByteArray) (a b : Nat) : rest s (a + b) = (rest s a).drop b := by simp [rest, List.drop_drop]
theorem run_kin {ks : List Nat} (l : List UInt8) : ∀ j, j < (l.takeWhile (passP ks)).length → inKs ks (nextK (l.drop j)) = true := by
  induction l with
  | nil => intro j h; simp at h
  | cons c r ih =>
    intro j h
    by_cases hc : passP ks c = true
    · rw [List.takeWhile_cons_of_pos hc] at h
      cases j with
      | zero => exact hc
      | succ j => exact ih j (by simpa using h)
    · rw [List.takeWhile_cons_of_neg hc] at h; simp at h
theorem run_out {ks : List Nat} (h1 : inKs ks 1 = false) (l : List UInt8) : inKs ks (nextK (l.drop (l.takeWhile (passP ks)).length)) = false := by
  induction l with
  | nil => exact h1
  | cons c r ih =>
    by_cases hc : passP ks c = true
    · rw [List.takeWhile_cons_of_pos hc]; exact ih
    · rw [List.takeWhile_cons_of_neg hc]
      show passP ks c = false
      simpa using hc
theorem take_run (p : UInt8 → Bool) (l : List UInt8) : l.take (l.takeWhile p).length = l.takeWhile p := by
  induction l with
  | nil => rfl
  | cons c r ih =>
    by_cases hc : p c = true
    · rw [List.takeWhile_cons_of_pos hc]; simp [ih]
    · rw [List.takeWhile_cons_of_neg hc]; rfl
def PassPost (ks : List Nat) (w : World) (n0 B : Nat) (s : ByteArray) (pos line first : Nat) (toks : List Tok) (e : Ending) (w' : World) : Prop :=
  e = .returned (.string (s.extract pos (pos + runN ks s pos))) ∧ CurAt w' n0 B s (pos + runN ks s pos) line first toks ∧ Below n0 w w'
def PassRel (ks : List Nat) (w : World) (n0 B gk : Nat) (s : ByteArray) (pos line first : Nat) (toks : List Tok) (k : Nat) (wr : World) : Prop :=
  ∃ j, j ≤ runN ks s pos ∧ k = runN ks s pos - j ∧ CurAt wr n0 B s (pos + j) line first toks ∧ Blk wr gk 245 (kc ks) ∧ Below n0 w wr
theorem kinds_rd {w : World} {gk : Nat} {ks : List Nat} (h : Blk w gk 245 (kc ks)) : Rd w (fun _ => True) (some ⟨gk, 0, none⟩) (kc ks) := h.rd trivial 0
end Go.Proofs.YtfefnfifeaihhaaGreat.Lx
namespace Go.Proofs.YtfefnfifeaihhaaGreat.Lx
open Go.ChangeShapes Go.WideShapes Go.ChangeAt Go.RowKit
theorem pass_any (ks : List Nat) (hk1 : inKs ks 1 = false) (n : Nat) (hn : Hid (n = ks.length)) (hN : n ≤ 100) {w : World} {n0 B gk : Nat} {s : ByteArray} {pos line first : Nat} {toks : List Tok} (h : CurAt w n0 B s pos line first toks)
    (hk : Blk w gk 245 (kc ks)) :
    Calls Tryz.prog 193 #[.pointer (some ⟨B, 0, none⟩), .slice (some ⟨gk, 0, none⟩) n n] w (PassPost ks w n0 B s pos line first toks) := by
  have HS : Hid (PassRel ks w n0 B gk s pos line first toks (runN ks s pos) w) := HH ⟨0, by omega, by omega, h, hk, Below.refl _ _⟩
  have c1 := h.c1
  have HK1 := HH hk1
  have HR := HH (run_le ks s pos h.posLe)
  have HZ := HH h.size
  have HG : Hid (gk ≠ B) := HH (fun e => by
    obtain ⟨v, hv, _⟩ := h.obj
    subst e
    unfold Blk at hk hv
    rw [hk] at hv
    injection hv with hv
    injection hv with _ hv
    exact absurd hv (by decide))
  clear h hk hk1
  go_enter Tryz.func193, Tryz.ntmps193
  go_wp2
  go_loopg [] (runN ks s pos) (fun k wr => PassRel ks w n0 B gk s pos line first toks k wr)
  case atStart => exact HS.out
  case round =>
    obtain ⟨j, hj, hgk, hcur, hkk, hbel⟩ := hrel
    have HJ := HH hgk
    have HC := HH hcur
    have HKK := HH hkk
    have HB := HH hbel
    have hsz := HZ.out
    have hpm := HR.out
    clear hgk hcur hkk hbel
    by_cases hlt : j < runN ks s pos
    · have HY : Hid (inKs ks (nextK (rest s (pos + j))) = true) := HH (by rw [rest_add]; exact run_kin _ j hlt)
      go_wp2_with (first
        | (go_at_call 192; refine (next_any HC.out).mono ?_; rintro e w1 ⟨rfl, hb1⟩; have HB1 := HH hb1; clear hb1; have HC1 := HH (HC.out.after HB1.out); have HK2 := HH (HKK.out.after HB1.out); have d1 := HC1.out.c1; have f1 := HC1.out.fr 1)
        | (go_at_call 199; refine (contains_any ks _ _ _ n n hn hN (kinds_rd HK2.out)).mono ?_; rintro e w2 ⟨rfl, rfl⟩; rw [HY.out]))
      go_roundg (runN ks s pos - (j + 1))
      case rel => exact ⟨j + 1, by omega, rfl, HC1.out.step (by omega) (by go_num), HK2.out.far HG.out _, HC1.out.store (below_then HB.out HB1.out HC.out.base) 1 _⟩
      case measure => have := HJ.out; omega
    · obtain rfl : j = runN ks s pos := by omega
      have hy : inKs ks (nextK (rest s (pos + runN ks s pos))) = false := by rw [rest_add]; exact run_out HK1.out _
      obtain ⟨q, hq⟩ : ∃ q, q = pos + runN ks s pos := ⟨_, rfl⟩
      have HQ := HH hq
      rw [← hq] at hy HC hpm
      have HY := HH hy
      have hle : (pos : Int) ≤ (q : Int) := by omega
      have hle2 : (q : Int) ≤ (s.size : Int) := by omega
      have hle3 : pos ≤ q := by omega
      clear hy hq
      go_wp2_with (first
        | (go_at_call 192; refine (next_any HC.out).mono ?_; rintro e w1 ⟨rfl, hb1⟩; have HB1 := HH hb1; clear hb1; have HC1 := HH (HC.out.after HB1.out); have HK2 := HH (HKK.out.after HB1.out); have d1 := HC1.out.c1; have d0 := HC1.out.c0; have f1 := HC1.out.fr 1)
        | (go_at_call 199; refine (contains_any ks _ _ _ n n hn hN (kinds_rd HK2.out)).mono ?_; rintro e w2 ⟨rfl, rfl⟩; rw [HY.out]))
      go_quiet (fail)
      go_wp2
      go_ret
      have hq := HQ.out
      unfold PassPost
      rw [← hq]
      exact ⟨rfl, HC1.out.after (below_drewN (Below.refl _ _) _), below_drewN (below_then HB.out HB1.out HC.out.base) _⟩
end Go.Proofs.YtfefnfifeaihhaaGreat.Lx
namespace Go.Proofs.YtfefnfifeaihhaaGreat.Lx
open Go.ChangeShapes Go.WideShapes Go.ChangeAt Go.RowKit
end Go.Proofs.YtfefnfifeaihhaaGreat.Lx
namespace Go.Proofs.YtfefnfifeaihhaaGreat.Lx
open Go.ChangeShapes Go.WideShapes Go.ChangeAt Go.RowKit
theorem reserved_lit (l : List UInt8) (h : l ∈ reservedL) (w : World) : Calls Tryz.prog 191 #[.string ⟨l.toArray⟩] w fun e w' => e = .returned (.bool true) ∧ w = w' := by
  simp only [reservedL, List.mem_cons, List.not_mem_nil, or_false] at h
  rcases h with rfl | rfl | rfl | rfl | rfl | rfl | rfl | rfl | rfl | rfl | rfl | rfl | rfl | rfl | rfl
  all_goals
    go_enter Tryz.func191, Tryz.ntmps191
    go_wp2
    go_ret
    exact ⟨rfl, rfl⟩
theorem ne_lit {s : ByteArray} {l : List UInt8} (h : s.data.toList ≠ l) : (s.toList == l) = false := by rw [ByteArray.toList_eq, beq_eq_false_iff_ne]; exact h
theorem reserved_no (s : ByteArray) (h : isRes s.data.toList = false) (w : World) : Calls Tryz.prog 191 #[.string s] w fun e w' => e = .returned (.bool false) ∧ w = w' := by
  have hm : ∀ l ∈ reservedL, (s.toList == l) = false := fun l hl => ne_lit (fun e => by
    have : reservedL.contains s.data.toList = true := by rw [e]; exact List.contains_iff_mem.2 hl
    unfold isRes at h; rw [this] at h; cases h)
  simp only [reservedL, List.mem_cons, List.not_mem_nil, or_false, forall_eq_or_imp, forall_eq] at hm
  obtain ⟨h1, h2, h3, h4, h5, h6, h7, h8, h9, h10, h11, h12, h13, h14, h15⟩ := hm
  clear h
  go_enter Tryz.func191, Tryz.ntmps191
  go_wp2
  go_ret
  exact ⟨rfl, rfl⟩
theorem reserved_any (s : ByteArray) (w : World) : Calls Tryz.prog 191 #[.string s] w fun e w' => e = .returned (.bool (isRes s.data.toList)) ∧ w = w' := by
  cases h : isRes s.data.toList with
  | false => exact reserved_no s h w
  | true => exact reserved_lit s.data.toList (List.contains_iff_mem.1 h) w
end Go.Proofs.YtfefnfifeaihhaaGreat.Lx
namespace Go.Proofs.YtfefnfifeaihhaaGreat.Lx
open Go.ChangeShapes Go.WideShapes Go.ChangeAt Go.RowKit
section
variable {w : World} {n0 B : Nat} {s : ByteArray} {pos line first : Nat} {toks : List Tok}
end
end Go.Proofs.YtfefnfifeaihhaaGreat.Lx
namespace Go.Proofs.YtfefnfifeaihhaaGreat.Lx
open Go.ChangeShapes Go.WideShapes Go.ChangeAt Go.RowKit
theorem passP_more : passP [5, 6, 7] = isMore := by
  funext c
  simp only [passP, inKs, isMore, List.contains_cons, List.contains_nil, Bool.or_false]
  cases h5 : (kindOf c == 5) <;> cases h6 : (kindOf c == 6) <;> cases h7 : (kindOf c == 7) <;> rfl
theorem ext_run (ks : List Nat) (s : ByteArray) (pos : Nat) : (s.extract pos (pos + runN ks s pos)).data.toList = (rest s pos).takeWhile (passP ks) := by
  rw [Tk.ext_data, List.drop_take, Nat.add_sub_cancel_left]
  exact take_run _ _
section
variable {w : World} {n0 B : Nat} {s : ByteArray} {pos line first : Nat} {toks : List Tok}
end
end Go.Proofs.YtfefnfifeaihhaaGreat.Lx
namespace Go.Proofs.YtfefnfifeaihhaaGreat.Lx
open Go.ChangeShapes Go.WideShapes Go.ChangeAt Go.RowKit
section
variable {w : World} {n0 B : Nat} {s : ByteArray} {pos line first : Nat} {toks : List Tok}
end
end Go.Proofs.YtfefnfifeaihhaaGreat.Lx
namespace Go.Proofs.YtfefnfifeaihhaaGreat.Lx
open Go.ChangeShapes Go.WideShapes Go.ChangeAt Go.RowKit
section
variable {w : World} {n0 B : Nat} {s : ByteArray} {pos line first : Nat} {toks : List Tok}
end
end Go.Proofs.YtfefnfifeaihhaaGreat.Lx
namespace Go.Proofs.YtfefnfifeaihhaaGreat.Lx
open Go.ChangeShapes Go.WideShapes Go.ChangeAt Go.RowKit
section
variable {w : World} {n0 B : Nat} {s : ByteArray} {R : Res}
end
end Go.Proofs.YtfefnfifeaihhaaGreat.Lx
namespace Go.Proofs.YtfefnfifeaihhaaGreat.Lx
open Go.ChangeShapes Go.WideShapes Go.ChangeAt Go.RowKit
def nameB (l : List UInt8) : Bool := decide (l.length ≤ 24) && (!isRes l && (nextK l == 5 && l.all isMore))
def NamePost (w : World) (b : Bool) (e : Ending) (w' : World) : Prop := e = .returned (.bool b) ∧ Below w.heap.size w w'
theorem tw_eq (l : List UInt8) : (l.takeWhile isMore == l) = l.all isMore := by
  induction l with
  | nil => rfl
  | cons c r ih =>
    by_cases hc : isMore c = true
    · rw [List.takeWhile_cons_of_pos hc, List.all_cons, hc, Bool.true_and, ← ih]
      simp
    · rw [List.takeWhile_cons_of_neg hc, List.all_cons]
      have : isMore c = false := by simpa using hc
      rw [this]; rfl
theorem name_long (s : ByteArray) (hs : 24 < s.size) (w : World) : Calls Tryz.prog 179 #[.string s] w (NamePost w (nameB s.data.toList)) := by
  have H : Hid (nameB s.data.toList = false) := HH (by unfold nameB; rw [← Lib.size_eq, decide_eq_false (by omega)]; rfl)
  have h : (24 : Int) < (s.size : Int) := by omega
  rw [H.out]
  go_enter Tryz.func179, Tryz.ntmps179
  go_wp2
  go_ret
  exact ⟨rfl, Below.refl _ _⟩
theorem name_res (s : ByteArray) (hs : s.size ≤ 24) (hr : isRes s.data.toList = true) (w : World) : Calls Tryz.prog 179 #[.string s] w (NamePost w (nameB s.data.toList)) := by
  have H : Hid (nameB s.data.toList = false) := HH (by unfold nameB; rw [hr]; simp)
  have HR := HH hr
  have h : ¬ (24 : Int) < (s.size : Int) := by omega
  rw [H.out]
  clear hr
  go_enter Tryz.func179, Tryz.ntmps179
  go_wp2_with (go_at_call 191; refine (reserved_any s _).mono ?_; rintro e w1 ⟨rfl, rfl⟩; rw [HR.out])
  go_ret
  exact ⟨rfl, Below.refl _ _⟩
theorem name_cur (s : ByteArray) (hs : s.size ≤ 24) (w : World) : CurAt (w.alloc (.cells #[.string s, .int .i64 0, .int .i64 0, .int .i64 0, .slice none 0 0, .int .i64 0, .int .i64 0, .int .i64 0] 244)) w.heap.size w.heap.size s 0 0 0 [] :=
  ⟨Nat.le_refl _, Nat.zero_le _, Nat.le_refl _, by omega, by omega, by simp [someT_nil], _, Blk.new w 244 (curL s 0 0 0 (.slice none 0 0) 0 0 0), World.ownsRow_nil _ _ _ _⟩
theorem name_no (s : ByteArray) (hs : s.size ≤ 24) (hr : isRes s.data.toList = false) (hk : nextK s.data.toList ≠ 5) (w : World) : Calls Tryz.prog 179 #[.string s] w (NamePost w (nameB s.data.toList)) := by
  have H : Hid (nameB s.data.toList = false) := HH (by unfold nameB; rw [beq_eq_false_iff_ne.2 hk]; simp)
  have HR := HH hr
  have HC := HH (name_cur s hs w)
  have h : ¬ (24 : Int) < (s.size : Int) := by omega
  obtain ⟨k, hkk⟩ : ∃ k, k = nextK s.data.toList := ⟨_, rfl⟩
  have HK : Hid (nextK (rest s 0) = k) := HH (by rw [hkk]; simp [rest])
  have hne : ((k : Int) == 5) = false := ne_f (by omega)
  rw [H.out]
  clear hr hk hkk
  go_enter Tryz.func179, Tryz.ntmps179
  go_wp2_with (first
    | (go_at_call 191; refine (reserved_any s _).mono ?_; rintro e w1 ⟨rfl, rfl⟩; rw [HR.out])
    | (go_at_call 192; refine (next_any HC.out).mono ?_; rintro e w1 ⟨rfl, hb1⟩; rw [HK.out]; have HB1 := HH hb1; clear hb1))
  go_ret
  exact ⟨rfl, ((Below.refl _ _).alloc (Nat.le_refl _) _).trans (HB1.out.mono (by simp))⟩
theorem name_yes (s : ByteArray) (hs : s.size ≤ 24) (hr : isRes s.data.toList = false) (hk : nextK s.data.toList = 5) (w : World) : Calls Tryz.prog 179 #[.string s] w (NamePost w (nameB s.data.toList)) := by
  have hl : s.data.toList.length ≤ 24 := by rw [← Lib.size_eq]; exact hs
  have H : Hid (nameB s.data.toList = s.data.toList.all isMore) := HH (by unfold nameB; rw [hr, hk, decide_eq_true hl]; simp)
  have HR := HH hr
  have HC := HH (name_cur s hs w)
  have h : ¬ (24 : Int) < (s.size : Int) := by omega
  have HK : Hid (nextK (rest s 0) = 5) := HH (by rw [← hk]; simp [rest])
  rw [H.out]
  obtain ⟨T, hT⟩ : ∃ T, T = s.extract 0 (0 + runN [5, 6, 7] s 0) := ⟨_, rfl⟩
  have hTd : T.data.toList = s.data.toList.takeWhile isMore := by rw [hT, ext_run, passP_more]; simp [rest]
  have HQ : Hid ((T.toList == s.toList) = s.data.toList.all isMore) := HH (by rw [ByteArray.toList_eq, ByteArray.toList_eq, hTd]; exact tw_eq _)
  have HT := HH hT
  clear hr hk hl hT hTd
  go_enter Tryz.func179, Tryz.ntmps179
  go_wp2_with (first
    | (go_at_call 191; refine (reserved_any s _).mono ?_; rintro e w1 ⟨rfl, rfl⟩; rw [HR.out])
    | (go_at_call 192; refine (next_any HC.out).mono ?_; rintro e w1 ⟨rfl, hb1⟩; rw [HK.out]; have HB1 := HH hb1; clear hb1)
    | (go_at_call 193; refine (pass_any [5, 6, 7] rfl 3 rfl (by omega) ((HC.out.after HB1.out).after ((Below.refl _ w1).alloc (Nat.le_refl _) (.cells #[.int .i64 5, .int .i64 6, .int .i64 7] 245))) (gk := w1.heap.size) (Blk.new w1 _ [.int .i64 5, .int .i64 6, .int .i64 7])).mono ?_; rintro e w2 ⟨rfl, -, hb2⟩; rw [← HT.out]; have HB2 := HH hb2; clear hb2))
  go_ret
  exact ⟨ret_b HQ.out.symm, (((Below.refl _ _).alloc (Nat.le_refl _) _).trans (HB1.out.mono (by simp))).trans ((((Below.refl _ w1).alloc (Nat.le_refl _) _).mono (Nat.le_trans (by simp) HB1.out.size)).trans HB2.out)⟩
theorem name_any (s : ByteArray) (w : World) : Calls Tryz.prog 179 #[.string s] w (NamePost w (nameB s.data.toList)) := by
  by_cases hs : 24 < s.size
  · exact name_long s hs w
  · cases hr : isRes s.data.toList with
    | true => exact name_res s (by omega) hr w
    | false =>
      by_cases hk : nextK s.data.toList = 5
      · exact name_yes s (by omega) hr hk w
      · exact name_no s (by omega) hr hk w
end Go.Proofs.YtfefnfifeaihhaaGreat.Lx
namespace Go.Proofs.YtfefnfifeaihhaaGreat.Lx
open Go.ChangeShapes Go.WideShapes Go.ChangeAt Go.RowKit
end Go.Proofs.YtfefnfifeaihhaaGreat.Lx
namespace Go.Proofs.YtfefnfifeaihhaaGreat.Sh
open Go.ChangeShapes Go.WideShapes Go.ChangeAt Go.RowKit
open Lx
theorem rd_later {w w' : World} {A : Option Addr} {xs : List Value} (h : Rd w (· < w.heap.size) A xs) (hb : Below w.heap.size w w') : Rd w' (· < w'.heap.size) A xs :=
  (h.below hb).more fun b h1 => by have := hb.size; omega
theorem one_box (w : World) (o : Obj) : Below w.heap.size w (w.alloc o) := (Below.refl _ _).alloc (Nat.le_refl _) _
theorem two_box (w : World) (o p : Obj) : Below w.heap.size w ((w.alloc o).alloc p) := ((Below.refl _ _).alloc (Nat.le_refl _) _).alloc (by simp) _
/-- of what was there only blocks of X are changed -/
structure Ch (X : Nat → Prop) (w w' : World) : Prop where
  os : w'.os = w.os
  tape : w'.tape = w.tape
  output : w'.output = w.output
  size : w.heap.size ≤ w'.heap.size
  block : ∀ k, k < w.heap.size → ¬ X k → w'.heap[k]? = w.heap[k]?
section
variable {X Y : Nat → Prop} {w w' w'' : World}
theorem Ch.refl (X : Nat → Prop) (w : World) : Ch X w w := ⟨rfl, rfl, rfl, Nat.le_refl _, fun _ _ _ => rfl⟩
theorem Ch.trans (h : Ch X w w') (k : Ch X w' w'') : Ch X w w'' :=
  ⟨k.os.trans h.os, k.tape.trans h.tape, k.output.trans h.output, Nat.le_trans h.size k.size, fun i hi hx => (k.block i (Nat.lt_of_lt_of_le hi h.size) hx).trans (h.block i hi hx)⟩
theorem Ch.trans' (h : Ch X w w') (k : Ch Y w' w'') (hy : ∀ i, i < w.heap.size → Y i → X i) : Ch X w w'' :=
  ⟨k.os.trans h.os, k.tape.trans h.tape, k.output.trans h.output, Nat.le_trans h.size k.size, fun i hi hx => (k.block i (Nat.lt_of_lt_of_le hi h.size) (fun e => hx (hy i hi e))).trans (h.block i hi hx)⟩
theorem Ch.mono (h : Ch X w w') (hx : ∀ k, k < w.heap.size → X k → Y k) : Ch Y w w' := ⟨h.os, h.tape, h.output, h.size, fun k hk hy => h.block k hk (fun e => hy (hx k hk e))⟩
theorem Ch.of_below (h : Below w.heap.size w w') : Ch X w w' := ⟨h.os, h.tape, h.output, h.size, fun k hk _ => h.block k hk⟩
theorem Ch.of_grown {row : Option Nat} (h : w.grownBy w' row) (hx : ∀ k, some k = row → X k) : Ch X w w' := ⟨h.os, h.tape, h.output, h.size, fun k hk hn => h.block k hk (fun e => hn (hx k e))⟩
theorem Ch.alloc (h : Ch X w w') (o : Obj) : Ch X w (w'.alloc o) := h.trans (.of_below (one_box _ _))
theorem Ch.setCell (h : Ch X w w') {p : Addr} (hp : X p.block ∨ w.heap.size ≤ p.block) (u : Value) : Ch X w (w'.setCell p u) :=
  ⟨h.os, h.tape, h.output, by simpa [World.setCell] using h.size, fun k hk hx => (Below.heap_setCell _ _ _ _ (by rintro rfl; rcases hp with hp | hp; exact hx hp; omega)).trans (h.block k hk hx)⟩
theorem Ch.drew (h : Ch X w w') : Ch X w w'.drew := ⟨h.os, h.tape, h.output, h.size, h.block⟩
theorem Ch.below (h : Ch X w w') {B : Nat} (hB : B ≤ w.heap.size) (hx : ∀ k, X k → B ≤ k) : Below B w w' := ⟨h.os, h.tape, h.output, h.size, fun k hk => h.block k (by omega) (fun e => by have := hx k e; omega)⟩
theorem Ch.blk {g : Nat} {t : TypeId} {l : List Value} (h : Ch X w w') (hb : Blk w g t l) (hx : ¬ X g) : Blk w' g t l := (h.block g hb.lt hx).trans hb
theorem Ch.own {base e size n : Nat} {v : Value} {xs : List Value} (h : Ch X w w') (ho : w.ownsRow base e size v n xs) (hx : ∀ k, v.ownBlock = some k → ¬ X k) : w'.ownsRow base e size v n xs := by
  refine ⟨ho.1, ?_⟩
  rcases ho.2 with hn | ⟨g, cap, cur, rfl, hb, hgg, rest⟩
  · exact .inl hn
  · exact .inr ⟨g, cap, cur, rfl, hb, (h.block g (Array.getElem?_eq_some_iff.1 hgg).1 (hx g rfl)).trans hgg, rest⟩
end
/-- rows of unlike things lie in unlike blocks -/
theorem own_ne {w : World} {b b' e e' size size' n n' : Nat} {v v' : Value} {xs xs' : List Value} (h : w.ownsRow b e size v n xs) (h' : w.ownsRow b' e' size' v' n' xs') (he : e ≠ e') :
    ∀ k, v.ownBlock = some k → v'.ownBlock ≠ some k := by
  intro k hk hk'
  rcases h.2 with ⟨rfl, _⟩ | ⟨g, cap, cur, rfl, _, hg, _⟩
  · cases hk
  rcases h'.2 with ⟨rfl, _⟩ | ⟨g', cap', cur', rfl, _, hg', _⟩
  · cases hk'
  · simp [Value.ownBlock] at hk hk'
    subst hk; subst hk'
    rw [hg] at hg'
    injection hg' with hg'
    injection hg' with _ h2
    exact he h2
theorem own_ne_blk {w : World} {b e t size n g : Nat} {v : Value} {xs l : List Value} (h : w.ownsRow b e size v n xs) (h' : Blk w g t l) (he : e ≠ t) : ∀ k, v.ownBlock = some k → k ≠ g := by
  rintro k hk rfl
  rcases h.2 with ⟨rfl, _⟩ | ⟨g', cap, cur, rfl, _, hg, _⟩
  · cases hk
  · simp [Value.ownBlock] at hk
    subst hk
    unfold Blk at h'
    rw [hg] at h'
    injection h' with h'
    injection h' with _ h2
    exact he h2
end Go.Proofs.YtfefnfifeaihhaaGreat.Sh
namespace Go.Proofs.YtfefnfifeaihhaaGreat.Sh
open Go.ChangeShapes Go.WideShapes Go.ChangeAt Go.RowKit
open Lx
end Go.Proofs.YtfefnfifeaihhaaGreat.Sh
namespace Go.Proofs.YtfefnfifeaihhaaGreat.Sh
open Go.ChangeShapes Go.WideShapes Go.ChangeAt Go.RowKit
open Lx
theorem ch_set (w : World) (n o : Nat) (u : Value) : Ch (· = n) w (w.setCell ⟨n, o, none⟩ u) := (Ch.refl (· = n) w).setCell (p := ⟨n, o, none⟩) (.inl rfl) u
abbrev tmV (t : TimesM) : Value := .agg #[.int .i64 t.frm, .int .i64 t.every, .int .i64 t.len]
end Go.Proofs.YtfefnfifeaihhaaGreat.Sh
namespace Go.Proofs.YtfefnfifeaihhaaGreat.Sh
open Go.ChangeShapes Go.WideShapes Go.ChangeAt Go.RowKit
open Lx
abbrev str (s : List UInt8) : Value := .string ⟨s.toArray⟩
abbrev i64 (n : Int) : Value := .int .i64 n
abbrev paV (p : PathM) : Value := .agg #[str p.name, str p.a, str p.b, i64 p.len]
abbrev doV (p : DoorM) : Value := .agg #[str p.name, str p.a, str p.b, i64 p.len, i64 p.times.frm, i64 p.times.every, i64 p.times.len]
abbrev trV (p : TripM) : Value := .agg #[str p.name, str p.route, i64 p.frm, i64 p.every, i64 p.til]
abbrev haV (p : HazM) : Value := .agg #[str p.name, str p.at_, i64 p.times.frm, i64 p.times.every, i64 p.times.len]
def paC (p : PathM) : List Value := [str p.name, str p.a, str p.b, i64 p.len]
def doC (p : DoorM) : List Value := [str p.name, str p.a, str p.b, i64 p.len, i64 p.times.frm, i64 p.times.every, i64 p.times.len]
def trC (p : TripM) : List Value := [str p.name, str p.route, i64 p.frm, i64 p.every, i64 p.til]
def haC (p : HazM) : List Value := [str p.name, str p.at_, i64 p.times.frm, i64 p.times.every, i64 p.times.len]
def strC (s : List UInt8) : List Value := [str s]
def intC (n : Int) : List Value := [i64 n]
/-- the cells of a row of things, each of as many cells -/
def cs {α : Type} (f : α → List Value) (l : List α) : List Value := l.flatMap f
theorem cs_cons {α : Type} (f : α → List Value) (a : α) (l : List α) : cs f (a :: l) = f a ++ cs f l := rfl
theorem cs_length {α : Type} (f : α → List Value) (k : Nat) (h : ∀ a, (f a).length = k) (l : List α) : (cs f l).length = l.length * k := by
  induction l with
  | nil => simp [cs]
  | cons a l ih => rw [cs_cons, List.length_append, h, ih, List.length_cons, Nat.succ_mul]; omega
theorem cs_at {α : Type} (f : α → List Value) (k : Nat) (h : ∀ a, (f a).length = k) (l : List α) (i : Nat) (a : α) (ha : l[i]? = some a) (j : Nat) (hj : j < k) : (cs f l)[i * k + j]? = (f a)[j]? := by
  induction l generalizing i with
  | nil => simp at ha
  | cons b l ih =>
    rw [cs_cons]
    cases i with
    | zero =>
      simp at ha; subst ha
      rw [Nat.zero_mul, Nat.zero_add, List.getElem?_append_left (by rw [h]; exact hj)]
    | succ i =>
      simp at ha
      rw [List.getElem?_append_right (by rw [h, Nat.succ_mul]; omega), h, ← ih i ha]
      congr 1; rw [Nat.succ_mul]; omega
/-- what an append leaves: the row it makes is the call's own -/
theorem wpList_append_ch {P : Program} {w : World} {ops : Array Oper} {rest : List Oper} {o : Oper} {a : Act} {Q : Exit → Act → World → Prop} (hgd : o.guard = none) (s x : Operand) (t : TypeId)
    (ho : o.op = .call { callee := .builtin .append, args := #[s, x], argTypes := #[t, t] })
    (base : Nat) (e : TypeId) (z : Value) (size bytes : Nat) (ht : P.underlying t = some (.slice e)) (hinfo : (P.info? e).map (fun i => (i.zero, i.size, i.bytes)) = some (some z, size, bytes)) (hzs : z.cells.size = size) (hsz : 0 < size) (hb16 : bytes ≤ 96)
    (v : Value) (n : Nat) (xs : List Value) (hs : a.eval s = v) (hown : w.ownsRow base e size v n xs) (S : Nat → Prop) (A : Option Addr) (m c : Nat) (news : List Value) (hx : a.eval x = .slice A m c) (hl : news.length = m * size) (hr : Rd w S A news) (h1 : ∀ u ∈ news, u.oneCell' = true)
    (hN : n + m ≤ 1000000) (hbase : base ≤ w.heap.size)
    (h : ∀ v' w', Hid (w'.ownsRow base e size v' (n + m) (xs ++ news)) → Hid (w.grownBy w' v.ownBlock) → Hid (v'.ownBlock = v.ownBlock ∨ v'.ownBlock = some w.heap.size) → wpList P ops Q rest (a.put o.dst v') w') : wpList P ops Q (o :: rest) a w := by
  refine wpList_plain hgd fun K hK => ?_
  obtain ⟨i, hi, hz, hsize, hby⟩ := info_parts hinfo
  obtain ⟨v', w', hrun, h2, h3, h4⟩ := run_append_rd (P := P) w base t o.type e i z size bytes ht hi hz hsize hby hzs hsz v n xs hown S A m c news hl hr h1 (by simp only [maxLen]; omega)
    (by have : (n + m) * bytes ≤ 1000000 * 96 := Nat.mul_le_mul hN hb16
        omega) hbase
  unfold Oper.wp
  simp only [execOp, ho, resolve, invoke, builtin, Sem.run_bind, Sem.run_pure, Result.andThen_ok, List.map_toArray, List.map_cons, List.map_nil, hs, hx, hrun]
  exact hK _ _ (h v' w' h2 h3 h4)
theorem lit_rd (w : World) (l : Array Value) (t : TypeId) (xs : List Value) (h : xs.toArray = l) : Rd (w.alloc (.cells l t)) (· < (w.alloc (.cells l t)).heap.size) (some ⟨w.heap.size, 0, none⟩) xs := by
  subst h
  exact (Blk.new w t xs).rd (S := fun b => b < (w.alloc (.cells xs.toArray t)).heap.size) (by simp) 0
theorem lit_at (w : World) (n : Nat) (l : Array Value) (t : TypeId) (xs : List Value) (hn : n = w.heap.size) (h : xs.toArray = l) : Rd (w.alloc (.cells l t)) (· < (w.alloc (.cells l t)).heap.size) (some ⟨n, 0, none⟩) xs := by subst hn; exact lit_rd w l t xs h
end Go.Proofs.YtfefnfifeaihhaaGreat.Sh
namespace Go.Proofs.YtfefnfifeaihhaaGreat.Sh
open Go.ChangeShapes Go.WideShapes Go.ChangeAt Go.RowKit
open Lx
end Go.Proofs.YtfefnfifeaihhaaGreat.Sh
namespace Go.Proofs.YtfefnfifeaihhaaGreat.Sh
open Go.ChangeShapes Go.WideShapes Go.ChangeAt Go.RowKit
open Lx
theorem ch_set7 (w : World) (n : Nat) (u0 u1 u2 u3 u4 u5 u6 : Value) : Ch (· = n) w (((((((w.setCell ⟨n, 0, none⟩ u0).setCell ⟨n, 1, none⟩ u1).setCell ⟨n, 2, none⟩ u2).setCell ⟨n, 3, none⟩ u3).setCell ⟨n, 4, none⟩ u4).setCell ⟨n, 5, none⟩ u5).setCell ⟨n, 6, none⟩ u6) :=
  ((((((ch_set w n 0 u0).trans (ch_set _ n 1 u1)).trans (ch_set _ n 2 u2)).trans (ch_set _ n 3 u3)).trans (ch_set _ n 4 u4)).trans (ch_set _ n 5 u5)).trans (ch_set _ n 6 u6)
end Go.Proofs.YtfefnfifeaihhaaGreat.Sh
namespace Go.Proofs.YtfefnfifeaihhaaGreat.Sh
open Go.ChangeShapes Go.WideShapes Go.ChangeAt Go.RowKit
open Lx
theorem info_Str : (Tryz.prog.info? 9).map (fun i => (i.zero, i.size, i.bytes)) = some (some (.string ⟨#[]⟩), 1, 16) := by kernel_rfl
theorem info_Path : (Tryz.prog.info? 117).map (fun i => (i.zero, i.size, i.bytes)) = some (some (.agg #[.string ⟨#[]⟩, .string ⟨#[]⟩, .string ⟨#[]⟩, .int .i64 0]), 4, 56) := by kernel_rfl
theorem info_Door : (Tryz.prog.info? 119).map (fun i => (i.zero, i.size, i.bytes)) = some (some (.agg #[.string ⟨#[]⟩, .string ⟨#[]⟩, .string ⟨#[]⟩, .int .i64 0, .int .i64 0, .int .i64 0, .int .i64 0]), 7, 80) := by kernel_rfl
theorem info_Route : (Tryz.prog.info? 121).map (fun i => (i.zero, i.size, i.bytes)) = some (some (.agg #[.string ⟨#[]⟩, .slice none 0 0, .slice none 0 0, .slice none 0 0]), 4, 88) := by kernel_rfl
theorem info_Trip : (Tryz.prog.info? 123).map (fun i => (i.zero, i.size, i.bytes)) = some (some (.agg #[.string ⟨#[]⟩, .string ⟨#[]⟩, .int .i64 0, .int .i64 0, .int .i64 0]), 5, 56) := by kernel_rfl
theorem info_Haz : (Tryz.prog.info? 125).map (fun i => (i.zero, i.size, i.bytes)) = some (some (.agg #[.string ⟨#[]⟩, .string ⟨#[]⟩, .int .i64 0, .int .i64 0, .int .i64 0]), 5, 56) := by kernel_rfl
end Go.Proofs.YtfefnfifeaihhaaGreat.Sh
namespace Go.Proofs.YtfefnfifeaihhaaGreat.Sh
open Go.ChangeShapes Go.WideShapes Go.ChangeAt Go.RowKit
open Lx
/-- the cells of routes, whose own rows lie in blocks of S -/
def Rts (w : World) (S : Nat → Prop) : List RouteM → List Value → Prop
  | [], c => c = []
  | r :: l, c => ∃ (sa : Option Addr) (sc : Nat) (ra : Option Addr) (rc : Nat) (ya : Option Addr) (yc : Nat) (rest : List Value),
      c = .string ⟨r.name.toArray⟩ :: .slice sa r.stops.length sc :: .slice ra r.rides.length rc :: .slice ya r.stays.length yc :: rest ∧
      Rd w S sa (cs strC r.stops) ∧ Rd w S ra (cs intC r.rides) ∧ Rd w S ya (cs intC r.stays) ∧ Rts w S l rest
theorem Rts.keep {w w' : World} {S : Nat → Prop} (hk : ∀ b, S b → w'.heap[b]? = w.heap[b]?) : ∀ {l : List RouteM} {c : List Value}, Rts w S l c → Rts w' S l c
  | [], _, h => h
  | _ :: _, _, ⟨sa, sc, ra, rc, ya, yc, rest, e, h1, h2, h3, h4⟩ => ⟨sa, sc, ra, rc, ya, yc, rest, e, h1.keep hk, h2.keep hk, h3.keep hk, Rts.keep hk h4⟩
theorem Rts.more {w : World} {S S' : Nat → Prop} (hs : ∀ b, S b → S' b) : ∀ {l : List RouteM} {c : List Value}, Rts w S l c → Rts w S' l c
  | [], _, h => h
  | _ :: _, _, ⟨sa, sc, ra, rc, ya, yc, rest, e, h1, h2, h3, h4⟩ => ⟨sa, sc, ra, rc, ya, yc, rest, e, h1.more hs, h2.more hs, h3.more hs, Rts.more hs h4⟩
theorem Rts.length {w : World} {S : Nat → Prop} : ∀ {l : List RouteM} {c : List Value}, Rts w S l c → c.length = l.length * 4
  | [], _, h => by rw [show _ = _ from h]; rfl
  | _ :: _, _, ⟨_, _, _, _, _, _, _, e, _, _, _, h4⟩ => by rw [e]; simp [Rts.length h4]; omega
theorem Rts.snoc {w : World} {S : Nat → Prop} {r : RouteM} {d : List Value} (hr : Rts w S [r] d) : ∀ {l : List RouteM} {c : List Value}, Rts w S l c → Rts w S (l ++ [r]) (c ++ d)
  | [], _, h => by rw [show _ = _ from h]; exact hr
  | _ :: _, _, ⟨sa, sc, ra, rc, ya, yc, rest, e, h1, h2, h3, h4⟩ => ⟨sa, sc, ra, rc, ya, yc, rest ++ d, by rw [e]; rfl, h1, h2, h3, Rts.snoc hr h4⟩
/-- beyond the reader, and in none of the rows that are appended to -/
def Away (w : World) (B : Nat) (vs : List Value) (b : Nat) : Prop := B < b ∧ b < w.heap.size ∧ ∀ v ∈ vs, v.ownBlock ≠ some b
theorem Away.on {w w' : World} {B : Nat} {vs vs' : List Value} {b : Nat} (h : Away w B vs b) (hs : w.heap.size ≤ w'.heap.size) (hv : ∀ v' ∈ vs', v' ∈ vs ∨ ∃ v ∈ vs, v'.ownBlock = v.ownBlock ∨ ∃ k, v'.ownBlock = some k ∧ w.heap.size ≤ k) : Away w' B vs' b := by
  refine ⟨h.1, Nat.lt_of_lt_of_le h.2.1 hs, fun v' hv' => ?_⟩
  rcases hv v' hv' with hm | ⟨v, hm, e | ⟨k, e, hk⟩⟩
  · exact h.2.2 v' hm
  · rw [e]; exact h.2.2 v hm
  · rw [e]; intro e2; injection e2 with e2; have := h.2.1; omega
end Go.Proofs.YtfefnfifeaihhaaGreat.Sh
namespace Go.Proofs.YtfefnfifeaihhaaGreat.Sh
open Go.ChangeShapes Go.WideShapes Go.ChangeAt Go.RowKit
open Lx
/-- where a sheet's rows lie, and what room they have -/
structure ShA where
  a1 : Option Addr
  a2 : Option Addr
  a3 : Option Addr
  a4 : Option Addr
  a5 : Option Addr
  a6 : Option Addr
  c1 : Nat
  c2 : Nat
  c3 : Nat
  c4 : Nat
  c5 : Nat
  c6 : Nat
abbrev shV (x : SheetM) (p : ShA) : Value := .agg #[.int .i64 x.horizon, .slice p.a1 x.stops.length p.c1, .slice p.a2 x.paths.length p.c2, .slice p.a3 x.doors.length p.c3, .slice p.a4 x.routes.length p.c4, .slice p.a5 x.trips.length p.c5, .slice p.a6 x.hazards.length p.c6]
/-- the sheet x lies at p, in blocks of S -/
structure Sh (w : World) (S : Nat → Prop) (x : SheetM) (p : ShA) : Prop where
  r1 : Rd w S p.a1 (cs strC x.stops)
  r2 : Rd w S p.a2 (cs paC x.paths)
  r3 : Rd w S p.a3 (cs doC x.doors)
  r4 : ∃ c, Rd w S p.a4 c ∧ Rts w S x.routes c
  r5 : Rd w S p.a5 (cs trC x.trips)
  r6 : Rd w S p.a6 (cs haC x.hazards)
theorem Sh.keep {w w' : World} {S : Nat → Prop} {x : SheetM} {p : ShA} (h : Sh w S x p) (hk : ∀ b, S b → w'.heap[b]? = w.heap[b]?) : Sh w' S x p := by
  obtain ⟨c, h4, h4'⟩ := h.r4
  exact ⟨h.r1.keep hk, h.r2.keep hk, h.r3.keep hk, ⟨c, h4.keep hk, h4'.keep hk⟩, h.r5.keep hk, h.r6.keep hk⟩
theorem Sh.more {w : World} {S S' : Nat → Prop} {x : SheetM} {p : ShA} (h : Sh w S x p) (hs : ∀ b, S b → S' b) : Sh w S' x p := by
  obtain ⟨c, h4, h4'⟩ := h.r4
  exact ⟨h.r1.more hs, h.r2.more hs, h.r3.more hs, ⟨c, h4.more hs, h4'.more hs⟩, h.r5.more hs, h.r6.more hs⟩
theorem Sh.later {w w' : World} {x : SheetM} {p : ShA} (h : Sh w (· < w.heap.size) x p) (hb : Below w.heap.size w w') : Sh w' (· < w'.heap.size) x p :=
  (h.keep fun b hl => hb.block b hl).more fun b h1 => by have := hb.size; omega
end Go.Proofs.YtfefnfifeaihhaaGreat.Sh
namespace Go.Proofs.YtfefnfifeaihhaaGreat.Sh
open Go.ChangeShapes Go.WideShapes Go.ChangeAt Go.RowKit
open Lx
end Go.Proofs.YtfefnfifeaihhaaGreat.Sh
namespace Go.Proofs.YtfefnfifeaihhaaGreat.Sh
open Go.ChangeShapes Go.WideShapes Go.ChangeAt Go.RowKit
open Lx
end Go.Proofs.YtfefnfifeaihhaaGreat.Sh
namespace Go.Proofs.YtfefnfifeaihhaaGreat.Sh
open Go.ChangeShapes Go.WideShapes Go.ChangeAt Go.RowKit
open Lx
section
variable {w wr w' : World} {B b0 : Nat} {toks ts r : List Tok} {q : List Value} {nm : List UInt8} {g : Legs} {vr vy v3 : Value}
end
end Go.Proofs.YtfefnfifeaihhaaGreat.Sh
namespace Go.Proofs.YtfefnfifeaihhaaGreat.Sh
open Go.ChangeShapes Go.WideShapes Go.ChangeAt Go.RowKit
open Lx
theorem info_int64 : (Tryz.prog.info? 2).map (fun i => (i.zero, i.size, i.bytes)) = some (some (.int .i64 0), 1, 8) := by kernel_rfl
theorem own_rd {w : World} {b e s n k c : Nat} {A : Option Addr} {xs : List Value} (h : w.ownsRow b e s (.slice A n c) k xs) : Rd w (fun i => b ≤ i ∧ i < w.heap.size) A xs := by
  obtain ⟨A', c', e', -, hr⟩ := own_form h
  injection e' with e1 e2 e3; subst e1; exact hr
end Go.Proofs.YtfefnfifeaihhaaGreat.Sh
namespace Go.Proofs.YtfefnfifeaihhaaGreat.Sh
open Go.ChangeShapes Go.WideShapes Go.ChangeAt Go.RowKit
open Lx
end Go.Proofs.YtfefnfifeaihhaaGreat.Sh
namespace Go.Proofs.YtfefnfifeaihhaaGreat.Sh
open Go.ChangeShapes Go.WideShapes Go.ChangeAt Go.RowKit
open Lx
end Go.Proofs.YtfefnfifeaihhaaGreat.Sh
namespace Go.Proofs.YtfefnfifeaihhaaGreat.Sh
open Go.ChangeShapes Go.WideShapes Go.ChangeAt Go.RowKit
open Lx
end Go.Proofs.YtfefnfifeaihhaaGreat.Sh
