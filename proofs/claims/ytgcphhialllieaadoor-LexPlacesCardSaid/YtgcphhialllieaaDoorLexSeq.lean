/- Package lex's iterator of lines: it hands over each line that is not empty, in their order, whatever a round does with it that leaves alone what lay. Conditions: the rows hold fewer than a million tokens. -/
import Derived.RangeFuncBox
import Derived.RangeFuncLeaves
import Derived.Shelf.Abstract
import Derived.WalkKit
import Derived.OwnWalkIn
import Derived.TacticsInMore
import Derived.LoopNIn
import Derived.LoopIn
import Derived.Maps.AppendAt
import Derived.Lib.SliceRun
import Derived.Test.YtgcphhialllieaaDoorLexKit
namespace Go.Proofs.YtgcphhialllieaaDoor.Lx
open Go.ChangeShapes Go.WideShapes Go.ChangeAt Go.RowKit Go.Shelf
set_option linter.unusedVariables false
attribute [local go_sem] Oper.semAt_some

/-- the lines of a row of tokens that are not empty, without their ends; cur: what the line has already -/
def linesF : List Tok → List Tok → List (List Tok)
  | cur, [] => if cur.isEmpty then [] else [cur]
  | cur, t :: r => if t.kind = 4 then (if cur.isEmpty then linesF [] r else cur :: linesF [] r) else linesF (cur ++ [t]) r

/-- a line as it is handed over -/
structure Row (w0 : World) where
  addr : Option Addr
  len : Nat
  cap : Nat
  toks : List Tok
  hlen : Hid (len = toks.length)
  rd : Rd w0 (· < w0.heap.size) addr (tc toks)
  ne : toks ≠ []
  small : toks.length ≤ 1000000
def encs {w0 : World} (x : Row w0) : Array Value := #[.slice x.addr x.len x.cap]

/-- what a round leaves alone: what lay ahead of the loop's function, and the block that holds the row -/
def KpL (n0 Bn : Nat) (W W' : World) : Prop := Below n0 W W' ∧ W'.heap[Bn]? = W.heap[Bn]?
theorem KpL.t {n0 Bn : Nat} {A B C : World} (h : KpL n0 Bn A B) (k : KpL n0 Bn B C) : KpL n0 Bn A C := ⟨h.1.trans k.1, k.2.trans h.2⟩
theorem J_alloc {w0 : World} {B : Nat} {J : List (Row w0) → World → Prop} (hJ : AbidesFrom B J) {pre : List (Row w0)} {wr : World} (h : J pre wr) (o : Obj) : J pre (wr.alloc o) :=
  hJ pre wr (wr.alloc o) none h (World.grownBy_alloc wr o none) (by simp)
theorem rd_sub {w : World} {S : Nat → Prop} {ad : Addr} {zs : List Tok} (h : Rd w S (some ad) (tc zs)) (i k : Nat) : Rd w S (some (ad.add (i * 5))) (tc ((zs.take k).drop i)) := by
  have h1 := (h.take (k * 5)).drop (k := i * 5) (c := False) (fun _ => id)
  rw [if_neg id, ← tc_take, ← tc_drop] at h1
  exact h1
/-- the row that is handed over behind k tokens -/
def rowAt {w0 : World} {ad : Addr} {len cap : Nat} {zs : List Tok} (hlen : Hid (len = zs.length)) (hN : len ≤ 1000000) (hrd : Rd w0 (· < w0.heap.size) (some ad) (tc zs)) (i k : Nat) (hi : i < k) (hk : k ≤ len) : Row w0 :=
  ⟨some (ad.add (i * 5)), k - i, cap - i, (zs.take k).drop i, (by show _ = _; have := hlen.out; simp; omega), rd_sub hrd i k, (by have := hlen.out; intro e; have := congrArg List.length e; simp at this; omega), (by have := hlen.out; simp; omega)⟩
def LsRel (w0 : World) (Bn : Nat) (ad : Addr) (len cap : Nat) (zs : List Tok) (J : List (Row w0) → World → Prop) (v3 v8 : Value) (wr : World) : Prop :=
  ∃ (k i : Nat) (pre : List (Row w0)), v3 = .int .i64 i ∧ v8 = .int .i64 k ∧ i ≤ k ∧ k ≤ len ∧ Hid (pre.map Row.toks ++ linesF ((zs.take k).drop i) (zs.drop k) = linesF [] zs) ∧ Hid (J pre wr) ∧ Hid (Below w0.heap.size w0 wr) ∧ Hid (wr.cell? ⟨Bn, 0, none⟩ = some (.slice (some ad) len cap)) ∧ Bn < wr.heap.size

set_option maxRecDepth 100000 in
set_option maxHeartbeats 2000000 in
theorem lines1_in (F : Fence) (n : Nat) (hf : F.fn 37) (hro : F.round = none) (hn : 1 ≤ n) (l Bn : Nat) (w0 : World) (ad : Addr) (len cap : Nat) (zs : List Tok) (hlen : Hid (len = zs.length)) (hcap : len ≤ cap) (hN : len ≤ 1000000) (hrd : Rd w0 (· < w0.heap.size) (some ad) (tc zs))
    (J Jx : List (Row w0) → World → Prop) (W : World) (hJ : AbidesFrom W.heap.size J)
    (hY : ∀ pre x W1, J pre W1 → pre.length < (linesF [] zs).length → YieldAt F (n - 1) Tryd.prog l (encs x) W1 fun e W' =>
      (e = .returned (.bool true) ∧ J (pre ++ [x]) W' ∧ KpL w0.heap.size Bn W1 W') ∨ (e = .returned (.bool false) ∧ Jx (pre ++ [x]) W'))
    (hB : Below w0.heap.size w0 W) (hBn : W.cell? ⟨Bn, 0, none⟩ = some (.slice (some ad) len cap)) (hBl : w0.heap.size ≤ Bn ∧ Bn < W.heap.size) (h0 : J [] W) :
    CallsIn F n Tryd.prog 37 #[.func (.yield l) #[] #[], .pointer (some ⟨Bn, 0, none⟩)] W fun e W' => (∃ v, e = .returned v) ∧
      ((∃ ys : List (Row w0), ys.map Row.toks = linesF [] zs ∧ J ys W') ∨ (∃ pre : List (Row w0), True ∧ Jx pre W')) := by
  refine callsIn_of_wp Tryd.func37 rfl hf ?_ hro
  simp only [Tryd.ntmps37, List.size_toArray, List.length_cons, List.length_nil, Nat.reduceAdd, Nat.reduceSub, Array.replicate_succ, Array.replicate_zero, List.push_toArray, List.append_toArray, List.nil_append, List.cons_append]
  gi_wp2
  gi_loopw [3, 8] (fun v3 v8 wr => LsRel w0 Bn ad len cap zs J v3 v8 wr) (fun _ v _ => len - (intOf v).toNat)
  case atStart => exact ⟨0, 0, [], rfl, rfl, by omega, by omega, by show _ = _; simp, h0, hB, hBn, hBl.2⟩
  case round =>
    obtain ⟨k, i, pre, rfl, rfl, hik, hk, hT, hJs, hb, hcB, hBlt⟩ := hrel
    by_cases hlt : k < len
    · obtain ⟨t, ht⟩ := tok_at zs hlen hlt
      obtain ⟨ad', e', hS, ⟨a0, a1, a2, a3, a4⟩⟩ := (hrd.below2 hb.out).tok ht
      injection e' with e'
      subst e'
      have hkl : k < zs.length := by rw [← hlen.out]; exact hlt
      have hdr : zs.drop k = t :: zs.drop (k + 1) := by
        rw [List.drop_eq_getElem_cons hkl]
        rw [List.getElem?_eq_getElem hkl] at ht
        rw [Option.some.inj ht]
      have htk : zs.take (k + 1) = zs.take k ++ [t] := by rw [List.take_add_one, ht]; rfl
      have hki : (k : Int) < (len : Int) := by omega
      by_cases h4 : t.kind = 4
      · by_cases hil : i < k
        · have hT2 : pre.map Row.toks ++ ((zs.take k).drop i :: linesF [] (zs.drop (k + 1))) = linesF [] zs := by
            have hne : ((zs.take k).drop i).isEmpty = false := by
              cases hx : (zs.take k).drop i with
              | nil => have := congrArg List.length hx; simp at this; omega
              | cons a b => rfl
            have := hT.out
            rw [hdr] at this
            simp only [linesF, h4, if_true, hne, Bool.false_eq_true, if_false] at this
            exact this
          have hNN : pre.length < (linesF [] zs).length := by rw [← hT2]; simp
          have HT2 := Lib.hid hT2
          have hbx : Below w0.heap.size w0 (wr.alloc (.cells #[.int .i64 t.kind, .string ⟨t.text.toArray⟩, .int .i64 t.num, .int .i64 t.line, .int .i64 t.col] 31)) := hb.out.alloc hb.out.size _
          obtain ⟨fn, tmps, assign, body, hy, hR⟩ := hY pre (rowAt (cap := cap) hlen hN hrd i k hil (by omega)) (wr.alloc (.cells #[.int .i64 t.kind, .string ⟨t.text.toArray⟩, .int .i64 t.num, .int .i64 t.line, .int .i64 t.col] 31)) (J_alloc hJ hJs.out _) hNN
          dsimp only [encs, rowAt] at hy
          have HBX := Lib.hid hbx
          have hcB' : ∀ o, (wr.alloc o).cell? ⟨Bn, 0, none⟩ = some (.slice (some ad) len cap) := fun o => by
            have := World.cell?_of_block (w := wr) (w' := wr.alloc o) (a := ⟨Bn, 0, none⟩) (Below.heap_alloc wr o Bn hBlt)
            rw [this]; exact hcB.out
          obtain ⟨kd, tx, nm, ln, cl⟩ := t
          dsimp only at h4 a0 a1 a2 a3 a4 hy hR HBX
          subst h4
          have hik2 : (i : Int) < (k : Int) := by omega
          have hkc : (k : Int) ≤ (cap : Int) := by omega
          have hic : ¬ cap = i := by omega
          clear hdr htk hT ht hT2 hNN hbx
          gi_wp2
          refine hR.mono ?_
          rintro e W3 (⟨rfl, hJ3, hk3⟩ | ⟨rfl, hJx3⟩)
          · have HJ3 := Lib.hid hJ3
            have HK3 := Lib.hid hk3
            clear hJ3 hk3
            gi_wp2
            go_roundw
            case rel => exact ⟨k + 1, k + 1, pre ++ [rowAt (cap := cap) hlen hN hrd i k hil (by omega)], by go_num, by go_num, Nat.le_refl _, by omega, by
              show _ = _
              have e1 : (zs.take (k + 1)).drop (k + 1) = [] := List.drop_eq_nil_of_le (by simp; omega)
              rw [e1, List.map_append, List.append_assoc]
              exact HT2.out, HJ3.out, HBX.out.trans HK3.out.1, (World.cell?_of_block (a := ⟨Bn, 0, none⟩) HK3.out.2).trans (hcB' _), by
                have h1 := HK3.out.2
                rcases Nat.lt_or_ge Bn W3.heap.size with h | h
                · exact h
                · rw [Array.getElem?_eq_none h] at h1
                  have h2 : Bn < (wr.alloc (.cells #[.int .i64 4, .string ⟨tx.toArray⟩, .int .i64 nm, .int .i64 ln, .int .i64 cl] 31)).heap.size := by simp; omega
                  rw [Array.getElem?_eq_getElem h2] at h1
                  cases h1⟩
            case measure => simp [intOf]; omega
          · have HJ3 := Lib.hid hJx3
            clear hJx3
            gi_wp2
            refine bodyPost_ret (results_none rfl _ _ _) rfl ?_
            exact ⟨⟨_, rfl⟩, .inr ⟨_, trivial, HJ3.out⟩⟩
        · obtain rfl : i = k := by omega
          have HT2 : Hid (pre.map Row.toks ++ linesF [] (zs.drop (i + 1)) = linesF [] zs) := Lib.hid (by
            have he : ((zs.take i).drop i) = [] := List.drop_eq_nil_of_le (by simp; omega)
            have := hT.out
            rw [hdr, he] at this
            simpa only [linesF, h4, if_true, List.isEmpty_nil] using this)
          have HJA := Lib.hid (J_alloc hJ hJs.out (.cells #[.int .i64 t.kind, .string ⟨t.text.toArray⟩, .int .i64 t.num, .int .i64 t.line, .int .i64 t.col] 31))
          have HCA := Lib.hid ((World.cell?_of_block (w := wr) (w' := wr.alloc (.cells #[.int .i64 t.kind, .string ⟨t.text.toArray⟩, .int .i64 t.num, .int .i64 t.line, .int .i64 t.col] 31)) (a := ⟨Bn, 0, none⟩) (Below.heap_alloc wr _ Bn hBlt)).trans hcB.out)
          obtain ⟨kd, tx, nm, ln, cl⟩ := t
          dsimp only at h4 a0 a1 a2 a3 a4 HJA HCA
          subst h4
          clear hdr htk hT ht
          gi_wp2
          refine ⟨fun _ h => (by cases h), ?_⟩
          gi_wp2
          go_roundw
          case rel => exact ⟨i + 1, i + 1, pre, by go_num, by go_num, Nat.le_refl _, by omega, by
            show _ = _
            have e1 : (zs.take (i + 1)).drop (i + 1) = [] := List.drop_eq_nil_of_le (by simp; omega)
            rw [e1]
            exact HT2.out, HJA.out, hb.out.alloc hb.out.size _, HCA.out, by simp; omega⟩
          case measure => simp [intOf]; omega
      · have h4b : (t.kind == 4) = false := beq_eq_false_iff_ne.2 h4
        have HT2 : Hid (pre.map Row.toks ++ linesF ((zs.take (k + 1)).drop i) (zs.drop (k + 1)) = linesF [] zs) := Lib.hid (by
          have e : (zs.take (k + 1)).drop i = (zs.take k).drop i ++ [t] := by rw [htk, List.drop_append_of_le_length (by simp; omega)]
          have := hT.out
          rw [hdr] at this
          simp only [linesF, h4, if_false] at this
          rw [e]; exact this)
        have HJA := Lib.hid (J_alloc hJ hJs.out (.cells #[.int .i64 t.kind, .string ⟨t.text.toArray⟩, .int .i64 t.num, .int .i64 t.line, .int .i64 t.col] 31))
        have HCA := Lib.hid ((World.cell?_of_block (w := wr) (w' := wr.alloc (.cells #[.int .i64 t.kind, .string ⟨t.text.toArray⟩, .int .i64 t.num, .int .i64 t.line, .int .i64 t.col] 31)) (a := ⟨Bn, 0, none⟩) (Below.heap_alloc wr _ Bn hBlt)).trans hcB.out)
        clear hdr htk hT ht h4
        gi_wp2
        go_roundw
        case rel => exact ⟨k + 1, i, pre, rfl, by go_num, by omega, by omega, HT2.out, HJA.out, hb.out.alloc hb.out.size _, HCA.out, by simp; omega⟩
        case measure => simp [intOf]; omega
    · obtain rfl : k = len := by omega
      have hki : ¬ (k : Int) < (k : Int) := by omega
      have hcB2 := hcB.out
      have hz : zs.drop k = [] := List.drop_eq_nil_of_le (by rw [← hlen.out]; exact Nat.le_refl _)
      by_cases hil : i < k
      · have hT2 : pre.map Row.toks ++ [(zs.take k).drop i] = linesF [] zs := by
          have hne : ((zs.take k).drop i).isEmpty = false := by
            cases hx : (zs.take k).drop i with
            | nil => have := congrArg List.length hx; have := hlen.out; simp at *; omega
            | cons a b => rfl
          have := hT.out
          rw [hz] at this
          simpa only [linesF, hne, Bool.false_eq_true, if_false] using this
        have hNN : pre.length < (linesF [] zs).length := by rw [← hT2]; simp
        have HT2 := Lib.hid hT2
        obtain ⟨fn, tmps, assign, body, hy, hR⟩ := hY pre (rowAt (cap := cap) hlen hN hrd i k hil (Nat.le_refl _)) wr hJs.out hNN
        dsimp only [encs, rowAt] at hy
        have hik2 : (i : Int) < (k : Int) := by omega
        have hic : ¬ cap = i := by omega
        clear hT hT2 hNN hz
        gi_wp2
        refine hR.mono ?_
        rintro e W3 (⟨rfl, hJ3, hk3⟩ | ⟨rfl, hJx3⟩)
        · have HJ3 := Lib.hid hJ3
          clear hJ3 hk3
          gi_wp2
          go_end0
          exact ⟨⟨_, rfl⟩, .inl ⟨_, by rw [List.map_append]; exact HT2.out, HJ3.out⟩⟩
        · have HJ3 := Lib.hid hJx3
          clear hJx3
          gi_wp2
          go_end0
          exact ⟨⟨_, rfl⟩, .inr ⟨_, trivial, HJ3.out⟩⟩
      · obtain rfl : i = k := by omega
        have HT2 : Hid (pre.map Row.toks = linesF [] zs) := Lib.hid (by
          have he : ((zs.take i).drop i) = [] := List.drop_eq_nil_of_le (by simp; omega)
          have := hT.out
          rw [hz, he] at this
          simpa [linesF] using this)
        clear hT hz
        gi_wp2
        go_end0
        exact ⟨⟨_, rfl⟩, .inl ⟨_, HT2.out, hJs.out⟩⟩

set_option maxRecDepth 100000 in
set_option maxHeartbeats 2000000 in
theorem lines1_nil_in (F : Fence) (n : Nat) (hf : F.fn 37) (hro : F.round = none) (l Bn c : Nat) (w0 : World) (J : List (Row w0) → World → Prop) (W : World) (hBn : W.cell? ⟨Bn, 0, none⟩ = some (.slice none 0 c)) (h0 : J [] W) :
    CallsIn F n Tryd.prog 37 #[.func (.yield l) #[] #[], .pointer (some ⟨Bn, 0, none⟩)] W fun e W' => (∃ v, e = .returned v) ∧ J [] W' := by
  refine callsIn_of_wp Tryd.func37 rfl hf ?_ hro
  simp only [Tryd.ntmps37, List.size_toArray, List.length_cons, List.length_nil, Nat.reduceAdd, Nat.reduceSub, Array.replicate_succ, Array.replicate_zero, List.push_toArray, List.append_toArray, List.nil_append, List.cons_append]
  gi_wp2
  gi_loopw [3, 8] (fun v3 v8 wr => v3 = .int .i64 0 ∧ v8 = .int .i64 0 ∧ Hid (J [] wr) ∧ wr.cell? ⟨Bn, 0, none⟩ = some (.slice none 0 c)) (fun _ _ _ => 0)
  case atStart => exact ⟨rfl, rfl, h0, hBn⟩
  case round =>
    obtain ⟨rfl, rfl, hJs, hc⟩ := hrel
    gi_wp2
    go_end0
    exact ⟨⟨_, rfl⟩, hJs.out⟩

/-- the iterator's contract, at any row -/
theorem lines_stops (F : Fence) (n : Nat) (hf : F.fn 37) (hro : F.round = none) (hn : 1 ≤ n) (Bn : Nat) (w0 w : World) (A : Option Addr) (len cap : Nat) (zs : List Tok) (hlen : Hid (len = zs.length)) (hcap : len ≤ cap) (hN : len ≤ 1000000) (hrd : Rd w0 (· < w0.heap.size) A (tc zs))
    (hB : Below w0.heap.size w0 w) (hBn : w.cell? ⟨Bn, 0, none⟩ = some (.slice A len cap)) (hBl : w0.heap.size ≤ Bn ∧ Bn < w.heap.size) :
    SeqStopsK F n Tryd.prog 37 #[.pointer (some ⟨Bn, 0, none⟩)] (encs (w0 := w0)) (KpL w0.heap.size Bn) (fun ys => ys.map Row.toks = linesF [] zs) (fun _ => True) (linesF [] zs).length w := fun l J Jx W hW hJ _ hY h0 => by
  have hc : W.cell? ⟨Bn, 0, none⟩ = some (.slice A len cap) := (hW.cell (p := ⟨Bn, 0, none⟩) hBl.2).trans hBn
  have hB2 : Below w0.heap.size w0 W := hB.trans (hW.mono hB.size)
  have hBl2 : w0.heap.size ≤ Bn ∧ Bn < W.heap.size := ⟨hBl.1, Nat.lt_of_lt_of_le hBl.2 hW.size⟩
  cases A with
  | some ad => exact lines1_in F n hf hro hn l Bn w0 ad len cap zs hlen hcap hN hrd J Jx W hJ hY hB2 hc hBl2 h0
  | none =>
    have hz : zs = [] := by
      cases zs with
      | nil => rfl
      | cons a b =>
        obtain ⟨ad, e, _⟩ := hrd (by rw [tc_length]; simp)
        cases e
    subst hz
    have h00 : len = 0 := hlen.out
    subst h00
    exact (lines1_nil_in F n hf hro l Bn cap w0 J W hc h0).mono fun e W' ⟨he, hj⟩ => ⟨he, .inl ⟨[], rfl, hj⟩⟩
end Go.Proofs.YtgcphhialllieaaDoor.Lx
