/- Package lex's cursor: place, refuse, put: what they answer and how the cursor stands then. Conditions: the cursor lies in memory as CurAt says. -/
import Derived.Test.YtgcphhialllieaaDoorLexPass
import Derived.Deep.RegionLaw
namespace Go.Proofs.YtgcphhialllieaaDoor.Lx
open Go.ChangeShapes Go.WideShapes Go.ChangeAt Go.RowKit
set_option linter.unusedVariables false

theorem ret_2 {a b c d : Int} (h : a = c) (k : b = d) : Ending.returned (.tuple #[.int .i64 a, .int .i64 b]) = .returned (.tuple #[.int .i64 c, .int .i64 d]) := by rw [h, k]
def PlacePost (w : World) (line col : Int) (e : Ending) (w' : World) : Prop := e = .returned (.tuple #[.int .i64 line, .int .i64 col]) ∧ Below w.heap.size w w'
set_option maxHeartbeats 1000000 in
theorem place_any {w : World} {n0 B : Nat} {s : ByteArray} {pos line first : Nat} {toks : List Tok} (h : CurAt w n0 B s pos line first toks) (at_ : Nat) (ha : first ≤ at_) (hb : at_ ≤ 65536) :
    Calls Tryd.prog 45 #[.pointer (some ⟨B, 0, none⟩), .int .i64 (at_ : Int)] w (PlacePost w line ((at_ - first + 1 : Nat) : Int)) := by
  have c2 := h.c2
  have c3 := h.c3
  have hf := h.firstLe
  clear h
  have H : Hid ((at_ : Int) - (first : Int) + 1 = ((at_ - first + 1 : Nat) : Int)) := Lib.hid (by omega)
  have f1 : IntKind.i64.wrap ((at_ : Int) - (first : Int)) = (at_ : Int) - (first : Int) := IntWalk.i64_in _ ⟨by omega, by omega⟩
  have f2 : IntKind.i64.wrap ((at_ : Int) - (first : Int) + 1) = (at_ : Int) - (first : Int) + 1 := IntWalk.i64_in _ ⟨by omega, by omega⟩
  go_enter Tryd.func45, Tryd.ntmps45
  go_wp2
  go_quiet (fail)
  clear f1 f2
  go_wp2
  go_ret2
  exact ⟨ret_2 rfl H.out, below_drewN (Below.refl _ _) _⟩

/-- the cursor has given up -/
def RefAt (w : World) (B : Nat) (s : ByteArray) (pos line first : Nat) (e l c : Int) : Prop := Blk w B 45 (curL s pos line first (.slice none 0 0) e l c)
def RefPost (w : World) (n0 B : Nat) (s : ByteArray) (pos line first : Nat) (err l c : Int) (e : Ending) (w' : World) : Prop := e = .returned .nilFunc ∧ RefAt w' B s pos line first err l c ∧ Below n0 w w'
set_option maxHeartbeats 1000000 in
theorem refuse_any {w : World} {n0 B : Nat} {s : ByteArray} {pos line first : Nat} {toks : List Tok} (h : CurAt w n0 B s pos line first toks) (err : Int) (at_ : Nat) (ha : first ≤ at_) (hb : at_ ≤ 65536) :
    Calls Tryd.prog 38 #[.pointer (some ⟨B, 0, none⟩), .int .i64 err, .int .i64 (at_ : Int)] w (RefPost w n0 B s pos line first err line ((at_ - first + 1 : Nat) : Int)) := by
  have HC := Lib.hid h
  obtain ⟨col, hcol⟩ : ∃ col : Int, col = ((at_ - first + 1 : Nat) : Int) := ⟨_, rfl⟩
  have hpl := fun w' (hb' : Below w.heap.size w w') => place_any (h.after hb') at_ ha hb
  rw [← hcol] at hpl ⊢
  have HP := Lib.hid hpl
  clear hpl hcol h
  go_enter Tryd.func38, Tryd.ntmps38
  go_wp2_with (go_at_call 45; refine (HP.out _ (Below.refl _ _)).mono ?_; rintro e w1 ⟨rfl, hb1⟩; have HB1 := Lib.hid hb1; clear hb1; obtain ⟨v, k1, k2⟩ := (HC.out.after HB1.out).obj; have K1 := Lib.hid k1; have d4 : w1.cell? ⟨B, 4, none⟩ = some v := k1.cell 4; have d5 : w1.cell? ⟨B, 5, none⟩ = some (.int .i64 0) := k1.cell 5; have d6 : w1.cell? ⟨B, 6, none⟩ = some (.int .i64 0) := k1.cell 6; have d7 : w1.cell? ⟨B, 7, none⟩ = some (.int .i64 0) := k1.cell 7; have f4 := k1.frozen; clear k1 k2)
  go_ret
  have hb := HB1.out
  have hlo := HC.out.lo
  have hk := ((((K1.out.set_ 4 (.slice none 0 0)).set_ 5 (.int .i64 err)).set_ 6 (.int .i64 line)).set_ 7 (.int .i64 col))
  exact ⟨rfl, hk, ((((hb.mono HC.out.base).setCell hlo _).setCell hlo _).setCell hlo _).setCell hlo _⟩

theorem step_append_rd {P : Program} {w : World} {ops : Array Oper} {o : Oper} {a : Act} {K : Act → World → Prop} {Q : Exit → Act → World → Prop} {E : Prop} (hgd : o.guard = none) (s x : Operand) (t : TypeId)
    (ho : o.op = .call { callee := .builtin .append, args := #[s, x], argTypes := #[t, t] })
    (base : Nat) (e : TypeId) (z : Value) (size bytes : Nat) (ht : P.underlying t = some (.slice e)) (hinfo : (P.info? e).map (fun i => (i.zero, i.size, i.bytes)) = some (some z, size, bytes)) (hzs : z.cells.size = size) (hsz : 0 < size) (hb16 : bytes ≤ 64)
    (v : Value) (n : Nat) (xs : List Value) (hs : a.eval s = v) (hown : Hid (w.ownsRow base e size v n xs)) (S : Nat → Prop) (A : Option Addr) (m c : Nat) (news : List Value) (hx : a.eval x = .slice A m c) (hl : Hid (news.length = m * size)) (hr : Hid (Rd w S A news)) (h1 : ∀ u ∈ news, u.oneCell' = true)
    (hN : n + m ≤ 4000000) (hbase : base ≤ w.heap.size)
    (h : ∀ v' w', Hid (w'.ownsRow base e size v' (n + m) (xs ++ news)) → Hid (Below base w w') → Hid (w.grownBy w' v.ownBlock) → K (a.put o.dst v') w') :
    if Region.wanted o (yielded ops a.tmps) = true then Oper.wp P o a w K Q else E := by
  have hw : Region.wanted o (yielded ops a.tmps) = true := by simp [Region.wanted, hgd]
  rw [if_pos hw]
  obtain ⟨i, hi, hz, hsize, hby⟩ := info_parts hinfo
  obtain ⟨v', w', hrun, h2, h3, h4⟩ := run_append_rd (P := P) w base t o.type e i z size bytes ht hi hz hsize hby hzs hsz v n xs hown.out S A m c news hl.out hr.out h1 (by simp only [maxLen]; omega)
    (by have : (n + m) * bytes ≤ 4000000 * 64 := Nat.mul_le_mul hN hb16
        omega) hbase
  unfold Oper.wp
  simp only [execOp, ho, resolve, invoke, builtin, Sem.run_bind, Sem.run_pure, Result.andThen_ok, List.map_toArray, List.map_cons, List.map_nil, hs, hx, hrun]
  exact h v' w' h2 ((Below.refl _ _).grown h3 hbase (fun k hk => (hown.out.lt k hk).1)) h3

theorem lit_rd (w : World) (l : Array Value) (t : TypeId) (xs : List Value) (h : xs.toArray = l) : Rd (w.alloc (.cells l t)) (· < (w.alloc (.cells l t)).heap.size) (some ⟨w.heap.size, 0, none⟩) xs := by
  subst h
  have h := (Blk.new w t xs).rd (S := (· < (w.alloc (.cells xs.toArray t)).heap.size)) (by simp) 0
  simpa using h

theorem e_lit (w : World) (l : Array Value) (t : TypeId) (xs : List Value) (h : xs.toArray = l) : Hid (Rd (w.alloc (.cells l t)) (· < (w.alloc (.cells l t)).heap.size) (some ⟨w.heap.size, 0, none⟩) xs) := lit_rd w l t xs h
theorem e_litd (w : World) (l : Array Value) (t : TypeId) (xs : List Value) (h : xs.toArray = l) : Hid (Rd (w.alloc (.cells l t)).drew (· < (w.alloc (.cells l t)).heap.size) (some ⟨w.heap.size, 0, none⟩) xs) := lit_rd w l t xs h
theorem grown_blk {W w3 : World} {B : Nat} {t : TypeId} {l : List Value} {o : Obj} {r : Option Nat} (h : Blk W B t l) (hg : (W.alloc o).drew.grownBy w3 r) (hr : r ≠ some B) : Blk w3 B t l :=
  (Blk.alloc h o).grown (w := (W.alloc o).drew) hg (fun e => hr e.symm)
theorem info_tok : (Tryd.prog.info? 31).map (fun i => (i.zero, i.size, i.bytes)) = some (some (.agg #[.int .i64 0, .string ⟨#[]⟩, .int .i64 0, .int .i64 0, .int .i64 0]), 5, 48) := by kernel_rfl

theorem put_fin {w W2 w3 : World} {n0 B : Nat} {s : ByteArray} {pos line first : Nat} {toks : List Tok} {o : Obj} {v v' : Value} (t : Tok) (h : CurAt w n0 B s pos line first toks) (h2 : Below w.heap.size w W2) (h3 : Below n0 (W2.alloc o).drew w3)
    (hv : Blk w3 B 45 (curL s pos line first v 0 0 0)) (ho : w3.ownsRow n0 31 5 v' (toks.length + 1) (tc toks ++ tk t)) (hc : toks.length + 1 + (if t.kind = 4 then 0 else 1) ≤ 2 * pos) :
    CurAt (w3.setCell ⟨B, 4, none⟩ v') n0 B s pos line first (toks ++ [t]) ∧ Below n0 w (w3.setCell ⟨B, 4, none⟩ v') := by
  have hlo := h.base
  refine ⟨⟨h.lo, h.posLe, h.firstLe, h.size, h.lineLe, ?_, v', ?_, ?_⟩, ?_⟩
  · rw [someT_snoc, List.length_append]
    by_cases e : t.kind = 4
    · rw [if_pos e] at hc
      simp only [e, beq_self_eq_true, Bool.not_true, Bool.false_eq_true, if_false, List.length_singleton]; exact hc
    · rw [if_neg e] at hc
      have : (t.kind == 4) = false := beq_eq_false_iff_ne.2 e
      rw [this]; simpa using hc
  · exact hv.set_ 4 v'
  · have e : tc (toks ++ [t]) = tc toks ++ tk t := by simp [tc]
    have := ownsRow_setCell_other (a := ⟨B, 4, none⟩) ho (own_not ho hv (by decide)) v'
    rw [e, List.length_append]
    exact this
  · have h4 : Below n0 w (W2.alloc o).drew := below_drew ((h2.mono hlo).alloc (Nat.le_trans hlo h2.size) o)
    exact (h4.trans h3).setCell h.lo _
def PutPost (w : World) (n0 B : Nat) (s : ByteArray) (pos line first : Nat) (toks : List Tok) (e : Ending) (w' : World) : Prop := e = .returned (.tuple #[]) ∧ CurAt w' n0 B s pos line first toks ∧ Below n0 w w'

set_option maxHeartbeats 1000000 in
theorem put_any {w : World} {n0 B : Nat} {s : ByteArray} {pos line first : Nat} {toks : List Tok} (h : CurAt w n0 B s pos line first toks) (kind num l0 c0 : Int) (text : ByteArray) (at_ : Nat) (ha : first ≤ at_) (hb : at_ ≤ 65536) (hct : toks.length + 1 + (if kind = 4 then 0 else 1) ≤ 2 * pos) :
    Calls Tryd.prog 40 #[.pointer (some ⟨B, 0, none⟩), .agg #[.int .i64 kind, .string text, .int .i64 num, .int .i64 l0, .int .i64 c0], .int .i64 (at_ : Int)] w (PutPost w n0 B s pos line first (toks ++ [⟨kind, text.data.toList, num, line, ((at_ - first + 1 : Nat) : Int)⟩])) := by
  have HC := Lib.hid h
  obtain ⟨col, hcol⟩ : ∃ col : Int, col = ((at_ - first + 1 : Nat) : Int) := ⟨_, rfl⟩
  have hpl := fun w' (hb' : Below w.heap.size w w') => place_any (h.after hb') at_ ha hb
  rw [← hcol] at hpl ⊢
  have HCT := Lib.hid hct
  have HP := Lib.hid hpl
  have hcn := h.count
  clear hct
  have hps := h.posLe
  have hsz := h.size
  clear hpl hcol h
  go_enter Tryd.func40, Tryd.ntmps40
  go_wp2_with (go_at_call 45; refine (HP.out _ ((Below.refl _ _).alloc (Nat.le_refl _) _)).mono ?_; rintro e w1 ⟨rfl, hb1⟩; have HB1 := Lib.hid hb1; have KB := Lib.hid ((Blk.new w 31 [.int .i64 kind, .string text, .int .i64 num, .int .i64 l0, .int .i64 c0]).after hb1); have b3 : w1.cell? ⟨w.heap.size, 3, none⟩ = some (.int .i64 l0) := KB.out.cell 3; have b4 : w1.cell? ⟨w.heap.size, 4, none⟩ = some (.int .i64 c0) := KB.out.cell 4; have bf := KB.out.frozen; clear hb1)
  generalize hW : ((w1.setCell ⟨w.heap.size, 3, none⟩ (.int .i64 line)).setCell ⟨w.heap.size, 4, none⟩ (.int .i64 col)) = W2
  have hb2 : Below w.heap.size w w1 := ((Below.refl _ w).alloc (Nat.le_refl _) _).trans (HB1.out.mono (by simp))
  have HK2 : Hid (Blk W2 w.heap.size 31 [.int .i64 kind, .string text, .int .i64 num, .int .i64 line, .int .i64 col]) := Lib.hid (by rw [← hW]; exact (KB.out.set_ 3 _).set_ 4 _)
  have HB2 : Hid (Below w.heap.size w W2) := Lib.hid (by rw [← hW]; exact (hb2.setCell (Nat.le_refl _) _).setCell (Nat.le_refl _) _)
  clear b3 b4 bf hW hb2
  have k0 : W2.cell? ⟨w.heap.size, 0, none⟩ = some (.int .i64 kind) := HK2.out.cell 0
  have k1 : W2.cell? ⟨w.heap.size, 1, none⟩ = some (.string text) := HK2.out.cell 1
  have k2 : W2.cell? ⟨w.heap.size, 2, none⟩ = some (.int .i64 num) := HK2.out.cell 2
  have k3 : W2.cell? ⟨w.heap.size, 3, none⟩ = some (.int .i64 line) := HK2.out.cell 3
  have k4 : W2.cell? ⟨w.heap.size, 4, none⟩ = some (.int .i64 col) := HK2.out.cell 4
  obtain ⟨v, kv1, kv2⟩ := (HC.out.after HB2.out).obj
  have hn : toks.length ≤ 2 * pos := by omega
  have HV1 := Lib.hid kv1
  have HV2 := Lib.hid kv2
  have d4 : W2.cell? ⟨B, 4, none⟩ = some v := kv1.cell 4
  have f4 := kv1.frozen 4
  have d5 : (W2.alloc (Obj.cells #[.int .i64 kind, .string text, .int .i64 num, .int .i64 line, .int .i64 col] 31)).cell? ⟨B, 4, none⟩ = some v := (kv1.alloc _).cell 4
  have HO : Hid (∀ W' : World, Below W2.heap.size W2 W' → Hid (W'.ownsRow n0 31 5 v toks.length (tc toks))) := Lib.hid (fun W' hb' => Lib.hid (own_after HV2.out hb'))
  have hlo2 : n0 ≤ W2.heap.size := Nat.le_trans HC.out.base HB2.out.size
  have L2 : Hid ([Value.int .i64 kind, .string text, .int .i64 num, .int .i64 line, .int .i64 col].length = 1 * 5) := Lib.hid rfl
  have L3 : ∀ u ∈ [Value.int .i64 kind, .string text, .int .i64 num, .int .i64 line, .int .i64 col], u.oneCell' = true := by simp [Value.oneCell']
  clear kv1 kv2
  go_region_law (first
    | (refine step_append_rd (by rfl) (.tmp 18) (.tmp 20) 22 (by rfl) n0 31 _ 5 48 Tryd.underlying22 info_tok rfl (by omega) (by omega) v toks.length (tc toks) (by rfl) (HO.out _ (below_drew ((Below.refl _ _).alloc (Nat.le_refl _) _))) _ _ 1 1 [.int .i64 kind, .string text, .int .i64 num, .int .i64 line, .int .i64 col] (by rfl) L2 (e_litd _ _ _ _ rfl) L3 (by omega) (by first | exact hlo2 | (simp; omega)) ?_; intro v' w3 ho3 hb3 hg3; obtain ⟨A', c', rfl, hcap, -⟩ := own_form ho3.out; have KV := Lib.hid (grown_blk HV1.out hg3.out (own_not HV2.out HV1.out (by decide))); have e4 : w3.cell? ⟨B, 4, none⟩ = some v := KV.out.cell 4; have ef := KV.out.frozen 4))
  all_goals
    go_end0
    obtain ⟨r1, r2⟩ := put_fin ⟨kind, text.data.toList, num, line, col⟩ HC.out HB2.out hb3.out KV.out ho3.out HCT.out
    exact ⟨rfl, r1, r2⟩
end Go.Proofs.YtgcphhialllieaaDoor.Lx
