/- Words for package lex: rows of tokens as they lie in memory, what keeps them; the cursor; append onto a row of the call's own. · Package lex's inner calls: of which kind a byte is, what comes next, how far bytes of some kinds go. Conditions: the cursor lies in memory as CurAt says. · Package lex's cursor: what pass answers and where the cursor stands then. Conditions: the cursor lies in memory as CurAt says. · Package lex's cursor: place, refuse, put: what they answer and how the cursor stands then. Conditions: the cursor lies in memory as CurAt says. · Package lex: Reserved; the library's strings.Clone. No conditions. -/
import Derived.Test.YtcmlmfcnbmpajaaDoorRows
import Derived.Test.YtcmlmfcnbmpajaaDoorPlain
import Derived.WalkKit
import Derived.ProofKit
import Derived.OpenShut
import Derived.Handy
import Derived.Lib.Hide
import Derived.RegionTactic
import Derived.BigRegion
import Derived.ChangeAlike
import Derived.LoopTactic
import Derived.Deep.Draws
import Derived.Deep.QuietTactic
import Derived.BigQuiet
import Derived.Laws.OwnMore
import Derived.Laws.Rows
import Derived.Laws.AppendOwnNone
import Derived.Maps.AppendAt
import Derived.Deep.AppendLies
import Derived.Deep.LoopGhost
import Derived.Deep.RegionLaw
import Derived.Test.YtcmlmfcnbmpajaaDoorShelf
namespace Go.Proofs.YtcmlmfcnbmpajaaDoor.Lx
open Go.ChangeShapes Go.WideShapes Go.ChangeAt Go.RowKit
set_option linter.unusedVariables false

/-- the cells of tokens -/
def tk (t : Tok) : List Value := [.int .i64 t.kind, .string ⟨t.text.toArray⟩, .int .i64 t.num, .int .i64 t.line, .int .i64 t.col]
def tc (l : List Tok) : List Value := l.flatMap tk
theorem tc_nil : tc [] = [] := rfl
theorem tc_cons (t : Tok) (l : List Tok) : tc (t :: l) = .int .i64 t.kind :: .string ⟨t.text.toArray⟩ :: .int .i64 t.num :: .int .i64 t.line :: .int .i64 t.col :: tc l := rfl
theorem tc_append (a b : List Tok) : tc (a ++ b) = tc a ++ tc b := by simp [tc]
theorem tc_length (l : List Tok) : (tc l).length = l.length * 5 := by
  induction l with
  | nil => rfl
  | cons p l ih => rw [tc_cons]; simp [ih]; omega
theorem tc_drop (l : List Tok) (k : Nat) : tc (l.drop k) = (tc l).drop (k * 5) := by
  induction l generalizing k with
  | nil => simp [tc_nil]
  | cons q l ih =>
    cases k with
    | zero => simp
    | succ k =>
      have e : (k + 1) * 5 = k * 5 + 5 := by omega
      rw [List.drop_succ_cons, ih, tc_cons, e]; rfl
theorem tc_take (l : List Tok) (k : Nat) : tc (l.take k) = (tc l).take (k * 5) := by
  induction l generalizing k with
  | nil => simp [tc_nil]
  | cons q l ih =>
    cases k with
    | zero => simp [tc_nil]
    | succ k =>
      have e : (k + 1) * 5 = k * 5 + 5 := by omega
      rw [List.take_succ_cons, tc_cons, ih, tc_cons, e]; rfl
theorem tc_at (l : List Tok) (k : Nat) (t : Tok) (h : l[k]? = some t) : (tc l)[k * 5]? = some (.int .i64 t.kind) ∧ (tc l)[k * 5 + 1]? = some (.string ⟨t.text.toArray⟩) ∧ (tc l)[k * 5 + 2]? = some (.int .i64 t.num) ∧ (tc l)[k * 5 + 3]? = some (.int .i64 t.line) ∧ (tc l)[k * 5 + 4]? = some (.int .i64 t.col) := by
  induction l generalizing k with
  | nil => simp at h
  | cons q l ih =>
    cases k with
    | zero => simp at h; subst h; simp [tc_cons]
    | succ k =>
      simp at h
      have := ih k h
      have e : (k + 1) * 5 = k * 5 + 5 := by omega
      rw [tc_cons, e]
      exact ⟨by simpa using this.1, by simpa using this.2.1, by simpa using this.2.2.1, by simpa using this.2.2.2.1, by simpa using this.2.2.2.2⟩
theorem tc_one (l : List Tok) : ∀ v ∈ tc l, v.oneCell' = true := by
  intro v hv
  obtain ⟨t, _, hv⟩ := List.mem_flatMap.1 hv
  simp [tk] at hv
  rcases hv with rfl | rfl | rfl | rfl | rfl <;> rfl

theorem block_of_add (a : Addr) (n : Nat) : (a.add n).block = a.block := by unfold Addr.add; split <;> rfl
theorem add_of_add (a : Addr) (i j : Nat) : (a.add i).add j = a.add (i + j) := by
  unfold Addr.add
  by_cases hi : i = 0 <;> by_cases hj : j = 0 <;> simp [hi, hj, Nat.add_assoc]

/-- the cells xs lie from A on, in a block of S -/
def Rd (w : World) (S : Nat → Prop) (A : Option Addr) (xs : List Value) : Prop :=
  0 < xs.length → ∃ ad, A = some ad ∧ S ad.block ∧ ∀ j u, xs[j]? = some u → w.cell? (ad.add j) = some u
section
variable {w w' : World} {S S' : Nat → Prop} {A : Option Addr} {xs : List Value}
theorem Rd.none_ : Rd w S A [] := fun h => absurd h (by simp)
theorem Rd.keep (h : Rd w S A xs) (hk : ∀ b, S b → w'.heap[b]? = w.heap[b]?) : Rd w' S A xs := fun hn => by
  obtain ⟨ad, e, hb, hc⟩ := h hn
  exact ⟨ad, e, hb, fun j u hu => (World.cell?_of_block (hk _ (by rw [block_of_add]; exact hb))).trans (hc j u hu)⟩
theorem Rd.more (h : Rd w S A xs) (hs : ∀ b, S b → S' b) : Rd w S' A xs := fun hn => by
  obtain ⟨ad, e, hb, hc⟩ := h hn
  exact ⟨ad, e, hs _ hb, hc⟩
theorem Rd.below {B : Nat} (h : Rd w (· < B) A xs) (hb : Below B w w') : Rd w' (· < B) A xs := h.keep fun b hl => hb.block b hl
theorem Rd.drop (h : Rd w S A xs) {k : Nat} {c : Prop} [Decidable c] (hc : k < xs.length → ¬ c) : Rd w S (if c then A else A.map (·.add k)) (xs.drop k) := fun hn => by
  obtain ⟨ad, rfl, hb, hcell⟩ := h (by simp at hn; omega)
  rw [if_neg (hc (by simp at hn; omega))]
  refine ⟨ad.add k, rfl, by rw [block_of_add]; exact hb, fun j u hu => ?_⟩
  rw [add_of_add]
  exact hcell _ u (by rw [← hu, List.getElem?_drop])
theorem Rd.take (h : Rd w S A xs) (k : Nat) : Rd w S A (xs.take k) := fun hn => by
  obtain ⟨ad, e, hb, hcell⟩ := h (by simp at hn; omega)
  refine ⟨ad, e, hb, fun j u hu => hcell j u ?_⟩
  rw [List.getElem?_take] at hu
  split at hu
  · exact hu
  · cases hu
end

/-- block g is the cells l, none frozen -/
def Blk (w : World) (g : Nat) (t : TypeId) (l : List Value) : Prop := w.heap[g]? = some (.cells l.toArray t (0, 0))
section
variable {w w' : World} {g : Nat} {t : TypeId} {l : List Value}
theorem Blk.lt (h : Blk w g t l) : g < w.heap.size := by
  rcases Nat.lt_or_ge g w.heap.size with hlt | hge
  · exact hlt
  · unfold Blk at h; rw [Array.getElem?_eq_none hge] at h; cases h
theorem Blk.cell (h : Blk w g t l) (i : Nat) : w.cell? ⟨g, i, none⟩ = l[i]? := by
  have := cell_of_row w g i l.toArray t (0, 0) h
  simpa using this
theorem Blk.frozen (h : Blk w g t l) (i : Nat) : w.frozen? ⟨g, i, none⟩ = false := by
  unfold Blk at h
  simp [World.frozen?, h]
theorem Blk.new (w : World) (t : TypeId) (l : List Value) : Blk (w.alloc (.cells l.toArray t)) w.heap.size t l := heap_alloc_new w _
theorem Blk.alloc (h : Blk w g t l) (o : Obj) : Blk (w.alloc o) g t l := (Below.heap_alloc w o g h.lt).trans h
theorem Blk.set_ (h : Blk w g t l) (i : Nat) (u : Value) : Blk (w.setCell ⟨g, i, none⟩ u) g t (l.set i u) := by
  unfold Blk at h ⊢
  simp [World.setCell, Array.getElem?_modify, h]
theorem Blk.far (h : Blk w g t l) {p : Addr} (hp : g ≠ p.block) (u : Value) : Blk (w.setCell p u) g t l := (Below.heap_setCell w p u g hp).trans h
theorem Blk.below {B : Nat} (h : Blk w g t l) (hb : Below B w w') (hg : g < B) : Blk w' g t l := (hb.block g hg).trans h
theorem Blk.grown {row : Option Nat} (h : Blk w g t l) (hb : w.grownBy w' row) (hg : some g ≠ row) : Blk w' g t l := (hb.block g h.lt hg).trans h
theorem Blk.after (h : Blk w g t l) (hb : Below w.heap.size w w') : Blk w' g t l := h.below hb h.lt
theorem Blk.rd (h : Blk w g t l) {S : Nat → Prop} (hS : S g) (off : Nat) : Rd w S (some ⟨g, off, none⟩) (l.drop off) := fun _ =>
  ⟨_, rfl, hS, fun j u hu => by
    have e : (⟨g, off, none⟩ : Addr).add j = ⟨g, off + j, none⟩ := by
      unfold Addr.add; split
      · subst_vars; rfl
      · rfl
    rw [e, h.cell, ← hu, List.getElem?_drop]⟩
end


theorem keep_trans {a b c : World} (h1 : Below a.heap.size a b) (h2 : Below b.heap.size b c) : Below a.heap.size a c :=
  h1.trans (h2.mono h1.size)
theorem below_then {B : Nat} {a b c : World} (h1 : Below B a b) (h2 : Below b.heap.size b c) (hB : B ≤ b.heap.size) : Below B a c :=
  h1.trans (h2.mono hB)
theorem below_drewN {B : Nat} {a w : World} (h : Below B a w) (n : Nat) : Below B a (w.drewN n) := ⟨h.os, h.tape, h.output, h.size, h.block⟩
theorem below_drew {B : Nat} {a w : World} (h : Below B a w) : Below B a w.drew := ⟨h.os, h.tape, h.output, h.size, h.block⟩
theorem ret_b {a b : Bool} (h : a = b) : Ending.returned (.bool b) = .returned (.bool a) := by rw [h]
theorem ret_i {k : IntKind} {a b : Int} (h : a = b) : Ending.returned (.int k a) = .returned (.int k b) := by rw [h]
theorem own_after {w w' : World} {base e size n : Nat} {v : Value} {xs : List Value} (h : w.ownsRow base e size v n xs) (hb : Below w.heap.size w w') :
    w'.ownsRow base e size v n xs := h.kept ⟨hb.os, hb.tape, hb.output, hb.size, fun k hk _ => hb.block k hk⟩ (row := none) (by cases v.ownBlock <;> simp)

theorem run_append_rd {P : Program} (w : World) (base : Nat) (t ty e : TypeId) (i : TypeInfo) (z : Value) (size bytes : Nat) (ht : P.underlying t = some (.slice e)) (hi : P.info? e = some i) (hz : i.zero = some z)
    (hsize : i.size = size) (hby : i.bytes = bytes) (hzs : z.cells.size = size) (hsz : 0 < size)
    (v : Value) (n : Nat) (xs : List Value) (hown : w.ownsRow base e size v n xs) (S : Nat → Prop) (A : Option Addr) (m c : Nat) (news : List Value) (hl : news.length = m * size) (hr : Rd w S A news) (h1 : ∀ u ∈ news, u.oneCell' = true)
    (h63 : n + m ≤ maxLen) (hbytes : (n + m) * bytes ≤ 140737488355328) (hbase : base ≤ w.heap.size) :
    ∃ v' w', (Builtin.append_ #[t, t] ty #[v, .slice A m c]).run P w = .ok v' w' ∧ w'.ownsRow base e size v' (n + m) (xs ++ news) ∧ w.grownBy w' v.ownBlock ∧ (v'.ownBlock = v.ownBlock ∨ v'.ownBlock = some w.heap.size) := by
  by_cases hnews : news = []
  · subst hnews
    have hm : m = 0 := by
      rcases Nat.mul_eq_zero.1 (show m * size = 0 from hl.symm) with h | h
      · exact h
      · omega
    subst hm
    cases A with
    | none =>
      refine ⟨v, w, ?_, by simpa using hown, ⟨rfl, rfl, rfl, Nat.le_refl _, fun _ _ _ => rfl⟩, .inl rfl⟩
      rcases hown.2 with ⟨rfl, rfl⟩ | ⟨g, cap, cur, rfl, _, _, hnc, _⟩
      · simp [Builtin.append_, run_underlying ht, sizeOf, typeInfo, hi, Builtin.lenOf, Builtin.firstCells]
      · simp [Builtin.append_, run_underlying ht, sizeOf, typeInfo, hi, Builtin.lenOf, Builtin.firstCells, hnc, storeCells]
    | some ad =>
      obtain ⟨v', w', h2, h3, h4, _, h5⟩ := run_append_own_at (P := P) w base t ty e i z size bytes ht hi hz hsize hby hzs hsz v n xs hown ad 0 c [] hl (by simp) h1 h63 hbytes hbase
      exact ⟨v', w', h2, h3, h4, h5⟩
  · obtain ⟨ad, rfl, _, hc⟩ := hr (List.length_pos_iff.2 hnews)
    obtain ⟨v', w', h2, h3, h4, _, h5⟩ := run_append_own_at (P := P) w base t ty e i z size bytes ht hi hz hsize hby hzs hsz v n xs hown ad m c news hl hc h1 h63 hbytes hbase
    exact ⟨v', w', h2, h3, h4, h5⟩

/-- what an append leaves: the row it makes is the call's own; nothing below base is changed -/
theorem wpList_append_rd {P : Program} {w : World} {ops : Array Oper} {rest : List Oper} {o : Oper} {a : Act} {Q : Exit → Act → World → Prop} (hgd : o.guard = none) (s x : Operand) (t : TypeId)
    (ho : o.op = .call { callee := .builtin .append, args := #[s, x], argTypes := #[t, t] })
    (base : Nat) (e : TypeId) (z : Value) (size bytes : Nat) (ht : P.underlying t = some (.slice e)) (hinfo : (P.info? e).map (fun i => (i.zero, i.size, i.bytes)) = some (some z, size, bytes)) (hzs : z.cells.size = size) (hsz : 0 < size) (hb16 : bytes ≤ 64)
    (v : Value) (n : Nat) (xs : List Value) (hs : a.eval s = v) (hown : w.ownsRow base e size v n xs) (S : Nat → Prop) (A : Option Addr) (m c : Nat) (news : List Value) (hx : a.eval x = .slice A m c) (hl : news.length = m * size) (hr : Rd w S A news) (h1 : ∀ u ∈ news, u.oneCell' = true)
    (hN : n + m ≤ 4000000) (hbase : base ≤ w.heap.size)
    (h : ∀ v' w', Hid (w'.ownsRow base e size v' (n + m) (xs ++ news)) → Hid (Below base w w') → wpList P ops Q rest (a.put o.dst v') w') : wpList P ops Q (o :: rest) a w := by
  refine wpList_plain hgd fun K hK => ?_
  obtain ⟨i, hi, hz, hsize, hby⟩ := info_parts hinfo
  obtain ⟨v', w', hrun, h2, h3, h4⟩ := run_append_rd (P := P) w base t o.type e i z size bytes ht hi hz hsize hby hzs hsz v n xs hown S A m c news hl hr h1 (by simp only [maxLen]; omega)
    (by have : (n + m) * bytes ≤ 4000000 * 64 := Nat.mul_le_mul hN hb16
        omega) hbase
  unfold Oper.wp
  simp only [execOp, ho, resolve, invoke, builtin, Sem.run_bind, Sem.run_pure, Result.andThen_ok, List.map_toArray, List.map_cons, List.map_nil, hs, hx, hrun]
  exact hK _ _ (h v' w' h2 ((Below.refl _ _).grown h3 hbase (fun k hk => (hown.lt k hk).1)))

theorem own_form {w : World} {base e size n : Nat} {v : Value} {xs : List Value} (h : w.ownsRow base e size v n xs) :
    ∃ A c, v = .slice A n c ∧ n ≤ c ∧ Rd w (fun b => base ≤ b ∧ b < w.heap.size) A xs := by
  rcases h.2 with ⟨rfl, rfl⟩ | ⟨g, cap, cur, rfl, hbg, hg, hnc, _⟩
  · refine ⟨none, 0, rfl, Nat.le_refl _, ?_⟩
    have : xs = [] := List.eq_nil_of_length_eq_zero (by simpa using h.1)
    subst this
    exact Rd.none_
  · exact ⟨_, cap, rfl, hnc, fun _ => ⟨_, rfl, ⟨hbg, (h.lt g rfl).2⟩, h.cells (g := g) rfl⟩⟩
theorem own_empty {w : World} {base e size : Nat} (hb : base ≤ w.heap.size) : (w.alloc (.cells #[] e)).ownsRow base e size (.slice (some ⟨w.heap.size, 0, none⟩) 0 0) 0 [] :=
  ⟨by simp, .inr ⟨w.heap.size, 0, #[], rfl, hb, heap_alloc_new w _, Nat.le_refl _, by simp [maxLen], by simp, by simp⟩⟩

end Go.Proofs.YtcmlmfcnbmpajaaDoor.Lx
namespace Go.Proofs.YtcmlmfcnbmpajaaDoor.Lx
open Go.ChangeShapes Go.WideShapes Go.ChangeAt Go.RowKit
set_option linter.unusedVariables false

def kindN (n : Nat) : Nat := if n = 32 ∨ n = 9 then 2 else if n = 10 then 3 else if n = 35 then 4
  else if 97 ≤ n ∧ n ≤ 122 then 5 else if 48 ≤ n ∧ n ≤ 57 then 6 else if n = 45 ∨ n = 95 then 7 else 0
theorem ne_f {n : Nat} {k : Int} (h : (n : Int) ≠ k) : ((n : Int) == k) = false := by rw [beq_eq_false_iff_ne]; exact h
theorem quiet_left {P : Program} {f : FuncId} {args : Array Value} {w : World} {n : Nat} {v : Value}
    (h : Calls P f args (w.drewN n) fun e w' => e = .returned v ∧ w.drewN n = w') : Calls P f args (w.drewN n) fun e w'' => e = .returned v ∧ ∃ m, w'' = w.drewN m :=
  h.mono fun _ _ ⟨he, hm⟩ => ⟨he, n, hm.symm⟩
theorem quiet_add_left {P : Program} {f : FuncId} {args : Array Value} {w : World} {a n : Nat} {v : Value}
    (h : Calls P f args (w.drewN (a + n)) fun e w' => e = .returned v ∧ w.drewN (a + n) = w') :
    Calls P f args (w.drewN (a + n)) fun e w'' => e = .returned v ∧ ∃ m, w'' = w.drewN (a + m) :=
  h.mono fun _ _ ⟨he, hm⟩ => ⟨he, n, hm.symm⟩

set_option maxHeartbeats 1000000 in
theorem kindN_any (n : Nat) (w : World) : Calls Tryd.prog 95 #[.int .u8 (n : Int)] w fun e w' => e = .returned (.int .i64 (kindN n)) ∧ w = w' := by
  by_cases a1 : n = 32
  · subst a1; go_enter Tryd.func95, Tryd.ntmps95; go_wp2; go_ret; exact ⟨rfl, rfl⟩
  by_cases a2 : n = 9
  · subst a2; go_enter Tryd.func95, Tryd.ntmps95; go_wp2; go_ret; exact ⟨rfl, rfl⟩
  by_cases a3 : n = 10
  · subst a3; go_enter Tryd.func95, Tryd.ntmps95; go_wp2; go_ret; exact ⟨rfl, rfl⟩
  by_cases a4 : n = 35
  · subst a4; go_enter Tryd.func95, Tryd.ntmps95; go_wp2; go_ret; exact ⟨rfl, rfl⟩
  by_cases a5 : n = 45
  · subst a5; go_enter Tryd.func95, Tryd.ntmps95; go_wp2; go_ret; exact ⟨rfl, rfl⟩
  by_cases a6 : n = 95
  · subst a6; go_enter Tryd.func95, Tryd.ntmps95; go_wp2; go_ret; exact ⟨rfl, rfl⟩
  have b1 : ((n : Int) == 32) = false := ne_f (by omega)
  have b2 : ((n : Int) == 9) = false := ne_f (by omega)
  have b3 : ((n : Int) == 10) = false := ne_f (by omega)
  have b4 : ((n : Int) == 35) = false := ne_f (by omega)
  have b5 : ((n : Int) == 45) = false := ne_f (by omega)
  have b6 : ((n : Int) == 95) = false := ne_f (by omega)
  by_cases l1 : 97 ≤ n
  · by_cases l2 : n ≤ 122
    · have H : Hid (kindN n = 5) := Lib.hid (by unfold kindN; rw [if_neg (by omega), if_neg (by omega), if_neg (by omega), if_pos (by omega)])
      have c1 : (97 : Int) ≤ (n : Int) := by omega
      have c2 : (n : Int) ≤ 122 := by omega
      clear a1 a2 a3 a4 a5 a6
      go_enter Tryd.func95, Tryd.ntmps95
      go_wp2
      go_ret
      exact ⟨by rw [H.out]; rfl, rfl⟩
    · have H : Hid (kindN n = 0) := Lib.hid (by unfold kindN; rw [if_neg (by omega), if_neg (by omega), if_neg (by omega), if_neg (by omega), if_neg (by omega), if_neg (by omega)])
      have c1 : (97 : Int) ≤ (n : Int) := by omega
      have c2 : ¬ (n : Int) ≤ 122 := by omega
      have c3 : (48 : Int) ≤ (n : Int) := by omega
      have c4 : ¬ (n : Int) ≤ 57 := by omega
      clear a1 a2 a3 a4 a5 a6
      go_enter Tryd.func95, Tryd.ntmps95
      go_wp2
      go_ret
      exact ⟨by rw [H.out]; rfl, rfl⟩
  · have c1 : ¬ (97 : Int) ≤ (n : Int) := by omega
    by_cases d1 : 48 ≤ n
    · have c3 : (48 : Int) ≤ (n : Int) := by omega
      by_cases d2 : n ≤ 57
      · have H : Hid (kindN n = 6) := Lib.hid (by unfold kindN; rw [if_neg (by omega), if_neg (by omega), if_neg (by omega), if_neg (by omega), if_pos (by omega)])
        have c4 : (n : Int) ≤ 57 := by omega
        clear a1 a2 a3 a4 a5 a6
        go_enter Tryd.func95, Tryd.ntmps95
        go_wp2
        go_ret
        exact ⟨by rw [H.out]; rfl, rfl⟩
      · have H : Hid (kindN n = 0) := Lib.hid (by unfold kindN; rw [if_neg (by omega), if_neg (by omega), if_neg (by omega), if_neg (by omega), if_neg (by omega), if_neg (by omega)])
        have c4 : ¬ (n : Int) ≤ 57 := by omega
        clear a1 a2 a3 a4 a5 a6
        go_enter Tryd.func95, Tryd.ntmps95
        go_wp2
        go_ret
        exact ⟨by rw [H.out]; rfl, rfl⟩
    · have H : Hid (kindN n = 0) := Lib.hid (by unfold kindN; rw [if_neg (by omega), if_neg (by omega), if_neg (by omega), if_neg (by omega), if_neg (by omega), if_neg (by omega)])
      have c3 : ¬ (48 : Int) ≤ (n : Int) := by omega
      clear a1 a2 a3 a4 a5 a6
      go_enter Tryd.func95, Tryd.ntmps95
      go_wp2
      go_ret
      exact ⟨by rw [H.out]; rfl, rfl⟩
theorem kind_any (c : UInt8) (w : World) : Calls Tryd.prog 95 #[.int .u8 (c.toNat : Int)] w fun e w' => e = .returned (.int .i64 (kindOf c)) ∧ w = w' := kindN_any c.toNat w

/-- the cursor's cells -/
def curL (s : ByteArray) (pos line first : Nat) (v : Value) (e l c : Int) : List Value := [.string s, .int .i64 pos, .int .i64 line, .int .i64 first, v, .int .i64 e, .int .i64 l, .int .i64 c]
/-- the cursor's object is block B; its row of tokens is the call's own, from block n0 on -/
structure CurAt (w : World) (n0 B : Nat) (s : ByteArray) (pos line first : Nat) (toks : List Tok) : Prop where
  lo : n0 ≤ B
  posLe : pos ≤ s.size
  firstLe : first ≤ pos
  size : s.size ≤ 65536
  lineLe : line ≤ pos + 1
  count : toks.length + (if someT toks then 1 else 0) ≤ 2 * pos
  obj : ∃ v, Blk w B 135 (curL s pos line first v 0 0 0) ∧ w.ownsRow n0 168 5 v toks.length (tc toks)
theorem CurAt.after {w w' : World} {n0 B : Nat} {s : ByteArray} {pos line first : Nat} {toks : List Tok} (h : CurAt w n0 B s pos line first toks) (hb : Below w.heap.size w w') : CurAt w' n0 B s pos line first toks := by
  obtain ⟨v, h1, h2⟩ := h.obj
  exact ⟨h.lo, h.posLe, h.firstLe, h.size, h.lineLe, h.count, v, h1.after hb, own_after h2 hb⟩
/-- what comes behind the cursor -/
def rest (s : ByteArray) (pos : Nat) : List UInt8 := s.data.toList.drop pos
theorem rest_over {s : ByteArray} {pos : Nat} (h : s.size ≤ pos) : rest s pos = [] := List.drop_eq_nil_of_le (by simpa using h)
theorem rest_at {s : ByteArray} {pos : Nat} (h : pos < s.size) : rest s pos = s[pos] :: rest s (pos + 1) := List.drop_eq_getElem_cons (by simpa using h)
def QuietI (w : World) (n : Int) (e : Ending) (w' : World) : Prop := e = .returned (.int .i64 n) ∧ Below w.heap.size w w'

set_option maxHeartbeats 1000000 in
theorem next_cells (w : World) (B : Nat) (s : ByteArray) (pos : Nat) (hs : s.size ≤ 65536) (hp : pos ≤ s.size) (h0 : w.cell? ⟨B, 0, none⟩ = some (.string s)) (h1 : w.cell? ⟨B, 1, none⟩ = some (.int .i64 pos)) :
    Calls Tryd.prog 88 #[.pointer (some ⟨B, 0, none⟩)] w (QuietI w (nextK (rest s pos))) := by
  by_cases hlt : pos < s.size
  · have H : Hid (nextK (rest s pos) = kindOf s[pos]) := Lib.hid (by rw [rest_at hlt]; rfl)
    have hne : ((pos : Int) == (s.size : Int)) = false := by rw [beq_eq_false_iff_ne]; omega
    have hl : (pos : Int) < (s.size : Int) := by omega
    go_enter Tryd.func88, Tryd.ntmps88
    go_wp2
    go_quiet (fail)
    go_wp2
    go_quiet ((go_at_call 95; exact quiet_add_left (kind_any s[pos] _)))
    go_wp2
    go_ret
    exact ⟨ret_i (by rw [H.out]), below_drewN (below_drewN (Below.refl _ _) _) _⟩
  · have H : Hid (nextK (rest s pos) = 1) := Lib.hid (by rw [rest_over (by omega)]; rfl)
    obtain rfl : pos = s.size := by omega
    go_enter Tryd.func88, Tryd.ntmps88
    go_wp2
    go_quiet (fail)
    go_wp2
    go_ret
    exact ⟨ret_i (by rw [H.out]; rfl), below_drewN (Below.refl _ _) _⟩

/-- the cells of kinds -/
def kc (l : List Nat) : List Value := l.map fun (k : Nat) => Value.int .i64 (k : Int)
theorem kc_length (l : List Nat) : (kc l).length = l.length := by simp [kc]
theorem Rd.kinds {w : World} {S : Nat → Prop} {A : Option Addr} {ks : List Nat} (h : Rd w S A (kc ks)) {j : Nat} (hj : j < ks.length) : ∃ ad, A = some ad ∧ w.cell? (ad.add j) = some (.int .i64 ((ks.getD j 0 : Nat) : Int)) := by
  obtain ⟨ad, e, hb, hc⟩ := h (by rw [kc_length]; omega)
  exact ⟨ad, e, hc j _ (by simp [kc, List.getD_eq_getElem?_getD, List.getElem?_eq_getElem hj])⟩
theorem below_keep {w w' : World} (h : w = w') : Below w.heap.size w w' := by subst h; exact Below.refl _ _

def inKs (ks : List Nat) (k : Nat) : Bool := ks.contains k
def IdxPost (ks : List Nat) (k : Nat) (w : World) (e : Ending) (w' : World) : Prop := (∃ i : Int, e = .returned (.int .i64 i) ∧ inKs ks k = decide (0 ≤ i)) ∧ w = w'
theorem inKs_yes {ks : List Nat} {k j : Nat} (hj : j < ks.length) (h : ks.getD j 0 = k) : inKs ks k = true := by
  unfold inKs
  rw [List.contains_iff_mem]
  rw [List.getD_eq_getElem?_getD, List.getElem?_eq_getElem hj] at h
  exact h ▸ List.getElem_mem hj
theorem inKs_no {ks : List Nat} {k : Nat} (h : ∀ i, i < ks.length → ks.getD i 0 ≠ k) : inKs ks k = false := by
  unfold inKs
  rw [Bool.eq_false_iff]
  intro hc
  rw [List.contains_iff_mem] at hc
  obtain ⟨i, hi, e⟩ := List.mem_iff_getElem.1 hc
  have := h i hi
  rw [List.getD_eq_getElem?_getD, List.getElem?_eq_getElem hi] at this
  exact this e
set_option maxHeartbeats 1000000 in
theorem index_any (ks : List Nat) (k : Nat) (w : World) (A : Option Addr) (n c : Nat) (hn : Hid (n = ks.length)) (hN : n ≤ 100) (hr : Rd w (fun _ => True) A (kc ks)) :
    Calls Tryd.prog 99 #[.slice A n c, .int .i64 (k : Int)] w (IdxPost ks k w) := by
  have HR := Lib.hid hr
  clear hr
  go_enter Tryd.func99, Tryd.ntmps99
  go_wp2
  go_loop [8] (fun v => ∃ j : Nat, v = .int .i64 j ∧ j ≤ n ∧ Hid (∀ i, i < j → ks.getD i 0 ≠ k)) (fun v => n - (intOf v).toNat)
  case atStart => exact ⟨0, rfl, by omega, Lib.hid (fun i h => by omega)⟩
  case round =>
    obtain ⟨j, rfl, hj, HA⟩ := hrel
    by_cases hlt : j < n
    · obtain ⟨ad, rfl, hc⟩ := HR.out.kinds (j := j) (by rw [← hn.out]; exact hlt)
      have hi : (j : Int) < (n : Int) := by omega
      by_cases he : ks.getD j 0 = k
      · have H : Hid (inKs ks k = true) := Lib.hid (inKs_yes (by rw [← hn.out]; exact hlt) he)
        rw [he] at hc
        clear he
        go_wp2
        go_ret
        exact ⟨⟨_, rfl, by rw [H.out]; exact (decide_eq_true (by omega)).symm⟩, rfl⟩
      · obtain ⟨q, hq⟩ : ∃ q, q = ks.getD j 0 := ⟨_, rfl⟩
        rw [← hq] at hc
        have hne : ((k : Int) == (q : Int)) = false := ne_f (by intro e; apply he; rw [← hq]; omega)
        have HQ := Lib.hid hq
        have HE := Lib.hid he
        clear he hq
        go_wp2
        go_round
        case rel => exact ⟨j + 1, by go_num, by omega, Lib.hid (fun i h => by
          rcases Nat.lt_or_ge i j with h' | h'
          · exact HA.out i h'
          · obtain rfl : i = j := by omega
            exact HE.out)⟩
        case measure => simp [intOf]; omega
    · have H : Hid (inKs ks k = false) := Lib.hid (inKs_no (fun i h => HA.out i (by have := hn.out; omega)))
      have hi : ¬ (j : Int) < (n : Int) := by omega
      go_wp2
      go_ret
      exact ⟨⟨_, rfl, by rw [H.out]; rfl⟩, rfl⟩
theorem contains_any (ks : List Nat) (k : Nat) (w : World) (A : Option Addr) (n c : Nat) (hn : Hid (n = ks.length)) (hN : n ≤ 100) (hr : Rd w (fun _ => True) A (kc ks)) :
    Calls Tryd.prog 96 #[.slice A n c, .int .i64 (k : Int)] w fun e w' => e = .returned (.bool (inKs ks k)) ∧ w = w' := by
  have HR := Lib.hid hr
  clear hr
  go_enter Tryd.func96, Tryd.ntmps96
  go_wp2_with (go_at_call 99; refine (index_any ks k _ A n c hn hN HR.out).mono ?_; rintro e w' ⟨⟨i, rfl, hi⟩, rfl⟩; have HI := Lib.hid hi; clear hi)
  go_ret
  exact ⟨ret_b HI.out, rfl⟩

section
variable {w w' : World} {n0 B : Nat} {s : ByteArray} {pos line first : Nat} {toks : List Tok}
theorem CurAt.c0 (h : CurAt w n0 B s pos line first toks) : w.cell? ⟨B, 0, none⟩ = some (.string s) := by obtain ⟨v, h1, _⟩ := h.obj; exact h1.cell 0
theorem CurAt.c1 (h : CurAt w n0 B s pos line first toks) : w.cell? ⟨B, 1, none⟩ = some (.int .i64 (pos : Int)) := by obtain ⟨v, h1, _⟩ := h.obj; exact h1.cell 1
theorem CurAt.c2 (h : CurAt w n0 B s pos line first toks) : w.cell? ⟨B, 2, none⟩ = some (.int .i64 (line : Int)) := by obtain ⟨v, h1, _⟩ := h.obj; exact h1.cell 2
theorem CurAt.c3 (h : CurAt w n0 B s pos line first toks) : w.cell? ⟨B, 3, none⟩ = some (.int .i64 (first : Int)) := by obtain ⟨v, h1, _⟩ := h.obj; exact h1.cell 3
theorem CurAt.fr (h : CurAt w n0 B s pos line first toks) (i : Nat) : w.frozen? ⟨B, i, none⟩ = false := by obtain ⟨v, h1, _⟩ := h.obj; exact h1.frozen i
theorem CurAt.lt (h : CurAt w n0 B s pos line first toks) : B < w.heap.size := by obtain ⟨v, h1, _⟩ := h.obj; exact h1.lt
theorem CurAt.base (h : CurAt w n0 B s pos line first toks) : n0 ≤ w.heap.size := by have := h.lo; have := h.lt; omega
theorem own_not {v : Value} {n : Nat} {xs l : List Value} {t : TypeId} (h : w.ownsRow n0 168 5 v n xs) (hb : Blk w B t l) (ht : t ≠ 168) : v.ownBlock ≠ some B := by
  rcases h.2 with ⟨rfl, _⟩ | ⟨g, cap, cur, rfl, _, hg, _⟩
  · simp [Value.ownBlock]
  · intro e
    simp only [Value.ownBlock, Option.some.injEq] at e
    subst e
    unfold Blk at hb
    rw [hg] at hb
    injection hb with hb
    injection hb with _ hb
    exact ht hb.symm
/-- a number is written into the cursor -/
theorem CurAt.wrote (h : CurAt w n0 B s pos line first toks) {pos' line' first' : Nat} (i : Nat) (u : Value) (hl : ∀ v, (curL s pos line first v 0 0 0).set i u = curL s pos' line' first' v 0 0 0)
    (h1 : pos' ≤ s.size) (h2 : first' ≤ pos') (h3 : line' ≤ pos' + 1) (h4 : pos ≤ pos') : CurAt (w.setCell ⟨B, i, none⟩ u) n0 B s pos' line' first' toks := by
  obtain ⟨v, k1, k2⟩ := h.obj
  have hc := h.count
  refine ⟨h.lo, h1, h2, h.size, h3, by omega, v, ?_, ?_⟩
  · have := k1.set_ i u
    rwa [hl] at this
  · exact ownsRow_setCell_other k2 (own_not k2 k1 (by decide)) u
theorem CurAt.step (h : CurAt w n0 B s pos line first toks) (hp : pos < s.size) {u : Value} (hu : u = .int .i64 ((pos + 1 : Nat) : Int)) : CurAt (w.setCell ⟨B, 1, none⟩ u) n0 B s (pos + 1) line first toks := by
  subst hu
  exact h.wrote 1 _ (fun v => rfl) (by omega) (by have := h.firstLe; omega) (by have := h.lineLe; omega) (by omega)
theorem CurAt.store (h : CurAt w n0 B s pos line first toks) {a : World} (hb : Below n0 a w) (i : Nat) (u : Value) : Below n0 a (w.setCell ⟨B, i, none⟩ u) := hb.setCell h.lo u
end
theorem next_any {w : World} {n0 B : Nat} {s : ByteArray} {pos line first : Nat} {toks : List Tok} (h : CurAt w n0 B s pos line first toks) :
    Calls Tryd.prog 88 #[.pointer (some ⟨B, 0, none⟩)] w (QuietI w (nextK (rest s pos))) := next_cells w B s pos h.size h.posLe h.c0 h.c1

/-- how far bytes of some kinds go -/
def passP (ks : List Nat) (c : UInt8) : Bool := inKs ks (kindOf c)
def runN (ks : List Nat) (s : ByteArray) (pos : Nat) : Nat := ((rest s pos).takeWhile (passP ks)).length
theorem rest_len (s : ByteArray) (pos : Nat) : (rest s pos).length = s.size - pos := by simp [rest]
theorem run_le (ks : List Nat) (s : ByteArray) (pos : Nat) (h : pos ≤ s.size) : pos + runN ks s pos ≤ s.size := by
  have h1 : runN ks s pos ≤ (rest s pos).length := (List.takeWhile_prefix _).length_le
  rw [rest_len] at h1; omega
theorem rest_add (s : ByteArray) (a b : Nat) : rest s (a + b) = (rest s a).drop b := by simp [rest, List.drop_drop]
theorem run_kin {ks : List Nat} (l : List UInt8) : ∀ j, j < (l.takeWhile (passP ks)).length → inKs ks (nextK (l.drop j)) = true := by
  induction l with
  | nil => intro j h; simp at h
  | cons c r ih =>
    intro j h
    by_cases hc : passP ks c = true
    · rw [List.takeWhile_cons_of_pos hc] at h
      cases j with
      | zero => exact hc
      | succ j => exact ih j (by simpa using h)
    · rw [List.takeWhile_cons_of_neg hc] at h; simp at h
theorem run_out {ks : List Nat} (h1 : inKs ks 1 = false) (l : List UInt8) : inKs ks (nextK (l.drop (l.takeWhile (passP ks)).length)) = false := by
  induction l with
  | nil => exact h1
  | cons c r ih =>
    by_cases hc : passP ks c = true
    · rw [List.takeWhile_cons_of_pos hc]; exact ih
    · rw [List.takeWhile_cons_of_neg hc]
      show passP ks c = false
      simpa using hc
theorem drop_run (p : UInt8 → Bool) (l : List UInt8) : l.drop (l.takeWhile p).length = l.dropWhile p := by
  induction l with
  | nil => rfl
  | cons c r ih =>
    by_cases hc : p c = true
    · rw [List.takeWhile_cons_of_pos hc, List.dropWhile_cons_of_pos hc]; exact ih
    · rw [List.takeWhile_cons_of_neg hc, List.dropWhile_cons_of_neg hc]; rfl
theorem take_run (p : UInt8 → Bool) (l : List UInt8) : l.take (l.takeWhile p).length = l.takeWhile p := by
  induction l with
  | nil => rfl
  | cons c r ih =>
    by_cases hc : p c = true
    · rw [List.takeWhile_cons_of_pos hc]; simp [ih]
    · rw [List.takeWhile_cons_of_neg hc]; rfl
def PassPost (ks : List Nat) (w : World) (n0 B : Nat) (s : ByteArray) (pos line first : Nat) (toks : List Tok) (e : Ending) (w' : World) : Prop :=
  e = .returned (.string (s.extract pos (pos + runN ks s pos))) ∧ CurAt w' n0 B s (pos + runN ks s pos) line first toks ∧ Below n0 w w'
def PassRel (ks : List Nat) (w : World) (n0 B gk : Nat) (s : ByteArray) (pos line first : Nat) (toks : List Tok) (k : Nat) (wr : World) : Prop :=
  ∃ j, j ≤ runN ks s pos ∧ k = runN ks s pos - j ∧ CurAt wr n0 B s (pos + j) line first toks ∧ Blk wr gk 136 (kc ks) ∧ Below n0 w wr
theorem kinds_rd {w : World} {gk : Nat} {ks : List Nat} (h : Blk w gk 136 (kc ks)) : Rd w (fun _ => True) (some ⟨gk, 0, none⟩) (kc ks) := h.rd trivial 0

end Go.Proofs.YtcmlmfcnbmpajaaDoor.Lx
namespace Go.Proofs.YtcmlmfcnbmpajaaDoor.Lx
open Go.ChangeShapes Go.WideShapes Go.ChangeAt Go.RowKit
set_option linter.unusedVariables false

set_option maxHeartbeats 1000000 in
theorem pass_any (ks : List Nat) (hk1 : inKs ks 1 = false) (n : Nat) (hn : Hid (n = ks.length)) (hN : n ≤ 100) {w : World} {n0 B gk : Nat} {s : ByteArray} {pos line first : Nat} {toks : List Tok} (h : CurAt w n0 B s pos line first toks)
    (hk : Blk w gk 136 (kc ks)) :
    Calls Tryd.prog 89 #[.pointer (some ⟨B, 0, none⟩), .slice (some ⟨gk, 0, none⟩) n n] w (PassPost ks w n0 B s pos line first toks) := by
  have HS : Hid (PassRel ks w n0 B gk s pos line first toks (runN ks s pos) w) := Lib.hid ⟨0, by omega, by omega, h, hk, Below.refl _ _⟩
  have c1 := h.c1
  have HK1 := Lib.hid hk1
  have HR := Lib.hid (run_le ks s pos h.posLe)
  have HZ := Lib.hid h.size
  have HG : Hid (gk ≠ B) := Lib.hid (fun e => by
    obtain ⟨v, hv, _⟩ := h.obj
    subst e
    unfold Blk at hk hv
    rw [hk] at hv
    injection hv with hv
    injection hv with _ hv
    exact absurd hv (by decide))
  clear h hk hk1
  go_enter Tryd.func89, Tryd.ntmps89
  go_wp2
  go_loopg [] (runN ks s pos) (fun k wr => PassRel ks w n0 B gk s pos line first toks k wr)
  case atStart => exact HS.out
  case round =>
    obtain ⟨j, hj, hgk, hcur, hkk, hbel⟩ := hrel
    have HJ := Lib.hid hgk
    have HC := Lib.hid hcur
    have HKK := Lib.hid hkk
    have HB := Lib.hid hbel
    have hsz := HZ.out
    have hpm := HR.out
    clear hgk hcur hkk hbel
    by_cases hlt : j < runN ks s pos
    · have HY : Hid (inKs ks (nextK (rest s (pos + j))) = true) := Lib.hid (by rw [rest_add]; exact run_kin _ j hlt)
      go_wp2_with (first
        | (go_at_call 88; refine (next_any HC.out).mono ?_; rintro e w1 ⟨rfl, hb1⟩; have HB1 := Lib.hid hb1; clear hb1; have HC1 := Lib.hid (HC.out.after HB1.out); have HK2 := Lib.hid (HKK.out.after HB1.out); have d1 := HC1.out.c1; have f1 := HC1.out.fr 1)
        | (go_at_call 96; refine (contains_any ks _ _ _ n n hn hN (kinds_rd HK2.out)).mono ?_; rintro e w2 ⟨rfl, rfl⟩; rw [HY.out]))
      go_roundg (runN ks s pos - (j + 1))
      case rel => exact ⟨j + 1, by omega, rfl, HC1.out.step (by omega) (by go_num), HK2.out.far HG.out _, HC1.out.store (below_then HB.out HB1.out HC.out.base) 1 _⟩
      case measure => have := HJ.out; omega
    · obtain rfl : j = runN ks s pos := by omega
      have hy : inKs ks (nextK (rest s (pos + runN ks s pos))) = false := by rw [rest_add]; exact run_out HK1.out _
      obtain ⟨q, hq⟩ : ∃ q, q = pos + runN ks s pos := ⟨_, rfl⟩
      have HQ := Lib.hid hq
      rw [← hq] at hy HC hpm
      have HY := Lib.hid hy
      have hle : (pos : Int) ≤ (q : Int) := by omega
      have hle2 : (q : Int) ≤ (s.size : Int) := by omega
      have hle3 : pos ≤ q := by omega
      clear hy hq
      go_wp2_with (first
        | (go_at_call 88; refine (next_any HC.out).mono ?_; rintro e w1 ⟨rfl, hb1⟩; have HB1 := Lib.hid hb1; clear hb1; have HC1 := Lib.hid (HC.out.after HB1.out); have HK2 := Lib.hid (HKK.out.after HB1.out); have d1 := HC1.out.c1; have d0 := HC1.out.c0; have f1 := HC1.out.fr 1)
        | (go_at_call 96; refine (contains_any ks _ _ _ n n hn hN (kinds_rd HK2.out)).mono ?_; rintro e w2 ⟨rfl, rfl⟩; rw [HY.out]))
      go_quiet (fail)
      go_wp2
      go_ret
      have hq := HQ.out
      unfold PassPost
      rw [← hq]
      exact ⟨rfl, HC1.out.after (below_drewN (Below.refl _ _) _), below_drewN (below_then HB.out HB1.out HC.out.base) _⟩
end Go.Proofs.YtcmlmfcnbmpajaaDoor.Lx
namespace Go.Proofs.YtcmlmfcnbmpajaaDoor.Lx
open Go.ChangeShapes Go.WideShapes Go.ChangeAt Go.RowKit
set_option linter.unusedVariables false

theorem ret_2 {a b c d : Int} (h : a = c) (k : b = d) : Ending.returned (.tuple #[.int .i64 a, .int .i64 b]) = .returned (.tuple #[.int .i64 c, .int .i64 d]) := by rw [h, k]
def PlacePost (w : World) (line col : Int) (e : Ending) (w' : World) : Prop := e = .returned (.tuple #[.int .i64 line, .int .i64 col]) ∧ Below w.heap.size w w'
/-- the cursor has given up -/
def RefAt (w : World) (B : Nat) (s : ByteArray) (pos line first : Nat) (e l c : Int) : Prop := Blk w B 135 (curL s pos line first (.slice none 0 0) e l c)
def RefPost (w : World) (n0 B : Nat) (s : ByteArray) (pos line first : Nat) (err l c : Int) (e : Ending) (w' : World) : Prop := e = .returned .nilFunc ∧ RefAt w' B s pos line first err l c ∧ Below n0 w w'
theorem step_append_rd {P : Program} {w : World} {ops : Array Oper} {o : Oper} {a : Act} {K : Act → World → Prop} {Q : Exit → Act → World → Prop} {E : Prop} (hgd : o.guard = none) (s x : Operand) (t : TypeId)
    (ho : o.op = .call { callee := .builtin .append, args := #[s, x], argTypes := #[t, t] })
    (base : Nat) (e : TypeId) (z : Value) (size bytes : Nat) (ht : P.underlying t = some (.slice e)) (hinfo : (P.info? e).map (fun i => (i.zero, i.size, i.bytes)) = some (some z, size, bytes)) (hzs : z.cells.size = size) (hsz : 0 < size) (hb16 : bytes ≤ 64)
    (v : Value) (n : Nat) (xs : List Value) (hs : a.eval s = v) (hown : Hid (w.ownsRow base e size v n xs)) (S : Nat → Prop) (A : Option Addr) (m c : Nat) (news : List Value) (hx : a.eval x = .slice A m c) (hl : Hid (news.length = m * size)) (hr : Hid (Rd w S A news)) (h1 : ∀ u ∈ news, u.oneCell' = true)
    (hN : n + m ≤ 4000000) (hbase : base ≤ w.heap.size)
    (h : ∀ v' w', Hid (w'.ownsRow base e size v' (n + m) (xs ++ news)) → Hid (Below base w w') → Hid (w.grownBy w' v.ownBlock) → K (a.put o.dst v') w') :
    if Region.wanted o (yielded ops a.tmps) = true then Oper.wp P o a w K Q else E := by
  have hw : Region.wanted o (yielded ops a.tmps) = true := by simp [Region.wanted, hgd]
  rw [if_pos hw]
  obtain ⟨i, hi, hz, hsize, hby⟩ := info_parts hinfo
  obtain ⟨v', w', hrun, h2, h3, h4⟩ := run_append_rd (P := P) w base t o.type e i z size bytes ht hi hz hsize hby hzs hsz v n xs hown.out S A m c news hl.out hr.out h1 (by simp only [maxLen]; omega)
    (by have : (n + m) * bytes ≤ 4000000 * 64 := Nat.mul_le_mul hN hb16
        omega) hbase
  unfold Oper.wp
  simp only [execOp, ho, resolve, invoke, builtin, Sem.run_bind, Sem.run_pure, Result.andThen_ok, List.map_toArray, List.map_cons, List.map_nil, hs, hx, hrun]
  exact h v' w' h2 ((Below.refl _ _).grown h3 hbase (fun k hk => (hown.out.lt k hk).1)) h3

theorem lit_rd (w : World) (l : Array Value) (t : TypeId) (xs : List Value) (h : xs.toArray = l) : Rd (w.alloc (.cells l t)) (· < (w.alloc (.cells l t)).heap.size) (some ⟨w.heap.size, 0, none⟩) xs := by
  subst h
  have h := (Blk.new w t xs).rd (S := (· < (w.alloc (.cells xs.toArray t)).heap.size)) (by simp) 0
  simpa using h

theorem e_lit (w : World) (l : Array Value) (t : TypeId) (xs : List Value) (h : xs.toArray = l) : Hid (Rd (w.alloc (.cells l t)) (· < (w.alloc (.cells l t)).heap.size) (some ⟨w.heap.size, 0, none⟩) xs) := lit_rd w l t xs h
theorem e_litd (w : World) (l : Array Value) (t : TypeId) (xs : List Value) (h : xs.toArray = l) : Hid (Rd (w.alloc (.cells l t)).drew (· < (w.alloc (.cells l t)).heap.size) (some ⟨w.heap.size, 0, none⟩) xs) := lit_rd w l t xs h
theorem grown_blk {W w3 : World} {B : Nat} {t : TypeId} {l : List Value} {o : Obj} {r : Option Nat} (h : Blk W B t l) (hg : (W.alloc o).drew.grownBy w3 r) (hr : r ≠ some B) : Blk w3 B t l :=
  (Blk.alloc h o).grown (w := (W.alloc o).drew) hg (fun e => hr e.symm)
theorem info_tok : (Tryd.prog.info? 168).map (fun i => (i.zero, i.size, i.bytes)) = some (some (.agg #[.int .i64 0, .string ⟨#[]⟩, .int .i64 0, .int .i64 0, .int .i64 0]), 5, 48) := by kernel_rfl

theorem put_fin {w W2 w3 : World} {n0 B : Nat} {s : ByteArray} {pos line first : Nat} {toks : List Tok} {o : Obj} {v v' : Value} (t : Tok) (h : CurAt w n0 B s pos line first toks) (h2 : Below w.heap.size w W2) (h3 : Below n0 (W2.alloc o).drew w3)
    (hv : Blk w3 B 135 (curL s pos line first v 0 0 0)) (ho : w3.ownsRow n0 168 5 v' (toks.length + 1) (tc toks ++ tk t)) (hc : toks.length + 1 + (if t.kind = 4 then 0 else 1) ≤ 2 * pos) :
    CurAt (w3.setCell ⟨B, 4, none⟩ v') n0 B s pos line first (toks ++ [t]) ∧ Below n0 w (w3.setCell ⟨B, 4, none⟩ v') := by
  have hlo := h.base
  refine ⟨⟨h.lo, h.posLe, h.firstLe, h.size, h.lineLe, ?_, v', ?_, ?_⟩, ?_⟩
  · rw [someT_snoc, List.length_append]
    by_cases e : t.kind = 4
    · rw [if_pos e] at hc
      simp only [e, beq_self_eq_true, Bool.not_true, Bool.false_eq_true, if_false, List.length_singleton]; exact hc
    · rw [if_neg e] at hc
      have : (t.kind == 4) = false := beq_eq_false_iff_ne.2 e
      rw [this]; simpa using hc
  · exact hv.set_ 4 v'
  · have e : tc (toks ++ [t]) = tc toks ++ tk t := by simp [tc]
    have := ownsRow_setCell_other (a := ⟨B, 4, none⟩) ho (own_not ho hv (by decide)) v'
    rw [e, List.length_append]
    exact this
  · have h4 : Below n0 w (W2.alloc o).drew := below_drew ((h2.mono hlo).alloc (Nat.le_trans hlo h2.size) o)
    exact (h4.trans h3).setCell h.lo _
def PutPost (w : World) (n0 B : Nat) (s : ByteArray) (pos line first : Nat) (toks : List Tok) (e : Ending) (w' : World) : Prop := e = .returned (.tuple #[]) ∧ CurAt w' n0 B s pos line first toks ∧ Below n0 w w'

end Go.Proofs.YtcmlmfcnbmpajaaDoor.Lx
namespace Go.Proofs.YtcmlmfcnbmpajaaDoor.Lx
open Go.ChangeShapes Go.WideShapes Go.ChangeAt Go.RowKit
set_option linter.unusedVariables false

set_option maxHeartbeats 1000000 in
theorem reserved_lit (l : List UInt8) (h : l ∈ reservedL) (w : World) : Calls Tryd.prog 87 #[.string ⟨l.toArray⟩] w fun e w' => e = .returned (.bool true) ∧ w = w' := by
  simp only [reservedL, List.mem_cons, List.not_mem_nil, or_false] at h
  rcases h with rfl | rfl | rfl | rfl | rfl | rfl | rfl | rfl | rfl | rfl | rfl | rfl | rfl | rfl | rfl
  all_goals
    go_enter Tryd.func87, Tryd.ntmps87
    go_wp2
    go_ret
    exact ⟨rfl, rfl⟩
theorem ne_lit {s : ByteArray} {l : List UInt8} (h : s.data.toList ≠ l) : (s.toList == l) = false := by rw [ByteArray.toList_eq, beq_eq_false_iff_ne]; exact h
set_option maxHeartbeats 1000000 in
theorem reserved_no (s : ByteArray) (h : isRes s.data.toList = false) (w : World) : Calls Tryd.prog 87 #[.string s] w fun e w' => e = .returned (.bool false) ∧ w = w' := by
  have hm : ∀ l ∈ reservedL, (s.toList == l) = false := fun l hl => ne_lit (fun e => by
    have : reservedL.contains s.data.toList = true := by rw [e]; exact List.contains_iff_mem.2 hl
    unfold isRes at h; rw [this] at h; cases h)
  simp only [reservedL, List.mem_cons, List.not_mem_nil, or_false, forall_eq_or_imp, forall_eq] at hm
  obtain ⟨h1, h2, h3, h4, h5, h6, h7, h8, h9, h10, h11, h12, h13, h14, h15⟩ := hm
  clear h
  go_enter Tryd.func87, Tryd.ntmps87
  go_wp2
  go_ret
  exact ⟨rfl, rfl⟩
theorem reserved_any (s : ByteArray) (w : World) : Calls Tryd.prog 87 #[.string s] w fun e w' => e = .returned (.bool (isRes s.data.toList)) ∧ w = w' := by
  cases h : isRes s.data.toList with
  | false => exact reserved_no s h w
  | true => exact reserved_lit s.data.toList (List.contains_iff_mem.1 h) w
end Go.Proofs.YtcmlmfcnbmpajaaDoor.Lx

