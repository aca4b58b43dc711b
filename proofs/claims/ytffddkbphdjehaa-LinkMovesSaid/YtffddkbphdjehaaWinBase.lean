/- Words for package window: rows of windows and of numbers as they lie in memory; what keeps them; append onto a row of the call's own. No conditions. -/
import Derived.Test.YtffddkbphdjehaaWinMath
import Derived.Test.YtffddkbphdjehaaTickKeep
import Derived.Laws.AppendOwnNone
import Derived.Deep.RegionHeld3
import Derived.WalkKit
import Derived.ProofKit
import Derived.OpenShut
import Derived.Handy
import Derived.Lib.Hide
import Derived.RegionTactic
import Derived.BigRegion
import Derived.ChangeAlike
import Derived.LoopTactic
import Derived.Deep.Draws
import Derived.Deep.QuietTactic
import Derived.BigQuiet
import Derived.Laws.OwnMore
import Derived.Laws.Rows
import Derived.Maps.AppendAt
import Derived.Deep.AppendLies
import Derived.Deep.LoopGhost
namespace Go.Proofs.Ytffddkbphdjehaa.Wn
open Go.ChangeShapes Go.WideShapes Go.ChangeAt Go.RowKit
set_option linter.unusedVariables false
set_option linter.unusedSimpArgs false

/-- the cells of windows -/
def kc (l : List Win) : List Value := l.flatMap fun p => [.int .i64 p.1, .int .i64 p.2]
/-- the cells of numbers -/
def ic (l : List Int) : List Value := l.map (Value.int .i64)
theorem kc_nil : kc [] = [] := rfl
theorem kc_cons (p : Win) (l : List Win) : kc (p :: l) = .int .i64 p.1 :: .int .i64 p.2 :: kc l := rfl
theorem kc_append (a b : List Win) : kc (a ++ b) = kc a ++ kc b := by simp [kc]
theorem kc_length (l : List Win) : (kc l).length = l.length * 2 := by
  induction l with
  | nil => rfl
  | cons p l ih => rw [kc_cons]; simp [ih]; omega
theorem ic_length (l : List Int) : (ic l).length = l.length := by simp [ic]
theorem kc_at (l : List Win) (k : Nat) (p : Win) (h : l[k]? = some p) : (kc l)[k * 2]? = some (.int .i64 p.1) ∧ (kc l)[k * 2 + 1]? = some (.int .i64 p.2) := by
  induction l generalizing k with
  | nil => simp at h
  | cons q l ih =>
    cases k with
    | zero => simp at h; subst h; simp [kc_cons]
    | succ k => simp at h; have := ih k h; rw [kc_cons]; have e : (k + 1) * 2 = k * 2 + 2 := by omega
                rw [e]; exact ⟨by simpa using this.1, by simpa using this.2⟩

theorem block_of_add (a : Addr) (n : Nat) : (a.add n).block = a.block := by unfold Addr.add; split <;> rfl
theorem add_of_add (a : Addr) (i j : Nat) : (a.add i).add j = a.add (i + j) := by
  unfold Addr.add
  by_cases hi : i = 0 <;> by_cases hj : j = 0 <;> simp [hi, hj, Nat.add_assoc]

/-- the cells xs lie from A on, in a block of S -/
def Rd (w : World) (S : Nat → Prop) (A : Option Addr) (xs : List Value) : Prop :=
  0 < xs.length → ∃ ad, A = some ad ∧ S ad.block ∧ ∀ j u, xs[j]? = some u → w.cell? (ad.add j) = some u
section
variable {w w' : World} {S S' : Nat → Prop} {A : Option Addr} {xs : List Value}
theorem Rd.none_ : Rd w S A [] := fun h => absurd h (by simp)
theorem Rd.keep (h : Rd w S A xs) (hk : ∀ b, S b → w'.heap[b]? = w.heap[b]?) : Rd w' S A xs := fun hn => by
  obtain ⟨ad, e, hb, hc⟩ := h hn
  exact ⟨ad, e, hb, fun j u hu => (World.cell?_of_block (hk _ (by rw [block_of_add]; exact hb))).trans (hc j u hu)⟩
theorem Rd.more (h : Rd w S A xs) (hs : ∀ b, S b → S' b) : Rd w S' A xs := fun hn => by
  obtain ⟨ad, e, hb, hc⟩ := h hn
  exact ⟨ad, e, hs _ hb, hc⟩
theorem Rd.below {B : Nat} (h : Rd w (· < B) A xs) (hb : Below B w w') : Rd w' (· < B) A xs := h.keep fun b hl => hb.block b hl
theorem Rd.drop (h : Rd w S A xs) {k : Nat} {c : Prop} [Decidable c] (hc : k < xs.length → ¬ c) : Rd w S (if c then A else A.map (·.add k)) (xs.drop k) := fun hn => by
  obtain ⟨ad, rfl, hb, hcell⟩ := h (by simp at hn; omega)
  rw [if_neg (hc (by simp at hn; omega))]
  refine ⟨ad.add k, rfl, by rw [block_of_add]; exact hb, fun j u hu => ?_⟩
  rw [add_of_add]
  exact hcell _ u (by rw [← hu, List.getElem?_drop])
theorem Rd.take (h : Rd w S A xs) (k : Nat) : Rd w S A (xs.take k) := fun hn => by
  obtain ⟨ad, e, hb, hcell⟩ := h (by simp at hn; omega)
  refine ⟨ad, e, hb, fun j u hu => hcell j u ?_⟩
  rw [List.getElem?_take] at hu
  split at hu
  · exact hu
  · cases hu
end

/-- block g is the cells l, none frozen -/
def Blk (w : World) (g : Nat) (t : TypeId) (l : List Value) : Prop := w.heap[g]? = some (.cells l.toArray t (0, 0))
section
variable {w w' : World} {g : Nat} {t : TypeId} {l : List Value}
theorem Blk.lt (h : Blk w g t l) : g < w.heap.size := by
  rcases Nat.lt_or_ge g w.heap.size with hlt | hge
  · exact hlt
  · unfold Blk at h; rw [Array.getElem?_eq_none hge] at h; cases h
theorem Blk.cell (h : Blk w g t l) (i : Nat) : w.cell? ⟨g, i, none⟩ = l[i]? := by
  have := cell_of_row w g i l.toArray t (0, 0) h
  simpa using this
theorem Blk.frozen (h : Blk w g t l) (i : Nat) : w.frozen? ⟨g, i, none⟩ = false := by
  unfold Blk at h
  simp [World.frozen?, h]
theorem Blk.new (w : World) (t : TypeId) (l : List Value) : Blk (w.alloc (.cells l.toArray t)) w.heap.size t l := heap_alloc_new w _
theorem Blk.alloc (h : Blk w g t l) (o : Obj) : Blk (w.alloc o) g t l := (Below.heap_alloc w o g h.lt).trans h
theorem Blk.set_ (h : Blk w g t l) (i : Nat) (u : Value) : Blk (w.setCell ⟨g, i, none⟩ u) g t (l.set i u) := by
  unfold Blk at h ⊢
  simp [World.setCell, Array.getElem?_modify, h]
theorem Blk.far (h : Blk w g t l) {p : Addr} (hp : g ≠ p.block) (u : Value) : Blk (w.setCell p u) g t l := (Below.heap_setCell w p u g hp).trans h
theorem Blk.below {B : Nat} (h : Blk w g t l) (hb : Below B w w') (hg : g < B) : Blk w' g t l := (hb.block g hg).trans h
theorem Blk.grown {row : Option Nat} (h : Blk w g t l) (hb : w.grownBy w' row) (hg : some g ≠ row) : Blk w' g t l := (hb.block g h.lt hg).trans h
theorem Blk.rd (h : Blk w g t l) {S : Nat → Prop} (hS : S g) (off : Nat) : Rd w S (some ⟨g, off, none⟩) (l.drop off) := fun _ =>
  ⟨_, rfl, hS, fun j u hu => by
    have e : (⟨g, off, none⟩ : Addr).add j = ⟨g, off + j, none⟩ := by
      unfold Addr.add; split
      · subst_vars; rfl
      · rfl
    rw [e, h.cell, ← hu, List.getElem?_drop]⟩
end

theorem only_drew {a w : World} {row : Option Nat} (h : a.grownBy w row) : a.grownBy w.drew row := ⟨h.os, h.tape, h.output, h.size, h.block⟩
theorem only_drewN {a w : World} {row : Option Nat} (h : a.grownBy w row) (n : Nat) : a.grownBy (w.drewN n) row := ⟨h.os, h.tape, h.output, h.size, h.block⟩
theorem only_alloc {a w : World} {row : Option Nat} (h : a.grownBy w row) (o : Obj) : a.grownBy (w.alloc o) row :=
  ⟨h.os, h.tape, h.output, Nat.le_trans h.size (by simp), fun i hi hne => (Below.heap_alloc w o i (Nat.lt_of_lt_of_le hi h.size)).trans (h.block i hi hne)⟩
theorem only_setCell {a w : World} {g : Nat} (h : a.grownBy w (some g)) {p : Addr} (hp : p.block = g ∨ a.heap.size ≤ p.block) (u : Value) : a.grownBy (w.setCell p u) (some g) :=
  ⟨h.os, h.tape, h.output, by simpa [World.setCell] using h.size, fun i hi hne => (Below.heap_setCell w p u i (by
    rintro rfl
    rcases hp with hp | hp
    · exact hne (by rw [hp])
    · omega)).trans (h.block i hi hne)⟩
theorem only_trans {a b c : World} {row : Option Nat} (h : a.grownBy b row) (k : b.grownBy c row) : a.grownBy c row :=
  ⟨k.os.trans h.os, k.tape.trans h.tape, k.output.trans h.output, Nat.le_trans h.size k.size, fun i hi hne => (k.block i (Nat.lt_of_lt_of_le hi h.size) hne).trans (h.block i hi hne)⟩
theorem only_refl (a : World) (row : Option Nat) : a.grownBy a row := ⟨rfl, rfl, rfl, Nat.le_refl _, fun _ _ _ => rfl⟩
theorem below_drewN {B : Nat} {a w : World} (h : Below B a w) (n : Nat) : Below B a (w.drewN n) := ⟨h.os, h.tape, h.output, h.size, h.block⟩
theorem keep_trans {a b c : World} (h1 : Below a.heap.size a b) (h2 : Below b.heap.size b c) : Below a.heap.size a c :=
  h1.trans (h2.mono h1.size)
theorem below_grown {B : Nat} {a w w' : World} {g : Nat} (h : Below B a w) (hg : w.grownBy w' (some g)) (hB : B ≤ w.heap.size) (hr : B ≤ g) : Below B a w' :=
  h.grown hg hB (fun k e => by injection e with e; omega)

theorem ret_b {a b : Bool} (h : a = b) : Ending.returned (.bool b) = .returned (.bool a) := by rw [h]
theorem ret_i {k : IntKind} {a b : Int} (h : a = b) : Ending.returned (.int k a) = .returned (.int k b) := by rw [h]


theorem kc_drop (l : List Win) (k : Nat) : kc (l.drop k) = (kc l).drop (k * 2) := by
  induction l generalizing k with
  | nil => simp [kc_nil]
  | cons q l ih =>
    cases k with
    | zero => simp
    | succ k =>
      have e : (k + 1) * 2 = k * 2 + 2 := by omega
      rw [List.drop_succ_cons, ih, kc_cons, e]; rfl
theorem kc_one (l : List Win) : ∀ v ∈ kc l, v.oneCell' = true := by
  intro v hv
  obtain ⟨t, _, hv⟩ := List.mem_flatMap.1 hv
  simp at hv
  rcases hv with rfl | rfl <;> rfl
theorem ic_one (l : List Int) : ∀ v ∈ ic l, v.oneCell' = true := by
  intro v hv
  obtain ⟨t, _, rfl⟩ := List.mem_map.1 hv
  rfl
theorem info_win : (Try.prog.info? 41).map (fun i => (i.zero, i.size, i.bytes)) = some (some (.agg #[.int .i64 0, .int .i64 0]), 2, 16) := by kernel_rfl

/-- the call tells a row of windows, in memory that nothing old is changed in -/
def WinsNew (w : World) (l : List Win) (e : Ending) (w' : World) : Prop :=
  ∃ (A : Option Addr) (n c : Nat), e = .returned (.slice A n c) ∧ Hid (n = l.length) ∧ n ≤ c ∧ Rd w' (fun b => w.heap.size ≤ b ∧ b < w'.heap.size) A (kc l) ∧ Below w.heap.size w w'
theorem Rd.apart {w : World} {A : Option Addr} {xs : List Value} (h : Rd w (· < w.heap.size) A xs) (o : Obj) : Rd (w.alloc o) (· ≠ w.heap.size) A xs :=
  (h.keep (w' := w.alloc o) fun b hb => Below.heap_alloc w o b hb).more fun b hb => Nat.ne_of_lt hb
theorem Blk.rd0 {w : World} {g B : Nat} {t : TypeId} {l : List Value} (h : Blk w g t l) (hB : B ≤ g) : Rd w (fun b => B ≤ b ∧ b < w.heap.size) (some ⟨g, 0, none⟩) l := by
  simpa using h.rd (S := fun b => B ≤ b ∧ b < w.heap.size) ⟨hB, h.lt⟩ 0
theorem Rd.old {w : World} {B : Nat} {A : Option Addr} {xs : List Value} (h : Rd w (fun b => B ≤ b ∧ b < w.heap.size) A xs) : Rd w (· < w.heap.size) A xs := h.more fun _ hb => hb.2
theorem Rd.at_ {w : World} {S : Nat → Prop} {A : Option Addr} {zs : List Int} (h : Rd w S A (ic zs)) {k : Nat} (hk : k < zs.length) : ∃ ad, A = some ad ∧ S ad.block ∧ ∀ j, j < zs.length → w.cell? (ad.add j) = some (.int .i64 (zs.getD j 0)) := by
  obtain ⟨ad, e, hb, hc⟩ := h (by rw [ic_length]; omega)
  exact ⟨ad, e, hb, fun j hj => hc j _ (by simp [ic, List.getD_eq_getElem?_getD, List.getElem?_eq_getElem hj])⟩
theorem Rd.key_ {w : World} {S : Nat → Prop} {A : Option Addr} {zs : List Win} (h : Rd w S A (kc zs)) {k : Nat} (hk : k < zs.length) : ∃ ad, A = some ad ∧ S ad.block ∧ ∀ j, j < zs.length → w.cell? (ad.add (j * 2)) = some (.int .i64 (zs.getD j (0, 0)).1) ∧ w.cell? (ad.add (j * 2 + 1)) = some (.int .i64 (zs.getD j (0, 0)).2) := by
  obtain ⟨ad, e, hb, hc⟩ := h (by rw [kc_length]; omega)
  refine ⟨ad, e, hb, fun j hj => ?_⟩
  have h2 := kc_at zs j (zs.getD j (0, 0)) (by simp [List.getD_eq_getElem?_getD, List.getElem?_eq_getElem hj])
  exact ⟨hc _ _ h2.1, hc _ _ h2.2⟩
theorem Rd.key2 {w : World} {S : Nat → Prop} {A : Option Addr} {zs : List Win} (h : Rd w S A (kc zs)) {k : Nat} (hk : k < zs.length) : ∃ ad, A = some ad ∧ S ad.block ∧
    ∀ j, j < zs.length → w.cell? (ad.add (j * 2)) = some (.int .i64 (zs.getD j (0, 0)).1) ∧ w.cell? ⟨(ad.add (j * 2)).block, (ad.add (j * 2)).off + 1, none⟩ = some (.int .i64 (zs.getD j (0, 0)).2) := by
  obtain ⟨ad, e, hb, hc⟩ := h.key_ hk
  refine ⟨ad, e, hb, fun j hj => ⟨(hc j hj).1, ?_⟩⟩
  have e1 : (⟨(ad.add (j * 2)).block, (ad.add (j * 2)).off + 1, none⟩ : Addr) = (ad.add (j * 2)).add 1 := rfl
  rw [e1, add_of_add]
  exact (hc j hj).2
theorem Rd.below2 {w w' : World} {B : Nat} {A : Option Addr} {xs : List Value} (h : Rd w (· < B) A xs) (hb : Below B w w') : Rd w' (· < B) A xs := h.keep fun b hl => hb.block b hl
theorem run_append_rd {P : Program} (w : World) (base : Nat) (t ty e : TypeId) (i : TypeInfo) (z : Value) (size bytes : Nat) (ht : P.underlying t = some (.slice e)) (hi : P.info? e = some i) (hz : i.zero = some z)
    (hsize : i.size = size) (hby : i.bytes = bytes) (hzs : z.cells.size = size) (hsz : 0 < size)
    (v : Value) (n : Nat) (xs : List Value) (hown : w.ownsRow base e size v n xs) (S : Nat → Prop) (A : Option Addr) (m c : Nat) (news : List Value) (hl : news.length = m * size) (hr : Rd w S A news) (h1 : ∀ u ∈ news, u.oneCell' = true)
    (h63 : n + m ≤ maxLen) (hbytes : (n + m) * bytes ≤ 140737488355328) (hbase : base ≤ w.heap.size) :
    ∃ v' w', (Builtin.append_ #[t, t] ty #[v, .slice A m c]).run P w = .ok v' w' ∧ w'.ownsRow base e size v' (n + m) (xs ++ news) ∧ w.grownBy w' v.ownBlock ∧ (v'.ownBlock = v.ownBlock ∨ v'.ownBlock = some w.heap.size) := by
  by_cases hnews : news = []
  · subst hnews
    have hm : m = 0 := by
      rcases Nat.mul_eq_zero.1 (show m * size = 0 from hl.symm) with h | h
      · exact h
      · omega
    subst hm
    cases A with
    | none =>
      refine ⟨v, w, ?_, by simpa using hown, ⟨rfl, rfl, rfl, Nat.le_refl _, fun _ _ _ => rfl⟩, .inl rfl⟩
      rcases hown.2 with ⟨rfl, rfl⟩ | ⟨g, cap, cur, rfl, _, _, hnc, _⟩
      · simp [Builtin.append_, run_underlying ht, sizeOf, typeInfo, hi, Builtin.lenOf, Builtin.firstCells]
      · simp [Builtin.append_, run_underlying ht, sizeOf, typeInfo, hi, Builtin.lenOf, Builtin.firstCells, hnc, storeCells]
    | some ad =>
      obtain ⟨v', w', h2, h3, h4, _, h5⟩ := run_append_own_at (P := P) w base t ty e i z size bytes ht hi hz hsize hby hzs hsz v n xs hown ad 0 c [] hl (by simp) h1 h63 hbytes hbase
      exact ⟨v', w', h2, h3, h4, h5⟩
  · obtain ⟨ad, rfl, _, hc⟩ := hr (List.length_pos_iff.2 hnews)
    obtain ⟨v', w', h2, h3, h4, _, h5⟩ := run_append_own_at (P := P) w base t ty e i z size bytes ht hi hz hsize hby hzs hsz v n xs hown ad m c news hl hc h1 h63 hbytes hbase
    exact ⟨v', w', h2, h3, h4, h5⟩
theorem wpList_append_rd {P : Program} {w : World} {ops : Array Oper} {rest : List Oper} {o : Oper} {a : Act} {Q : Exit → Act → World → Prop} (hgd : o.guard = none) (s x : Operand) (t : TypeId)
    (ho : o.op = .call { callee := .builtin .append, args := #[s, x], argTypes := #[t, t] })
    (base : Nat) (e : TypeId) (z : Value) (size bytes : Nat) (ht : P.underlying t = some (.slice e)) (hinfo : (P.info? e).map (fun i => (i.zero, i.size, i.bytes)) = some (some z, size, bytes)) (hzs : z.cells.size = size) (hsz : 0 < size) (hb16 : bytes ≤ 16)
    (v : Value) (n : Nat) (xs : List Value) (hs : a.eval s = v) (hown : w.ownsRow base e size v n xs) (S : Nat → Prop) (A : Option Addr) (m c : Nat) (news : List Value) (hx : a.eval x = .slice A m c) (hl : news.length = m * size) (hr : Rd w S A news) (h1 : ∀ u ∈ news, u.oneCell' = true)
    (hN : n + m ≤ 4000000) (hbase : base ≤ w.heap.size)
    (h : ∀ v' w', Hid (w'.ownsRow base e size v' (n + m) (xs ++ news)) → Hid (Below base w w') → wpList P ops Q rest (a.put o.dst v') w') : wpList P ops Q (o :: rest) a w := by
  refine wpList_plain hgd fun K hK => ?_
  obtain ⟨i, hi, hz, hsize, hby⟩ := info_parts hinfo
  obtain ⟨v', w', hrun, h2, h3, h4⟩ := run_append_rd (P := P) w base t o.type e i z size bytes ht hi hz hsize hby hzs hsz v n xs hown S A m c news hl hr h1 (by simp only [maxLen]; omega)
    (by have : (n + m) * bytes ≤ 4000000 * 16 := Nat.mul_le_mul hN hb16
        omega) hbase
  unfold Oper.wp
  simp only [execOp, ho, resolve, invoke, builtin, Sem.run_bind, Sem.run_pure, Result.andThen_ok, List.map_toArray, List.map_cons, List.map_nil, hs, hx, hrun]
  exact hK _ _ (h v' w' h2 ((Below.refl _ _).grown h3 hbase (fun k hk => (hown.lt k hk).1)))
theorem own_form {w : World} {base e size n : Nat} {v : Value} {xs : List Value} (h : w.ownsRow base e size v n xs) :
    ∃ A c, v = .slice A n c ∧ n ≤ c ∧ Rd w (fun b => base ≤ b ∧ b < w.heap.size) A xs := by
  rcases h.2 with ⟨rfl, rfl⟩ | ⟨g, cap, cur, rfl, hbg, hg, hnc, _⟩
  · refine ⟨none, 0, rfl, Nat.le_refl _, ?_⟩
    have : xs = [] := List.eq_nil_of_length_eq_zero (by simpa using h.1)
    subst this
    exact Rd.none_
  · exact ⟨_, cap, rfl, hnc, fun _ => ⟨_, rfl, ⟨hbg, (h.lt g rfl).2⟩, h.cells (g := g) rfl⟩⟩
theorem own_empty {w : World} {base e size : Nat} (hb : base ≤ w.heap.size) : (w.alloc (.cells #[] e)).ownsRow base e size (.slice (some ⟨w.heap.size, 0, none⟩) 0 0) 0 [] :=
  ⟨by simp, .inr ⟨w.heap.size, 0, #[], rfl, hb, heap_alloc_new w _, Nat.le_refl _, by simp [maxLen], by simp, by simp⟩⟩
theorem lit_rd (w : World) (l : Array Value) (t : TypeId) (xs : List Value) (h : xs.toArray = l) : Rd (w.alloc (.cells l t)) (· < (w.alloc (.cells l t)).heap.size) (some ⟨w.heap.size, 0, none⟩) xs := by
  subst h
  have h := (Blk.new w t xs).rd (S := (· < (w.alloc (.cells xs.toArray t)).heap.size)) (by simp) 0
  simpa using h
theorem Rd.alloc_ {w : World} {A : Option Addr} {xs : List Value} (h : Rd w (· < w.heap.size) A xs) (o : Obj) : Rd (w.alloc o) (· < (w.alloc o).heap.size) A xs :=
  (h.keep (w' := w.alloc o) fun b hb => Below.heap_alloc w o b hb).more fun b hb => by
    have : (w.alloc o).heap.size = w.heap.size + 1 := by simp
    omega
theorem Rd.later {w w' : World} {A : Option Addr} {xs : List Value} (h : Rd w (· < w.heap.size) A xs) (hb : Below w.heap.size w w') : Rd w' (· < w'.heap.size) A xs :=
  (h.below hb).more fun b h1 => by have := hb.size; omega
theorem keep_alloc {w w' : World} (h : Below w.heap.size w w') (o : Obj) : Below w.heap.size w (w'.alloc o) := h.alloc h.size o
theorem Blk.after {w w' : World} {g : Nat} {t : TypeId} {l : List Value} (h : Blk w g t l) (hb : Below w.heap.size w w') : Blk w' g t l := h.below hb h.lt
theorem below_then {B : Nat} {a b c : World} (h1 : Below B a b) (h2 : Below b.heap.size b c) (hB : B ≤ b.heap.size) : Below B a c := h1.trans (h2.mono hB)
end Go.Proofs.Ytffddkbphdjehaa.Wn
