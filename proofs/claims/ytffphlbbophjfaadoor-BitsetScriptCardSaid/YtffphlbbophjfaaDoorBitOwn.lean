/- append of whatever row onto one of the call's own, Pick, Same of two rows that are alike; conditions: the rows hold fewer than two million things. -/
import Derived.Test.YtffphlbbophjfaaDoorBitBase
import Derived.Laws.AppendOwnNone
namespace Go.Proofs.YtffphlbbophjfaaDoor.Bs
open Go.ChangeShapes Go.WideShapes Go.ChangeAt Go.RowKit
set_option linter.unusedVariables false

theorem info_int : (Tryd.prog.info? 3).map (fun i => (i.zero, i.size, i.bytes)) = some (some (.int .i64 0), 1, 8) := by kernel_rfl
theorem info_u64 : (Tryd.prog.info? 61).map (fun i => (i.zero, i.size, i.bytes)) = some (some (.int .u64 0), 1, 8) := by kernel_rfl
theorem info_bool : (Tryd.prog.info? 4).map (fun i => (i.zero, i.size, i.bytes)) = some (some (.bool false), 1, 1) := by kernel_rfl
theorem ic_snoc (l : List Int) (x : Int) : ic (l ++ [x]) = ic l ++ [.int .i64 x] := by simp [ic]
theorem ic_one (l : List Int) : ∀ v ∈ ic l, v.oneCell' = true := by
  intro v hv
  obtain ⟨p, _, rfl⟩ := List.mem_map.1 hv
  rfl
theorem uc_one (l : List Nat) : ∀ v ∈ uc l, v.oneCell' = true := by
  intro v hv
  obtain ⟨p, _, rfl⟩ := List.mem_map.1 hv
  rfl
theorem bc_one (f : Fs) (n : Nat) : ∀ v ∈ bc f n, v.oneCell' = true := by
  intro v hv
  obtain ⟨p, _, rfl⟩ := List.mem_map.1 hv
  rfl
theorem Rd.at_ {w : World} {S : Nat → Prop} {A : Option Addr} {zs : List Int} (h : Rd w S A (ic zs)) {k : Nat} (hk : k < zs.length) : ∃ ad, A = some ad ∧ S ad.block ∧ ∀ j, j < zs.length → w.cell? (ad.add j) = some (.int .i64 (zs.getD j 0)) := by
  obtain ⟨ad, e, hb, hc⟩ := h (by rw [ic_length]; omega)
  exact ⟨ad, e, hb, fun j hj => hc j _ (by simp [ic, List.getD_eq_getElem?_getD, List.getElem?_eq_getElem hj])⟩
theorem Rd.old {w : World} {B : Nat} {A : Option Addr} {xs : List Value} (h : Rd w (fun b => B ≤ b ∧ b < w.heap.size) A xs) : Rd w (· < w.heap.size) A xs := h.more fun _ hb => hb.2
theorem Rd.alloc_ {w : World} {A : Option Addr} {xs : List Value} (h : Rd w (· < w.heap.size) A xs) (o : Obj) : Rd (w.alloc o) (· < (w.alloc o).heap.size) A xs :=
  (h.keep (w' := w.alloc o) fun b hb => Below.heap_alloc w o b hb).more fun b hb => by
    have : (w.alloc o).heap.size = w.heap.size + 1 := by simp
    omega
theorem Rd.later {w w' : World} {A : Option Addr} {xs : List Value} (h : Rd w (· < w.heap.size) A xs) (hb : Below w.heap.size w w') : Rd w' (· < w'.heap.size) A xs :=
  (h.below hb).more fun b h1 => by have := hb.size; omega
theorem Rd.below2 {w w' : World} {A : Option Addr} {xs : List Value} (h : Rd w (· < w.heap.size) A xs) (hb : Below w.heap.size w w') : Rd w' (· < w.heap.size) A xs := h.below hb
theorem keep_alloc {w w' : World} (h : Below w.heap.size w w') (o : Obj) : Below w.heap.size w (w'.alloc o) := h.alloc h.size o
theorem lit_rd (w : World) (l : Array Value) (t : TypeId) (xs : List Value) (h : xs.toArray = l) : Rd (w.alloc (.cells l t)) (· < (w.alloc (.cells l t)).heap.size) (some ⟨w.heap.size, 0, none⟩) xs := by
  subst h
  have h := (Blk.new w t xs).rd (S := (· < (w.alloc (.cells xs.toArray t)).heap.size)) (by simp) 0
  simpa using h

theorem run_append_rd {P : Program} (w : World) (base : Nat) (t ty e : TypeId) (i : TypeInfo) (z : Value) (size bytes : Nat) (ht : P.underlying t = some (.slice e)) (hi : P.info? e = some i) (hz : i.zero = some z)
    (hsize : i.size = size) (hby : i.bytes = bytes) (hzs : z.cells.size = size) (hsz : 0 < size)
    (v : Value) (n : Nat) (xs : List Value) (hown : w.ownsRow base e size v n xs) (S : Nat → Prop) (A : Option Addr) (m c : Nat) (news : List Value) (hl : news.length = m * size) (hr : Rd w S A news) (h1 : ∀ u ∈ news, u.oneCell' = true)
    (h63 : n + m ≤ maxLen) (hbytes : (n + m) * bytes ≤ 140737488355328) (hbase : base ≤ w.heap.size) :
    ∃ v' w', (Builtin.append_ #[t, t] ty #[v, .slice A m c]).run P w = .ok v' w' ∧ w'.ownsRow base e size v' (n + m) (xs ++ news) ∧ w.grownBy w' v.ownBlock ∧ (v'.ownBlock = v.ownBlock ∨ v'.ownBlock = some w.heap.size) := by
  by_cases hnews : news = []
  · subst hnews
    have hm : m = 0 := by
      rcases Nat.mul_eq_zero.1 (show m * size = 0 from hl.symm) with h | h
      · exact h
      · omega
    subst hm
    cases A with
    | none =>
      refine ⟨v, w, ?_, by simpa using hown, ⟨rfl, rfl, rfl, Nat.le_refl _, fun _ _ _ => rfl⟩, .inl rfl⟩
      rcases hown.2 with ⟨rfl, rfl⟩ | ⟨g, cap, cur, rfl, _, _, hnc, _⟩
      · simp [Builtin.append_, run_underlying ht, sizeOf, typeInfo, hi, Builtin.lenOf, Builtin.firstCells]
      · simp [Builtin.append_, run_underlying ht, sizeOf, typeInfo, hi, Builtin.lenOf, Builtin.firstCells, hnc, storeCells]
    | some ad =>
      obtain ⟨v', w', h2, h3, h4, _, h5⟩ := run_append_own_at (P := P) w base t ty e i z size bytes ht hi hz hsize hby hzs hsz v n xs hown ad 0 c [] hl (by simp) h1 h63 hbytes hbase
      exact ⟨v', w', h2, h3, h4, h5⟩
  · obtain ⟨ad, rfl, _, hc⟩ := hr (List.length_pos_iff.2 hnews)
    obtain ⟨v', w', h2, h3, h4, _, h5⟩ := run_append_own_at (P := P) w base t ty e i z size bytes ht hi hz hsize hby hzs hsz v n xs hown ad m c news hl hc h1 h63 hbytes hbase
    exact ⟨v', w', h2, h3, h4, h5⟩

/-- what an append leaves: the row it makes is the call's own; nothing below base is changed -/
theorem wpList_append_rd {P : Program} {w : World} {ops : Array Oper} {rest : List Oper} {o : Oper} {a : Act} {Q : Exit → Act → World → Prop} (hgd : o.guard = none) (s x : Operand) (t : TypeId)
    (ho : o.op = .call { callee := .builtin .append, args := #[s, x], argTypes := #[t, t] })
    (base : Nat) (e : TypeId) (z : Value) (size bytes : Nat) (ht : P.underlying t = some (.slice e)) (hinfo : (P.info? e).map (fun i => (i.zero, i.size, i.bytes)) = some (some z, size, bytes)) (hzs : z.cells.size = size) (hsz : 0 < size) (hb16 : bytes ≤ 16)
    (v : Value) (n : Nat) (xs : List Value) (hs : a.eval s = v) (hown : w.ownsRow base e size v n xs) (S : Nat → Prop) (A : Option Addr) (m c : Nat) (news : List Value) (hx : a.eval x = .slice A m c) (hl : news.length = m * size) (hr : Rd w S A news) (h1 : ∀ u ∈ news, u.oneCell' = true)
    (hN : n + m ≤ 4000000) (hbase : base ≤ w.heap.size)
    (h : ∀ v' w', Hid (w'.ownsRow base e size v' (n + m) (xs ++ news)) → Hid (Below base w w') → wpList P ops Q rest (a.put o.dst v') w') : wpList P ops Q (o :: rest) a w := by
  refine wpList_plain hgd fun K hK => ?_
  obtain ⟨i, hi, hz, hsize, hby⟩ := info_parts hinfo
  obtain ⟨v', w', hrun, h2, h3, h4⟩ := run_append_rd (P := P) w base t o.type e i z size bytes ht hi hz hsize hby hzs hsz v n xs hown S A m c news hl hr h1 (by simp only [maxLen]; omega)
    (by have : (n + m) * bytes ≤ 4000000 * 16 := Nat.mul_le_mul hN hb16
        omega) hbase
  unfold Oper.wp
  simp only [execOp, ho, resolve, invoke, builtin, Sem.run_bind, Sem.run_pure, Result.andThen_ok, List.map_toArray, List.map_cons, List.map_nil, hs, hx, hrun]
  exact hK _ _ (h v' w' h2 ((Below.refl _ _).grown h3 hbase (fun k hk => (hown.lt k hk).1)))

theorem own_form {w : World} {base e size n : Nat} {v : Value} {xs : List Value} (h : w.ownsRow base e size v n xs) :
    ∃ A c, v = .slice A n c ∧ n ≤ c ∧ Rd w (fun b => base ≤ b ∧ b < w.heap.size) A xs := by
  rcases h.2 with ⟨rfl, rfl⟩ | ⟨g, cap, cur, rfl, hbg, hg, hnc, _⟩
  · refine ⟨none, 0, rfl, Nat.le_refl _, ?_⟩
    have : xs = [] := List.eq_nil_of_length_eq_zero (by simpa using h.1)
    subst this
    exact Rd.none_
  · exact ⟨_, cap, rfl, hnc, fun _ => ⟨_, rfl, ⟨hbg, (h.lt g rfl).2⟩, h.cells (g := g) rfl⟩⟩
theorem own_empty {w : World} {base e size : Nat} (hb : base ≤ w.heap.size) : (w.alloc (.cells #[] e)).ownsRow base e size (.slice (some ⟨w.heap.size, 0, none⟩) 0 0) 0 [] :=
  ⟨by simp, .inr ⟨w.heap.size, 0, #[], rfl, hb, heap_alloc_new w _, Nat.le_refl _, by simp [maxLen], by simp, by simp⟩⟩

/-- append of one number onto a row of the call's own, with where the new row lies -/
theorem wpList_append_num {w : World} {ops : Array Oper} {rest : List Oper} {o : Oper} {a : Act} {Q : Exit → Act → World → Prop} (hgd : o.guard = none) (s x : Operand) (t e : TypeId)
    (ho : o.op = .call { callee := .builtin .append, args := #[s, x], argTypes := #[t, t] })
    (ht : Tryd.prog.underlying t = some (.slice e)) (hinfo : (Tryd.prog.info? e).map (fun i => (i.zero, i.size, i.bytes)) = some (some (.int .i64 0), 1, 8))
    (base : Nat) (v : Value) (n : Nat) (xs : List Int) (u : Int) (hs : a.eval s = v) (hx : a.eval x = .slice (some ⟨w.heap.size, 0, none⟩) 1 1) (hown : Hid (w.ownsRow base e 1 v n (ic xs)))
    (hN : n ≤ 2000000) (hbase : base ≤ w.heap.size)
    (h : ∀ v' w', Hid (w'.ownsRow base e 1 v' (n + 1) (ic (xs ++ [u]))) → Hid ((w.alloc (.cells #[.int .i64 u] e)).grownBy w' v.ownBlock) → Hid (v'.ownBlock = v.ownBlock ∨ v'.ownBlock = some (w.heap.size + 1)) → wpList Tryd.prog ops Q rest (a.put o.dst v') w') :
    wpList Tryd.prog ops Q (o :: rest) a (w.alloc (.cells #[.int .i64 u] e)) := by
  refine wpList_plain hgd fun K hK => ?_
  obtain ⟨i, hi, hz, hsize, hby⟩ := info_parts hinfo
  have hr := lit_rd w #[.int .i64 u] e [.int .i64 u] rfl
  obtain ⟨v', w', hrun, h2, h3, h4⟩ := run_append_rd (P := Tryd.prog) (w.alloc (.cells #[.int .i64 u] e)) base t o.type e i _ 1 8 ht hi hz hsize hby rfl (by omega) v n (ic xs) (hown.out.alloc _) _ _ 1 1 [.int .i64 u] (by simp) hr (by simp [Value.oneCell']) (by simp only [maxLen]; omega)
    (by omega) (by simp; omega)
  have e1 : (w.alloc (.cells #[.int .i64 u] e)).heap.size = w.heap.size + 1 := by simp
  rw [e1] at h4
  rw [← ic_snoc] at h2
  unfold Oper.wp
  simp only [execOp, ho, resolve, invoke, builtin, Sem.run_bind, Sem.run_pure, Result.andThen_ok, List.map_toArray, List.map_cons, List.map_nil, hs, hx, hrun]
  exact hK _ _ (h v' w' h2 h3 h4)

set_option maxHeartbeats 1000000 in
theorem same_int (w : World) (A B : Option Addr) (n c d : Nat) (zs : List Int) (hn : Hid (n = zs.length)) (hN : n ≤ 1000000) (hx : Rd w (· < w.heap.size) A (ic zs)) (hy : Rd w (· < w.heap.size) B (ic zs)) :
    Calls Tryd.prog 33 #[.slice A n c, .slice B n d] w fun e w' => e = .returned (.bool true) ∧ Below w.heap.size w w' := by
  have HX := Lib.hid hx
  have HY := Lib.hid hy
  clear hx hy
  go_enter Tryd.func33, Tryd.ntmps33
  go_wp2
  go_loopw [5] (fun v5 wr => ∃ k : Nat, v5 = .int .i64 k ∧ k ≤ n ∧ Below w.heap.size w wr) (fun v _ => n - (intOf v).toNat)
  case atStart => exact ⟨0, rfl, by omega, Below.refl _ _⟩
  case round =>
    obtain ⟨k, rfl, hk, hbel⟩ := hrel
    by_cases hlt : k < n
    · obtain ⟨ad, rfl, hS, hca⟩ := (HX.out.below2 hbel).at_ (k := k) (by rw [← hn.out]; exact hlt)
      obtain ⟨bd, rfl, hT, hcb⟩ := (HY.out.below2 hbel).at_ (k := k) (by rw [← hn.out]; exact hlt)
      have ha0 := hca k (by rw [← hn.out]; exact hlt)
      have hb0 := hcb k (by rw [← hn.out]; exact hlt)
      obtain ⟨p, hp⟩ : ∃ p, p = zs.getD k 0 := ⟨_, rfl⟩
      rw [← hp] at ha0 hb0
      have HB := Lib.hid hbel
      clear hca hcb hbel hp
      have hi : (k : Int) < (n : Int) := by omega
      go_wp2
      go_quiet (fail)
      go_wp2
      go_roundw
      case rel => exact ⟨k + 1, by go_num, by omega, below_drewN HB.out _⟩
      case measure => simp [intOf]; omega
    · have HB := Lib.hid hbel
      clear hbel
      go_wp2
      go_ret
      exact ⟨rfl, HB.out⟩

theorem run_mk {t e : TypeId} {z : Value} {bytes : Nat} (ht : Tryd.prog.underlying t = some (.slice e)) (hinfo : (Tryd.prog.info? e).map (fun i => (i.zero, i.size, i.bytes)) = some (some z, 1, bytes)) (hb : bytes ≤ 16) (hz1 : z.cells = #[z])
    (k n : Nat) (hk : k ≤ n) (hn : n ≤ 2000000) (w : World) : (Instr.makeSlice t (.int .i64 (k : Int)) (.int .i64 (n : Int))).run Tryd.prog w = .ok (.slice (some ⟨w.heap.size, 0, none⟩) k n) (w.alloc (.cells (List.replicate n z).toArray e)) := by
  obtain ⟨i, hi, hz, hs, hby⟩ := info_parts hinfo
  have h := run_make (P := Tryd.prog) w t e i z ht hi hz .i64 .i64 (k : Int) (n : Int) (by omega) (by omega) (by
    have h1 : ((i.bytes : Int)) ≤ 16 := by omega
    have h2 : (i.bytes : Int) * (n : Int) ≤ 16 * 2000000 := Int.mul_le_mul h1 (by omega) (by omega) (by omega)
    omega) (by omega)
  rw [← toList_madeCells_one, ← hz1]
  simpa [hs] using h
theorem made_own {w : World} {base e n : Nat} {l : List Value} (hb : base ≤ w.heap.size) (hl : l.length = n) (hn : n ≤ 2000000) : (w.alloc (.cells l.toArray e)).ownsRow base e 1 (.slice (some ⟨w.heap.size, 0, none⟩) 0 n) 0 [] :=
  ⟨by simp, .inr ⟨w.heap.size, n, l.toArray, rfl, hb, heap_alloc_new w _, by omega, by simp only [maxLen]; omega, by simpa using hl, by simp⟩⟩
/-- what Pick tells, of a number above 0 -/
def PickPost (m : Int) (w : World) (e : Ending) (w' : World) : Prop := ∃ r : Nat, e = .returned (.int .i64 r) ∧ Hid ((r : Int) < m) ∧ w = w'
theorem pick_mk {m r : Int} {w : World} (h0 : 0 ≤ r) (h1 : r < m) : PickPost m w (.returned (.int .i64 r)) w :=
  ⟨r.toNat, by rw [Int.toNat_of_nonneg h0], by show _ < _; omega, rfl⟩
theorem pick_any (k m : Int) (w : World) (h0 : -9223372036854775808 ≤ k) (h1 : k ≤ 9223372036854775807) (hm0 : 1 ≤ m) (hm : m ≤ 1000000) :
    Calls Tryd.prog 19 #[.int .i64 k, .int .i64 m] w (PickPost m w) := by
  by_cases hk : 0 ≤ k
  · have H1 := Int.emod_nonneg k (show m ≠ 0 by omega)
    have H2 := Int.emod_lt_of_pos k (show 0 < m by omega)
    go_enter Tryd.func19, Tryd.ntmps19
    go_wp2
    go_ret
    exact pick_mk (by omega) (by omega)
  · have H1 : -m < k.tmod m := Int.lt_tmod_of_pos k (by omega)
    have H2 : k.tmod m < m := Int.tmod_lt_of_pos k (by omega)
    go_enter Tryd.func19, Tryd.ntmps19
    go_wp2
    all_goals
      go_ret
      exact pick_mk (by omega) (by omega)
end Go.Proofs.YtffphlbbophjfaaDoor.Bs
