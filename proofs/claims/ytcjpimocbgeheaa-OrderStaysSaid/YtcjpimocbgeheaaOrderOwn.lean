/- append of whatever row onto one of the call's own; Own of keys and of numbers; Pick. Conditions: the rows hold fewer than a million things. -/
import Derived.Test.YtcjpimocbgeheaaOrderKit
import Derived.Laws.AppendOwnNone
namespace Go.Proofs.Ytcjpimocbgeheaa.Od
open Go.ChangeShapes Go.WideShapes Go.ChangeAt Go.RowKit
set_option linter.unusedVariables false

theorem run_append_rd {P : Program} (w : World) (base : Nat) (t ty e : TypeId) (i : TypeInfo) (z : Value) (size bytes : Nat) (ht : P.underlying t = some (.slice e)) (hi : P.info? e = some i) (hz : i.zero = some z)
    (hsize : i.size = size) (hby : i.bytes = bytes) (hzs : z.cells.size = size) (hsz : 0 < size)
    (v : Value) (n : Nat) (xs : List Value) (hown : w.ownsRow base e size v n xs) (S : Nat → Prop) (A : Option Addr) (m c : Nat) (news : List Value) (hl : news.length = m * size) (hr : Rd w S A news) (h1 : ∀ u ∈ news, u.oneCell' = true)
    (h63 : n + m ≤ maxLen) (hbytes : (n + m) * bytes ≤ 140737488355328) (hbase : base ≤ w.heap.size) :
    ∃ v' w', (Builtin.append_ #[t, t] ty #[v, .slice A m c]).run P w = .ok v' w' ∧ w'.ownsRow base e size v' (n + m) (xs ++ news) ∧ w.grownBy w' v.ownBlock ∧ (v'.ownBlock = v.ownBlock ∨ v'.ownBlock = some w.heap.size) := by
  by_cases hnews : news = []
  · subst hnews
    have hm : m = 0 := by
      rcases Nat.mul_eq_zero.1 (show m * size = 0 from hl.symm) with h | h
      · exact h
      · omega
    subst hm
    cases A with
    | none =>
      refine ⟨v, w, ?_, by simpa using hown, ⟨rfl, rfl, rfl, Nat.le_refl _, fun _ _ _ => rfl⟩, .inl rfl⟩
      rcases hown.2 with ⟨rfl, rfl⟩ | ⟨g, cap, cur, rfl, _, _, hnc, _⟩
      · simp [Builtin.append_, run_underlying ht, sizeOf, typeInfo, hi, Builtin.lenOf, Builtin.firstCells]
      · simp [Builtin.append_, run_underlying ht, sizeOf, typeInfo, hi, Builtin.lenOf, Builtin.firstCells, hnc, storeCells]
    | some ad =>
      obtain ⟨v', w', h2, h3, h4, _, h5⟩ := run_append_own_at (P := P) w base t ty e i z size bytes ht hi hz hsize hby hzs hsz v n xs hown ad 0 c [] hl (by simp) h1 h63 hbytes hbase
      exact ⟨v', w', h2, h3, h4, h5⟩
  · obtain ⟨ad, rfl, _, hc⟩ := hr (List.length_pos_iff.2 hnews)
    obtain ⟨v', w', h2, h3, h4, _, h5⟩ := run_append_own_at (P := P) w base t ty e i z size bytes ht hi hz hsize hby hzs hsz v n xs hown ad m c news hl hc h1 h63 hbytes hbase
    exact ⟨v', w', h2, h3, h4, h5⟩

/-- what an append leaves: the row it makes is the call's own; nothing below base is changed -/
theorem wpList_append_rd {P : Program} {w : World} {ops : Array Oper} {rest : List Oper} {o : Oper} {a : Act} {Q : Exit → Act → World → Prop} (hgd : o.guard = none) (s x : Operand) (t : TypeId)
    (ho : o.op = .call { callee := .builtin .append, args := #[s, x], argTypes := #[t, t] })
    (base : Nat) (e : TypeId) (z : Value) (size bytes : Nat) (ht : P.underlying t = some (.slice e)) (hinfo : (P.info? e).map (fun i => (i.zero, i.size, i.bytes)) = some (some z, size, bytes)) (hzs : z.cells.size = size) (hsz : 0 < size) (hb16 : bytes ≤ 16)
    (v : Value) (n : Nat) (xs : List Value) (hs : a.eval s = v) (hown : w.ownsRow base e size v n xs) (S : Nat → Prop) (A : Option Addr) (m c : Nat) (news : List Value) (hx : a.eval x = .slice A m c) (hl : news.length = m * size) (hr : Rd w S A news) (h1 : ∀ u ∈ news, u.oneCell' = true)
    (hN : n + m ≤ 4000000) (hbase : base ≤ w.heap.size)
    (h : ∀ v' w', Hid (w'.ownsRow base e size v' (n + m) (xs ++ news)) → Hid (Below base w w') → wpList P ops Q rest (a.put o.dst v') w') : wpList P ops Q (o :: rest) a w := by
  refine wpList_plain hgd fun K hK => ?_
  obtain ⟨i, hi, hz, hsize, hby⟩ := info_parts hinfo
  obtain ⟨v', w', hrun, h2, h3, h4⟩ := run_append_rd (P := P) w base t o.type e i z size bytes ht hi hz hsize hby hzs hsz v n xs hown S A m c news hl hr h1 (by simp only [maxLen]; omega)
    (by have : (n + m) * bytes ≤ 4000000 * 16 := Nat.mul_le_mul hN hb16
        omega) hbase
  unfold Oper.wp
  simp only [execOp, ho, resolve, invoke, builtin, Sem.run_bind, Sem.run_pure, Result.andThen_ok, List.map_toArray, List.map_cons, List.map_nil, hs, hx, hrun]
  exact hK _ _ (h v' w' h2 ((Below.refl _ _).grown h3 hbase (fun k hk => (hown.lt k hk).1)))

theorem own_form {w : World} {base e size n : Nat} {v : Value} {xs : List Value} (h : w.ownsRow base e size v n xs) :
    ∃ A c, v = .slice A n c ∧ n ≤ c ∧ Rd w (fun b => base ≤ b ∧ b < w.heap.size) A xs := by
  rcases h.2 with ⟨rfl, rfl⟩ | ⟨g, cap, cur, rfl, hbg, hg, hnc, _⟩
  · refine ⟨none, 0, rfl, Nat.le_refl _, ?_⟩
    have : xs = [] := List.eq_nil_of_length_eq_zero (by simpa using h.1)
    subst this
    exact Rd.none_
  · exact ⟨_, cap, rfl, hnc, fun _ => ⟨_, rfl, ⟨hbg, (h.lt g rfl).2⟩, h.cells (g := g) rfl⟩⟩
theorem own_empty {w : World} {base e size : Nat} (hb : base ≤ w.heap.size) : (w.alloc (.cells #[] e)).ownsRow base e size (.slice (some ⟨w.heap.size, 0, none⟩) 0 0) 0 [] :=
  ⟨by simp, .inr ⟨w.heap.size, 0, #[], rfl, hb, heap_alloc_new w _, Nat.le_refl _, by simp [maxLen], by simp, by simp⟩⟩

theorem ownKeys_any (w : World) (A : Option Addr) (n c : Nat) (zs : List Key) (hn : Hid (n = zs.length)) (hN : n ≤ 1000000) (hx : Rd w (· < w.heap.size) A (kc zs)) :
    Calls Try.prog 20 #[.slice A n c] w (KeysNew w zs) := by
  have hx' : Rd (w.alloc (.cells #[] 25)) (· < w.heap.size) A (kc zs) := hx.keep fun b hb => Below.heap_alloc w _ b hb
  have HX := Lib.hid hx'
  have hl : Hid ((kc zs).length = n * 2) := by show _ = _; rw [kc_length, hn.out]
  clear hx hx'
  go_enter Try.func20, Try.ntmps20
  go_wp2_with (at_builtin; refine wpList_append_rd rfl (.tmp 3) (.tmp 4) 26 rfl w.heap.size 25 _ 2 16 Try.underlying26 info_key rfl (by omega) (by omega) _ 0 [] rfl (own_empty (Nat.le_refl _)) _ A n c (kc zs) rfl hl.out HX.out (kc_one zs) (by omega) (by simp) ?_; intro v' w1 hown hbel)
  obtain ⟨B, d, hv, hnd, hrd⟩ := own_form hown.out
  simp only [Nat.zero_add, List.nil_append] at hv hnd hrd
  subst hv
  go_ret
  exact ⟨B, n, d, rfl, hn, hnd, hrd, ((Below.refl _ _).alloc (Nat.le_refl _) _).trans hbel.out⟩
theorem ownI64_any (w : World) (A : Option Addr) (n c : Nat) (zs : List Int) (hn : Hid (n = zs.length)) (hN : n ≤ 1000000) (hx : Rd w (· < w.heap.size) A (ic zs)) :
    Calls Try.prog 23 #[.slice A n c] w (IntsNew w zs) := by
  have hx' : Rd (w.alloc (.cells #[] 2)) (· < w.heap.size) A (ic zs) := hx.keep fun b hb => Below.heap_alloc w _ b hb
  have HX := Lib.hid hx'
  have hl : Hid ((ic zs).length = n * 1) := by show _ = _; rw [ic_length, hn.out, Nat.mul_one]
  clear hx hx'
  go_enter Try.func23, Try.ntmps23
  go_wp2_with (at_builtin; refine wpList_append_rd rfl (.tmp 3) (.tmp 4) 31 rfl w.heap.size 2 _ 1 8 Try.underlying31 info_i64 rfl (by omega) (by omega) _ 0 [] rfl (own_empty (Nat.le_refl _)) _ A n c (ic zs) rfl hl.out HX.out (ic_one zs) (by omega) (by simp) ?_; intro v' w1 hown hbel)
  obtain ⟨B, d, hv, hnd, hrd⟩ := own_form hown.out
  simp only [Nat.zero_add, List.nil_append] at hv hnd hrd
  subst hv
  go_ret
  exact ⟨B, n, d, rfl, hn, hnd, hrd, ((Below.refl _ _).alloc (Nat.le_refl _) _).trans hbel.out⟩

/-- what Pick tells, of a number above 0 -/
def PickPost (m : Int) (w : World) (e : Ending) (w' : World) : Prop := ∃ r : Nat, e = .returned (.int .i64 r) ∧ Hid ((r : Int) < m) ∧ w = w'
theorem pick_mk {m r : Int} {w : World} (h0 : 0 ≤ r) (h1 : r < m) : PickPost m w (.returned (.int .i64 r)) w :=
  ⟨r.toNat, by rw [Int.toNat_of_nonneg h0], by show _ < _; omega, rfl⟩
theorem pick_any (k m : Int) (w : World) (h0 : -9223372036854775808 ≤ k) (h1 : k ≤ 9223372036854775807) (hm0 : 1 ≤ m) (hm : m ≤ 1000000) :
    Calls Try.prog 29 #[.int .i64 k, .int .i64 m] w (PickPost m w) := by
  by_cases hk : 0 ≤ k
  · have H1 := Int.emod_nonneg k (show m ≠ 0 by omega)
    have H2 := Int.emod_lt_of_pos k (show 0 < m by omega)
    go_enter Try.func29, Try.ntmps29
    go_wp2
    go_ret
    exact pick_mk (by omega) (by omega)
  · have H1 : -m < k.tmod m := Int.lt_tmod_of_pos k (by omega)
    have H2 : k.tmod m < m := Int.tmod_lt_of_pos k (by omega)
    go_enter Try.func29, Try.ntmps29
    go_wp2
    all_goals
      go_ret
      exact pick_mk (by omega) (by omega)
end Go.Proofs.Ytcjpimocbgeheaa.Od
