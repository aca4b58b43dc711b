/- The kit's Own and OwnLists at windows: rows in memory of the call's own. Conditions: rows hold at most 10,000 things. -/
import Derived.Test.YtffddkbphdjehaaLkSm
import Derived.RangeFuncBox
namespace Go.Proofs.Ytffddkbphdjehaa.Lk
open Go.ChangeShapes Go.WideShapes Go.ChangeAt Go.RowKit
open Wn
set_option linter.unusedVariables false
set_option linter.unusedSimpArgs false
attribute [local go_sem] Oper.semAt_some

theorem wpList_append_w {P : Program} {w : World} {ops : Array Oper} {rest : List Oper} {o : Oper} {a : Act} {Q : Exit → Act → World → Prop} (hgd : o.guard = none) (s x : Operand) (t : TypeId)
    (ho : o.op = .call { callee := .builtin .append, args := #[s, x], argTypes := #[t, t] })
    (base : Nat) (e : TypeId) (z : Value) (size bytes : Nat) (ht : P.underlying t = some (.slice e)) (hinfo : (P.info? e).map (fun i => (i.zero, i.size, i.bytes)) = some (some z, size, bytes)) (hzs : z.cells.size = size) (hsz : 0 < size) (hb16 : bytes ≤ 128)
    (v : Value) (n : Nat) (xs : List Value) (hs : a.eval s = v) (hown : w.ownsRow base e size v n xs) (S : Nat → Prop) (A : Option Addr) (m c : Nat) (news : List Value) (hx : a.eval x = .slice A m c) (hl : news.length = m * size) (hr : Rd w S A news) (h1 : ∀ u ∈ news, u.oneCell' = true)
    (hN : n + m ≤ 1000000) (hbase : base ≤ w.heap.size)
    (h : ∀ v' w', Hid (w'.ownsRow base e size v' (n + m) (xs ++ news)) → Hid (w.grownBy w' v.ownBlock) → wpList P ops Q rest (a.put o.dst v') w') : wpList P ops Q (o :: rest) a w := by
  refine wpList_plain hgd fun K hK => ?_
  obtain ⟨i, hi, hz, hsize, hby⟩ := info_parts hinfo
  obtain ⟨v', w', hrun, h2, h3, h4⟩ := run_append_rd (P := P) w base t o.type e i z size bytes ht hi hz hsize hby hzs hsz v n xs hown S A m c news hl hr h1 (by simp only [maxLen]; omega)
    (by have : (n + m) * bytes ≤ 1000000 * 128 := Nat.mul_le_mul hN hb16
        omega) hbase
  unfold Oper.wp
  simp only [execOp, ho, resolve, invoke, builtin, Sem.run_bind, Sem.run_pure, Result.andThen_ok, List.map_toArray, List.map_cons, List.map_nil, hs, hx, hrun]
  exact hK _ _ (h v' w' h2 h3)
/-- a row of windows of one's own -/
def OwnR (W : World) (B : Nat) (q : RwA) : Prop := W.ownsRow B 41 2 (rwV q) q.z.length (kc q.z)
theorem own_ne {W : World} {B B' : Nat} {e e' : TypeId} {s s' n n' : Nat} {v v' : Value} {xs xs' : List Value} (h : W.ownsRow B e s v n xs) (h' : W.ownsRow B' e' s' v' n' xs') (he : e ≠ e') : v.ownBlock = none ∨ v.ownBlock ≠ v'.ownBlock := by
  rcases h.2 with ⟨rfl, -⟩ | ⟨g, cap, cur, rfl, -, hg, -⟩
  · left; rfl
  · right
    rcases h'.2 with ⟨rfl, -⟩ | ⟨g', cap', cur', rfl, -, hg', -⟩
    · intro h; cases h
    · intro h
      have e1 : g = g' := by injection h
      subst e1
      rw [hg] at hg'
      injection hg' with hg'
      injection hg' with _ h2 _
      exact he h2
theorem OwnR.grown {W W' : World} {B B' n : Nat} {q : RwA} {e : TypeId} {s : Nat} {v : Value} {xs : List Value} (h : OwnR W B q) (k : W.ownsRow B' e s v n xs) (he : 41 ≠ e) (hg : W.grownBy W' v.ownBlock) : OwnR W' B q :=
  World.ownsRow.kept h hg (own_ne h k he)
theorem OwnR.after {W W' : World} {B : Nat} {q : RwA} (h : OwnR W B q) (hb : Below W.heap.size W W') : OwnR W' B q :=
  World.ownsRow.kept h (row := none) ⟨hb.os, hb.tape, hb.output, hb.size, fun k hk _ => hb.block k hk⟩ (by
    cases hq : (rwV q).ownBlock with
    | none => exact .inl rfl
    | some k => exact .inr (by simp))
theorem own_mono {W : World} {B B' : Nat} {e : TypeId} {s n : Nat} {v : Value} {xs : List Value} (h : W.ownsRow B e s v n xs) (hb : B' ≤ B) : W.ownsRow B' e s v n xs := by
  refine ⟨h.1, ?_⟩
  rcases h.2 with h2 | ⟨g, cap, cur, e1, hg, r⟩
  · exact .inl h2
  · exact .inr ⟨g, cap, cur, e1, Nat.le_trans hb hg, r⟩
theorem OwnR.mono {W : World} {B B' : Nat} {q : RwA} (h : OwnR W B q) (hb : B' ≤ B) : OwnR W B' q := own_mono h hb
theorem OwnR.rw_ {W : World} {B : Nat} {q : RwA} (h : OwnR W B q) : RwOk W (fun b => B ≤ b ∧ b < W.heap.size) q := by
  obtain ⟨A, c, hv, hc, hr⟩ := own_form h
  injection hv with h1 h2 h3
  exact ⟨by rw [h3]; exact hc, by rw [h1]; exact hr⟩
theorem ownR_any (w : World) (A : Option Addr) (n c : Nat) (zs : List Win) (hn : Hid (n = zs.length)) (hN : n ≤ 10000) (hx : Rd w (· < w.heap.size) A (kc zs)) :
    Calls Try.prog 19 #[.slice A n c] w fun e w' => ∃ q : RwA, e = .returned (.slice q.p n q.c) ∧ Hid (q.z = zs) ∧ Hid (OwnR w' w.heap.size q) ∧ Below w.heap.size w w' := by
  have hx' : Rd (w.alloc (.cells #[] 41)) (· < w.heap.size) A (kc zs) := hx.keep fun b hb => Below.heap_alloc w _ b hb
  have HX := Lib.hid hx'
  have hl : Hid ((kc zs).length = n * 2) := by show _ = _; rw [kc_length, hn.out]
  clear hx hx'
  go_enter Try.func19, Try.ntmps19
  go_wp2_with (at_builtin; refine wpList_append_w rfl (.tmp 3) (.tmp 4) 33 rfl w.heap.size 41 _ 2 16 Try.underlying33 info_win rfl (by omega) (by omega) _ 0 [] rfl (own_empty (Nat.le_refl _)) _ A n c (kc zs) rfl hl.out HX.out (kc_one zs) (by omega) (by simp) ?_; intro v' w1 hown hgr)
  have ho := hown.out
  obtain ⟨B, d, hv, hnd, hrd⟩ := own_form ho
  simp only [Nat.zero_add, List.nil_append] at hv hnd hrd ho
  subst hv
  go_ret
  have hb : Below w.heap.size w w1 := ((Below.refl _ _).alloc (Nat.le_refl _) _).grown hgr.out (by simp) (fun k hk => by have e : w.heap.size = k := Option.some.inj hk; omega)
  refine ⟨⟨zs, B, d⟩, rfl, Lib.hid rfl, Lib.hid ?_, hb⟩
  show w1.ownsRow _ _ _ (.slice B zs.length d) zs.length _
  rw [← hn.out]; exact ho

theorem info_wins : (Try.prog.info? 33).map (fun i => (i.zero, i.size, i.bytes)) = some (some (.slice none 0 0), 1, 24) := by kernel_rfl
theorem rw_one (qs : List RwA) : ∀ u ∈ cs rwC qs, u.oneCell' = true := by
  intro u hu
  obtain ⟨q, -, hq⟩ := List.mem_flatMap.1 hu
  simp only [rwC, List.mem_singleton] at hq
  subst hq; rfl
theorem cs_snoc {α : Type} (f : α → List Value) (l : List α) (a : α) : cs f (l ++ [a]) = cs f l ++ f a := by simp [cs]

/-- rows in memory of the call's own -/
def OwnLP (x : NtA) (w : World) (e : Ending) (w' : World) : Prop := ∃ (A : Option Addr) (c : Nat) (qs : List RwA), e = .returned (.slice A x.rs.length c) ∧ Hid (qs.map (·.z) = x.rs.map (·.z)) ∧ Hid (w'.ownsRow w.heap.size 33 1 (.slice A x.rs.length c) x.rs.length (cs rwC qs)) ∧ Hid (∀ q ∈ qs, OwnR w' w.heap.size q) ∧ Below w.heap.size w w'
theorem ownLP_mk {x : NtA} {w w' : World} {A : Option Addr} {n c : Nat} {qs : List RwA} (h1 : Hid (qs.map (·.z) = x.rs.map (·.z))) (h2 : Hid (w'.ownsRow w.heap.size 33 1 (.slice A n c) n (cs rwC qs))) (h3 : Hid (∀ q ∈ qs, OwnR w' w.heap.size q)) (h4 : Below w.heap.size w w') (hn : n = x.rs.length) : OwnLP x w (.returned (.slice A n c)) w' := by
  subst hn; exact ⟨A, c, qs, rfl, h1, h2, h3, h4⟩
set_option maxHeartbeats 2000000 in
theorem ownLists_any (x : NtA) (w : World) (h : NtOk w (· < w.heap.size) x) (hl : Lt x) : Calls Try.prog 18 #[.slice x.p x.rs.length x.c] w (OwnLP x w) := by
  obtain ⟨n, hn⟩ : ∃ n, n = x.rs.length := ⟨_, rfl⟩
  have hnb : n ≤ 10000 := by rw [hn]; exact hl.r
  obtain ⟨P, hP⟩ : ∃ P, P = x.p := ⟨_, rfl⟩
  have HR : Hid (∀ W, Below w.heap.size w W → ∀ k, k < n → ∃ r ad, x.rs[k]? = some r ∧ P = some ad ∧ W.cell? (ad.add k) = some (.slice r.p r.z.length r.c) ∧ RwOk W (· < W.heap.size) r ∧ r.z.length ≤ 10000) := Lib.hid fun W hW k hk => by
    obtain ⟨r, hr⟩ : ∃ r, x.rs[k]? = some r := ⟨_, List.getElem?_eq_getElem (by rw [← hn]; exact hk)⟩
    obtain ⟨ad, had, hS, hc1, hok⟩ := (h.later hW).row_ hr
    exact ⟨r, ad, hr, hP.trans had, by simpa using hc1, hok, hl.rz r (List.mem_of_getElem? hr)⟩
  have HN := Lib.hid hn
  rw [← hn, ← hP]
  clear h hl hn hP
  go_enter Try.func18, Try.ntmps18
  go_wp2
  go_loopw [3, 4] (fun v3 v4 wr => ∃ (i : Nat) (A : Option Addr) (c : Nat) (qs : List RwA), v3 = .slice A i c ∧ v4 = .int .i64 i ∧ i ≤ n ∧ Hid (qs.map (·.z) = (x.rs.take i).map (·.z)) ∧ Hid (wr.ownsRow w.heap.size 33 1 (.slice A i c) i (cs rwC qs)) ∧ Hid (∀ q ∈ qs, OwnR wr w.heap.size q) ∧ Hid (Below w.heap.size w wr)) (fun _ v4 _ => n - (intOf v4).toNat)
  case atStart => exact ⟨0, none, 0, [], rfl, rfl, by omega, Lib.hid rfl, Lib.hid (World.ownsRow_nil _ _ _ _), Lib.hid (fun q hq => by cases hq), Lib.hid (Below.refl _ _)⟩
  case round =>
    obtain ⟨i, A, c, qs, rfl, rfl, hi, HZ, HO, HQ, HB⟩ := hrel
    by_cases hlt : i < n
    · have hiz : (i : Int) < (n : Int) := by omega
      obtain ⟨r, ad, hr, rfl, hc, hok, hrl⟩ := HR.out wr HB.out i hlt
      have CO := Lib.hid (ownR_any wr r.p r.z.length r.c r.z (Lib.hid rfl) hrl hok.rd)
      have HRK := Lib.hid hr
      clear hr hok
      go_wp2_with (first | (go_at_call 19; refine CO.out.mono ?_; rintro e w1 ⟨q, rfl, HQZ, HQO, hb1⟩) | (at_builtin; refine wpList_append_w rfl (.tmp 11) (.tmp 17) 22 rfl w.heap.size 33 _ 1 24 Try.underlying22 info_wins rfl (by omega) (by omega) (.slice A i c) i (cs rwC qs) rfl ((World.ownsRow.kept HO.out (row := none) ⟨hb1.os, hb1.tape, hb1.output, hb1.size, fun k hk _ => hb1.block k hk⟩ (by first | exact .inl rfl | (cases A; exact .inl rfl; exact .inr (by simp [Value.ownBlock])))).alloc _) (fun _ => True) (some ⟨w1.heap.size, 0, none⟩) 1 1 [.slice q.p r.z.length q.c] rfl rfl (by simpa using (Blk.new w1 33 [.slice q.p r.z.length q.c]).rd (S := fun _ => True) trivial 0) (by intro u hu; simp at hu; subst hu; rfl) (by omega) (by have := HB.out.size; have := hb1.size; simp; omega) ?_; intro v' w2 hown hgr) | fail)
      have hOW := World.ownsRow.kept HO.out (row := none) ⟨hb1.os, hb1.tape, hb1.output, hb1.size, fun k hk _ => hb1.block k hk⟩ (by first | exact .inl rfl | (cases A; exact .inl rfl; exact .inr (by simp [Value.ownBlock])))
      have hOA := hOW.alloc (.cells #[.slice q.p r.z.length q.c] 33)
      obtain ⟨A', c', hv, hc', -⟩ := own_form hown.out
      subst hv
      have HB2 := Lib.hid (HB.out.trans (hb1.mono HB.out.size))
      have HBF := Lib.hid ((HB2.out.alloc HB2.out.size (.cells #[.slice q.p r.z.length q.c] 33)).grown hgr.out (by have := HB2.out.size; simp; omega) (fun k hk => (HO.out.lt k hk).1))
      have HQF : Hid (∀ p ∈ qs ++ [q], OwnR w2 w.heap.size p) := Lib.hid fun p hp => by
        rcases List.mem_append.1 hp with hp | hp
        · exact OwnR.grown (World.ownsRow.alloc (OwnR.after (HQ.out p hp) hb1) _) hOA (by decide) hgr.out
        · obtain rfl : p = q := by simpa using hp
          exact OwnR.grown (World.ownsRow.alloc (OwnR.mono HQO.out HB.out.size) _) hOA (by decide) hgr.out
      have HOF : Hid (w2.ownsRow w.heap.size 33 1 (.slice A' (i + 1) c') (i + 1) (cs rwC (qs ++ [q]))) := Lib.hid (by
        rw [cs_snoc]
        show w2.ownsRow _ _ _ _ _ (cs rwC qs ++ [.slice q.p q.z.length q.c])
        rw [HQZ.out]; exact hown.out)
      have HZF : Hid ((qs ++ [q]).map (·.z) = (x.rs.take (i + 1)).map (·.z)) := Lib.hid (by
        rw [List.take_add_one, HRK.out, List.map_append, HZ.out]
        simp [HQZ.out])
      clear hown hgr hOW hOA
      go_roundw
      case rel => exact ⟨i + 1, A', c', qs ++ [q], rfl, by go_num, by omega, HZF, HOF, HQF, HBF⟩
      case measure => simp [intOf]; omega
    · have hin : i = n := by omega
      subst hin
      go_wp2
      go_ret
      exact ownLP_mk (Lib.hid (by rw [HZ.out, HN.out, List.take_length])) HO HQ HB.out HN.out
end Go.Proofs.Ytffddkbphdjehaa.Lk
