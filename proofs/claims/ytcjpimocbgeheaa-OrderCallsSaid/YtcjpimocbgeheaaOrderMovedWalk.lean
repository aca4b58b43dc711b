/- The law OrderMoved walked: it answers true at any numbers. No condition. -/
import Derived.Test.YtcjpimocbgeheaaOrderLex
namespace Go.Proofs.Ytcjpimocbgeheaa.Od
open Go.ChangeShapes Go.WideShapes Go.ChangeAt Go.RowKit
set_option linter.unusedVariables false

/-- append of one number onto a row of the call's own, with where the new row lies -/
theorem wpList_append_num {w : World} {ops : Array Oper} {rest : List Oper} {o : Oper} {a : Act} {Q : Exit → Act → World → Prop} (hgd : o.guard = none) (s x : Operand) (t e : TypeId)
    (ho : o.op = .call { callee := .builtin .append, args := #[s, x], argTypes := #[t, t] })
    (ht : Try.prog.underlying t = some (.slice e)) (hinfo : (Try.prog.info? e).map (fun i => (i.zero, i.size, i.bytes)) = some (some (.int .i64 0), 1, 8))
    (base : Nat) (v : Value) (n : Nat) (xs : List Int) (u : Int) (hs : a.eval s = v) (hx : a.eval x = .slice (some ⟨w.heap.size, 0, none⟩) 1 1) (hown : Hid (w.ownsRow base e 1 v n (ic xs)))
    (hN : n ≤ 1000000) (hbase : base ≤ w.heap.size)
    (h : ∀ v' w', Hid (w'.ownsRow base e 1 v' (n + 1) (ic (xs ++ [u]))) → Hid ((w.alloc (.cells #[.int .i64 u] e)).grownBy w' v.ownBlock) → Hid (v'.ownBlock = v.ownBlock ∨ v'.ownBlock = some (w.heap.size + 1)) → wpList Try.prog ops Q rest (a.put o.dst v') w') :
    wpList Try.prog ops Q (o :: rest) a (w.alloc (.cells #[.int .i64 u] e)) := by
  refine wpList_plain hgd fun K hK => ?_
  obtain ⟨i, hi, hz, hsize, hby⟩ := info_parts hinfo
  have hr := lit_rd w #[.int .i64 u] e [.int .i64 u] rfl
  obtain ⟨v', w', hrun, h2, h3, h4⟩ := run_append_rd (P := Try.prog) (w.alloc (.cells #[.int .i64 u] e)) base t o.type e i _ 1 8 ht hi hz hsize hby rfl (by omega) v n (ic xs) (hown.out.alloc _) _ _ 1 1 [.int .i64 u] (by simp) hr (by simp [Value.oneCell']) (by simp only [maxLen]; omega)
    (by omega) (by simp; omega)
  have e1 : (w.alloc (.cells #[.int .i64 u] e)).heap.size = w.heap.size + 1 := by simp
  rw [e1] at h4
  rw [← ic_snoc] at h2
  unfold Oper.wp
  simp only [execOp, ho, resolve, invoke, builtin, Sem.run_bind, Sem.run_pure, Result.andThen_ok, List.map_toArray, List.map_cons, List.map_nil, hs, hx, hrun]
  exact hK _ _ (h v' w' h2 h3 h4)

def backF (zs : List Int) (k : Nat) : List Int := (List.range k).map fun j => wrap64 (-(zs.getD (zs.length - 1 - j) 0))
def small (x : Int) : Prop := -1099511627776 ≤ x ∧ x ≤ 1099511627776
def Ap (v5 v6 : Value) : Prop := ∀ g, v5.ownBlock = some g → v6.ownBlock ≠ some g
def MvRel (w : World) (n : Nat) (zs : List Int) (m : Int) (v5 v6 v7 : Value) (wr : World) : Prop :=
  ∃ (k : Nat) (V5 V6 : Value), V5 = v5 ∧ V6 = v6 ∧ v7 = .int .i64 k ∧ k ≤ n ∧ (∀ j, j < k → small (zs.getD j 0)) ∧ wr.ownsRow w.heap.size 2 1 V5 k (ic ((zs.map (· + m)).take k)) ∧ wr.ownsRow w.heap.size 2 1 V6 k (ic (backF zs k)) ∧ Ap V5 V6 ∧ Below w.heap.size w wr

theorem mv_below {w wr w1 : World} {k : Nat} {v : Value} {xs : List Value} {o : Obj} (hb : Below w.heap.size w wr) (ho : wr.ownsRow w.heap.size 2 1 v k xs) (hg : (wr.alloc o).grownBy w1 v.ownBlock) : Below w.heap.size w w1 :=
  (hb.alloc hb.size o).grown hg (by have := hb.size; simp; omega) (fun g hv => (ho.lt g hv).1)
theorem mv_kept {w wr w1 : World} {k' : Nat} {v v6 : Value} {ys : List Value} {o : Obj} (hb : Below w.heap.size w wr) (ho : wr.ownsRow w.heap.size 2 1 v6 k' ys) (hap : Ap v v6) (hg : (wr.alloc o).grownBy w1 v.ownBlock) : w1.ownsRow w.heap.size 2 1 v6 k' ys := by
  refine (ho.alloc o).kept hg ?_
  cases h : v.ownBlock with
  | none =>
    cases h6 : v6.ownBlock with
    | none => exact .inl rfl
    | some g => exact .inr (by simp)
  | some g => exact .inr (hap g h)

theorem mv_next {w wr w1 w2 : World} {n k : Nat} {zs : List Int} {m x y : Int} {V5 V6 v5 v6 : Value} {o : Obj} (hn : n = zs.length) (hlt : k < n) (hx : x = zs.getD k 0) (hy : y = zs.getD (n - 1 - k) 0) (hs : small x)
    (hsm : ∀ j, j < k → small (zs.getD j 0)) (hb : Below w.heap.size w wr) (ho5 : wr.ownsRow w.heap.size 2 1 V5 k (ic ((zs.map (· + m)).take k))) (ho6 : wr.ownsRow w.heap.size 2 1 V6 k (ic (backF zs k))) (hap : Ap V5 V6)
    (h5 : w1.ownsRow w.heap.size 2 1 v5 (k + 1) (ic ((zs.map (· + m)).take k ++ [x + m]))) (hat5 : v5.ownBlock = V5.ownBlock ∨ v5.ownBlock = some (wr.heap.size + 1)) (hb1 : Below w.heap.size w w1)
    (h61 : w1.ownsRow w.heap.size 2 1 V6 k (ic (backF zs k))) (hg6 : (w1.alloc o).grownBy w2 V6.ownBlock) (h6 : w2.ownsRow w.heap.size 2 1 v6 (k + 1) (ic (backF zs k ++ [wrap64 (-y)]))) (hat6 : v6.ownBlock = V6.ownBlock ∨ v6.ownBlock = some (w1.heap.size + 1)) :
    MvRel w n zs m v5 v6 (.int .i64 ((k : Int) + 1)) w2 := by
  have hap2 : Ap V6 v5 := by
    intro g hg e
    rcases hat5 with e5 | e5
    · exact hap g (e5 ▸ e) hg
    · have := (ho6.lt g hg).2
      rw [e] at e5
      injection e5 with e5
      omega
  refine ⟨k + 1, v5, v6, rfl, rfl, by simp, by omega, fun j hj => ?_, ?_, ?_, ?_, ?_⟩
  · by_cases e : j = k
    · subst e; rw [← hx]; exact hs
    · exact hsm j (by omega)
  · have e : (zs.map (· + m)).take (k + 1) = (zs.map (· + m)).take k ++ [x + m] := by
      rw [take_snocD _ _ (by simp; omega), getD_map (· + m) zs k (by omega), ← hx]
    rw [e]
    exact mv_kept hb1 h5 hap2 hg6
  · have e : backF zs (k + 1) = backF zs k ++ [wrap64 (-y)] := by
      unfold backF; rw [List.range_succ, List.map_append, hy, hn]; rfl
    rw [e]
    exact h6
  · intro g hg e
    have h1 := (h5.lt g hg).2
    rcases hat6 with e6 | e6
    · exact hap2 g (e6 ▸ e) hg
    · rw [e] at e6
      injection e6 with e6
      omega
  · exact mv_below hb1 h61 hg6

theorem backF_all {zs : List Int} (h : ∀ j, j < zs.length → small (zs.getD j 0)) : backF zs zs.length = backZ zs := by
  unfold backF backZ
  refine List.map_congr_left (fun j hj => ?_)
  have hj' : j < zs.length := by simpa using hj
  have := h (zs.length - 1 - j) (by omega)
  unfold small at this
  exact IntWalk.wrap64_in _ (by omega)

set_option maxHeartbeats 1000000 in
theorem moved_any (w : World) (A : Option Addr) (n c : Nat) (m : Int) (zs : List Int) (hn : Hid (n = zs.length)) (hc : n ≤ c) (hz : Hid (InKind zs)) (hx : Rd w (· < w.heap.size) A (ic zs)) (hN : n ≤ 200) (hm1 : -1099511627776 ≤ m) (hm2 : m ≤ 1099511627776) :
    Calls Try.prog 8 #[.slice A n c, .int .i64 m] w fun e w' => e = .returned (.bool true) ∧ Below w.heap.size w w' := by
  have hd : decide ((200 : Int) < (n : Int)) = false := by simp; omega
  have hd2 : decide (m < -1099511627776) = false := by simp; omega
  have hd3 : decide (1099511627776 < m) = false := by simp; omega
  go_enter Try.func8, Try.ntmps8
  go_wp2_with fail
  refine (lives_any w).mono ?_
  rintro e w0 ⟨rfl, b0⟩
  have HX := Lib.hid hx
  clear hx
  go_wp2_with fail
  have H0 := Lib.hid (show MvRel w n zs m (.slice none 0 0) (.slice none 0 0) (.int .i64 ((0 : Nat) : Int)) w0 from ⟨0, _, _, rfl, rfl, rfl, by omega, fun j hj => by omega, World.ownsRow_nil _ _ _ _, World.ownsRow_nil _ _ _ _, fun g hg => by simp [Value.ownBlock] at hg, b0⟩)
  clear b0
  go_loopw [5, 6, 7] (fun v5 v6 v7 wr => MvRel w n zs m v5 v6 v7 wr) (fun _ _ v _ => n - (intOf v).toNat)
  case atStart => exact H0.out
  case round =>
    obtain ⟨k, V5, V6, rfl, rfl, rfl, hk, hsm, ho5, ho6, hap, hbel⟩ := hrel
    clear H0
    by_cases hlt : k < n
    · obtain ⟨ad, rfl, hS, hcell⟩ := HX.out.at_ (k := k) (by rw [← hn.out]; exact hlt)
      have hcW : ∀ W : World, Below w.heap.size w W → ∀ j, j < n → W.cell? (ad.add j) = some (.int .i64 (zs.getD j 0)) := fun W h j hj => by
        rw [h.cell (by rw [block_of_add]; exact hS)]; exact hcell j (by rw [← hn.out]; exact hj)
      have hx0 := hcW wr hbel k hlt
      have hx1 := fun W h => hcW W h (n - 1 - k) (by omega)
      obtain ⟨x, hxx⟩ : ∃ x, x = zs.getD k 0 := ⟨_, rfl⟩
      obtain ⟨y, hyy⟩ : ∃ y, y = zs.getD (n - 1 - k) 0 := ⟨_, rfl⟩
      rw [← hxx] at hx0
      rw [← hyy] at hx1
      have HX1 := Lib.hid hx1
      have HXX := Lib.hid hxx
      have HYY := Lib.hid hyy
      have HSM := Lib.hid hsm
      have HO5 := Lib.hid ho5
      have HO6 := Lib.hid ho6
      have HAP := Lib.hid hap
      have HB := Lib.hid hbel
      have hsz := hbel.size
      clear hxx hyy hsm ho5 ho6 hap hcell hbel hcW hx1
      by_cases hs : small x
      · obtain ⟨hs1, hs2⟩ := hs
        have hd4 : decide (x < -1099511627776) = false := by simp; omega
        have hd5 : decide (1099511627776 < x) = false := by simp; omega
        go_wp2_with (first
          | (at_builtin; refine wpList_append_num rfl (.tmp 43) (.tmp 50) 31 2 rfl Try.underlying31 info_i64 w.heap.size V5 k ((zs.map (· + m)).take k) (x + m) rfl rfl HO5 (by omega) hsz ?_; intro v5' w1 ho5' hg5' hat5'; have b1 : Hid (Below w.heap.size w w1) := mv_below HB.out HO5.out (Hid.out hg5'); have hx2 := HX1.out w1 b1.out; have ho6' : Hid (w1.ownsRow w.heap.size 2 1 V6 k (ic (backF zs k))) := mv_kept HB.out HO6.out HAP.out (Hid.out hg5'))
          | (at_builtin; refine wpList_append_num rfl (.tmp 52) (.tmp 62) 31 2 rfl Try.underlying31 info_i64 w.heap.size V6 k (backF zs k) (wrap64 (-y)) rfl rfl ho6' (by omega) b1.out.size ?_; intro v6' w2 h6' hg6' hat6'))
        have HN := Lib.hid (mv_next hn.out hlt HXX.out HYY.out ⟨hs1, hs2⟩ HSM.out HB.out HO5.out HO6.out HAP.out ho5'.out hat5'.out b1.out ho6'.out hg6'.out h6'.out hat6'.out)
        go_roundw
        case rel => exact HN.out
        case measure => simp [intOf]; omega
      · have hs' : x < -1099511627776 ∨ 1099511627776 < x := by unfold small at hs; omega
        clear hs
        rcases hs' with hs' | hs'
        · have hd4 : decide (x < -1099511627776) = true := by simpa using hs'
          go_wp2
          go_ret
          exact ⟨rfl, HB.out⟩
        · have hd4 : decide (x < -1099511627776) = false := by simp; omega
          have hd5 : decide (1099511627776 < x) = true := by simpa using hs'
          go_wp2
          go_ret
          exact ⟨rfl, HB.out⟩
    · have hkn : k = n := by omega
      subst hkn
      have e5 : (zs.map (· + m)).take k = zs.map (· + m) := List.take_of_length_le (by rw [List.length_map, ← hn.out]; exact Nat.le_refl _)
      have e6 : backF zs k = backZ zs := by rw [hn.out]; exact backF_all (fun j hj => hsm j (by rw [hn.out]; exact hj))
      rw [e5] at ho5
      rw [e6] at ho6
      obtain ⟨A5, c5, hv5, hc5, hr5⟩ := own_form ho5
      obtain ⟨A6, c6, hv6, hc6, hr6⟩ := own_form ho6
      subst hv5 hv6
      have hr0 := HX.out.later hbel
      have HB := Lib.hid hbel
      have hk5 : Hid (k = (zs.map (· + m)).length) := by show _ = _; rw [List.length_map]; exact hn.out
      have hk6 : Hid (k = (backZ zs).length) := by show _ = _; rw [backZ_length]; exact hn.out
      clear e5 e6 ho5 ho6 hap hsm hbel
      go_wp2_with fail
      refine (perm_any wr A k c zs hn (by omega) hc hr0).mono ?_
      rintro e w1 ⟨A1, n1, c1, rfl, hn1, hc1, hr1, q1⟩
      go_wp2_with fail
      refine (perm_any w1 A5 k c5 (zs.map (· + m)) hk5 (by omega) hc5 (hr5.old.later q1)).mono ?_
      rintro e w2 ⟨A2, n2, c2, rfl, hn2, hc2, hr2, q2⟩
      have q12 := keep_trans q1 q2
      go_wp2_with fail
      refine (perm_any w2 A6 k c6 (backZ zs) hk6 (by omega) hc6 (hr6.old.later q12)).mono ?_
      rintro e w3 ⟨A3, n3, c3, rfl, hn3, hc3, hr3, q3⟩
      have q23 := keep_trans q2 q3
      have q13 := keep_trans q12 q3
      have h1k : k = n1 := by rw [hn1.out, pm_length, hn.out]
      have h3k : k = n3 := by rw [hn3.out, pm_length, ← hk6.out]
      have H3K := Lib.hid h3k
      clear h3k
      subst h1k
      rw [pm_moved] at hn2 hr2
      go_wp2_with fail
      refine (same2_int hn1 hn2 rfl (by omega) (hr1.old.later q23) (hr2.old.later q3)).mono ?_
      rintro e w4 ⟨rfl, q4⟩
      have HB4 := Lib.hid (keep_trans (keep_trans HB.out q13) q4)
      have HP := Lib.hid ((hr1.old.later q23).later q4)
      have HR := Lib.hid (hr3.old.later q4)
      have h3k := H3K.out
      clear H3K
      subst h3k
      clear hr1 hr2 hr3 hr5 hr6 hr0 q1 q2 q3 q4 q12 q13 q23
      go_wp2_with fail
      go_loopw [11] (fun v11 W => ∃ i : Nat, v11 = .int .i64 i ∧ i ≤ k ∧ Below w4.heap.size w4 W) (fun v _ => k - (intOf v).toNat)
      case atStart => exact ⟨0, rfl, by omega, Below.refl _ _⟩
      case round =>
        obtain ⟨i, rfl, hi, hbW⟩ := hrel
        have HBW := Lib.hid hbW
        by_cases hlt2 : i < k
        · have hik : i < zs.length := by rw [← hn.out]; exact hlt2
          obtain ⟨ad3, rfl, _, hcell3⟩ := (HR.out.later hbW).at_ (k := i) (by rw [pm_length, backZ_length]; exact hik)
          obtain ⟨ad1, rfl, _, hcell1⟩ := (HP.out.later hbW).at_ (k := i) (by rw [pm_length]; exact hik)
          have hy0 := hcell3 i (by rw [pm_length, backZ_length]; exact hik)
          have hy1 := hcell1 (k - 1 - i) (by rw [pm_length, ← hn.out]; omega)
          rw [pm_back zs i hik, ← hn.out] at hy0
          have hP := pm_bound zs (k - 1 - i) (by rw [← hn.out]; omega)
          rw [← hn.out] at hP
          obtain ⟨P, hPP⟩ : ∃ P, P = (pm zs).getD (k - 1 - i) 0 := ⟨_, rfl⟩
          rw [← hPP] at hy0 hy1 hP
          obtain ⟨hP0, hP1⟩ := hP
          clear hPP hcell3 hcell1 hbW hik
          go_wp2
          have e1 : IntKind.i64.wrap ((k : Int) - 1) = (k : Int) - 1 := IntWalk.i64_in _ (by omega)
          have e2 : IntKind.i64.wrap ((k : Int) - 1 - (i : Int)) = (k : Int) - 1 - (i : Int) := IntWalk.i64_in _ (by omega)
          have e3 : IntKind.i64.wrap ((k : Int) - 1 - P) = (k : Int) - 1 - P := IntWalk.i64_in _ (by omega)
          have e4 : ((k : Int) - 1 - (i : Int)).toNat = k - 1 - i := by omega
          have e5 : (0 : Int) ≤ (k : Int) - 1 - (i : Int) := by omega
          have e6 : (k : Int) - 1 - (i : Int) < (k : Int) := by omega
          have e7 : (i : Int) ≤ (k : Int) - 1 := by omega
          have e8 : (i : Int) < (k : Int) := by omega
          go_quiet (fail)
          clear e1 e2 e3 e4 e5 e6 e7 e8
          go_wp2
          go_roundw
          case rel => exact ⟨i + 1, by go_num, by omega, below_drewN HBW.out _⟩
          case measure => simp [intOf]; omega
        · clear hbW
          go_wp2
          go_ret
          exact ⟨rfl, keep_trans HB4.out HBW.out⟩

theorem moved_all (w : World) (A : Option Addr) (n c : Nat) (m : Int) (zs : List Int) (hn : Hid (n = zs.length)) (hc : n ≤ c) (hz : InKind zs) (hx : Rd w (· < w.heap.size) A (ic zs)) :
    Calls Try.prog 8 #[.slice A n c, .int .i64 m] w fun e w' => e = .returned (.bool true) ∧ Below w.heap.size w w' := by
  by_cases h1 : 200 < n
  · have hd : decide ((200 : Int) < (n : Int)) = true := by simp; omega
    go_enter Try.func8, Try.ntmps8
    go_wp2_with (go_at_call 9; refine (lives_any _).mono ?_; rintro e w0 ⟨rfl, hb0⟩)
    go_ret
    exact ⟨rfl, hb0⟩
  · have hd : decide ((200 : Int) < (n : Int)) = false := by simp; omega
    by_cases h2 : m < -1099511627776
    · have hd2 : decide (m < -1099511627776) = true := by simpa using h2
      go_enter Try.func8, Try.ntmps8
      go_wp2_with (go_at_call 9; refine (lives_any _).mono ?_; rintro e w0 ⟨rfl, hb0⟩)
      go_ret
      exact ⟨rfl, hb0⟩
    · have hd2 : decide (m < -1099511627776) = false := by simp; omega
      by_cases h3 : 1099511627776 < m
      · have hd3 : decide (1099511627776 < m) = true := by simpa using h3
        go_enter Try.func8, Try.ntmps8
        go_wp2_with (go_at_call 9; refine (lives_any _).mono ?_; rintro e w0 ⟨rfl, hb0⟩)
        go_ret
        exact ⟨rfl, hb0⟩
      · exact moved_any w A n c m zs hn hc hz hx (by omega) (by omega) (by omega)
end Go.Proofs.Ytcjpimocbgeheaa.Od
