/- Times along a route, and how many of a trip's runs are there: package expand's makers, proved by walking their texts. Conditions: the route's numbers are ticks, and few. -/
import Derived.Test.YtfefnfifeaihhaaGreatExC
set_option linter.unusedVariables false
set_option linter.unusedSimpArgs false
set_option maxHeartbeats 4000000
set_option maxRecDepth 100000
namespace Go.Proofs.YtfefnfifeaihhaaGreat.Wo
open Go.ChangeShapes Go.WideShapes Go.ChangeAt Go.RowKit Go.Maps
open Lx Sh
/-- when a run leaves its stop k, when it comes there -/
def dpt (rd st : List Int) (t : Int) : Nat → Int
  | 0 => t
  | k + 1 => dpt rd st t k + rd.getD k 0 + st.getD k 0
def arv (rd st : List Int) (t : Int) : Nat → Int
  | 0 => t
  | k + 1 => dpt rd st t k + rd.getD k 0
def arrT (rd st : List Int) (t : Int) (k : Nat) : List Int := (List.range (k + 1)).map (arv rd st t)
def depT (rd st : List Int) (t : Int) (k : Nat) : List Int := (List.range (k + 1)).map (dpt rd st t)
def tks (l : List Int) : Prop := ∀ x ∈ l, 0 ≤ x ∧ x ≤ 1099511627776
theorem tks_getD {l : List Int} (h : tks l) (k : Nat) : 0 ≤ l.getD k 0 ∧ l.getD k 0 ≤ 1099511627776 := by
  rw [List.getD_eq_getElem?_getD]
  cases hk : l[k]? with
  | none => simp
  | some x => exact h x (List.mem_of_getElem? hk)
theorem dpt_bd {rd st : List Int} (h1 : tks rd) (h2 : tks st) {t : Int} (h3 : 0 ≤ t) (h4 : t ≤ 1099511627776) : ∀ k : Nat, t ≤ dpt rd st t k ∧ dpt rd st t k ≤ 1099511627776 * (1 + 2 * k)
  | 0 => ⟨Int.le_refl _, by simp [dpt]; omega⟩
  | k + 1 => by
    have := dpt_bd h1 h2 h3 h4 k
    have a := tks_getD h1 k
    have b := tks_getD h2 k
    simp only [dpt]
    omega
theorem arrT_succ (rd st : List Int) (t : Int) (k : Nat) : arrT rd st t (k + 1) = arrT rd st t k ++ [arv rd st t (k + 1)] := by unfold arrT; rw [List.range_succ, List.map_append]; rfl
theorem depT_succ (rd st : List Int) (t : Int) (k : Nat) : depT rd st t (k + 1) = depT rd st t k ++ [dpt rd st t (k + 1)] := by unfold depT; rw [List.range_succ, List.map_append]; rfl
theorem arrT_len (rd st : List Int) (t : Int) (k : Nat) : (arrT rd st t k).length = k + 1 := by simp [arrT]
theorem depT_len (rd st : List Int) (t : Int) (k : Nat) : (depT rd st t k).length = k + 1 := by simp [depT]
theorem cs_snoc (l : List Int) (x : Int) : cs intC (l ++ [x]) = cs intC l ++ [.int .i64 x] := by rw [cs_int, cs_int, List.map_append]; rfl
theorem own_lit {w : World} {g base : Nat} {t : TypeId} {v : Value} (h : Blk w g t [v]) (hb : base ≤ g) : w.ownsRow base t 1 (.slice (some ⟨g, 0, none⟩) 1 1) 1 [v] := ⟨rfl, .inr ⟨g, 1, #[v], rfl, hb, h, Nat.le_refl _, by simp [maxLen], rfl, rfl⟩⟩
def AlPost (w : World) (a d : List Int) (n : Nat) (e : Ending) (w' : World) : Prop := ∃ (A B : Option Addr) (c c' : Nat), e = .returned (.tuple #[.slice A n c, .slice B n c']) ∧ n ≤ c ∧ n ≤ c' ∧ Hid (Fr w' w.heap.size A (cs intC a)) ∧ Hid (Fr w' w.heap.size B (cs intC d)) ∧ Hid (Below w.heap.size w w')
def AlRel (w : World) (rd st : List Int) (t : Int) (n : Nat) (v va vd vi : Value) (wr : World) : Prop :=
  ∃ (k : Nat) (A B : Option Addr) (c d : Nat), v = .int .i64 (dpt rd st t k) ∧ va = .slice A (k + 1) c ∧ vd = .slice B (k + 1) d ∧ vi = .int .i64 k ∧ k ≤ n ∧ Hid (wr.ownsRow w.heap.size 2 1 (.slice A (k + 1) c) (k + 1) (cs intC (arrT rd st t k))) ∧ Hid (wr.ownsRow w.heap.size 2 1 (.slice B (k + 1) d) (k + 1) (cs intC (depT rd st t k))) ∧ Hid ((Value.slice A (k + 1) c).ownBlock ≠ (Value.slice B (k + 1) d).ownBlock) ∧ Hid (Below w.heap.size w wr)
theorem grow_two {b e nA nB : Nat} {wr w4 : World} {o : Obj} {vA vB vA' : Value} {xA xB : List Value} (hA : wr.ownsRow b e 1 vA nA xA) (hB : wr.ownsRow b e 1 vB nB xB) (hne : vA.ownBlock ≠ vB.ownBlock) (hbs : b ≤ wr.heap.size)
    (hg : (wr.alloc o).grownBy w4 vA.ownBlock) (hob : vA'.ownBlock = vA.ownBlock ∨ vA'.ownBlock = some (wr.alloc o).heap.size) : w4.ownsRow b e 1 vB nB xB ∧ vA'.ownBlock ≠ vB.ownBlock ∧ Below b wr w4 := by
  have hB' := own_after hB (one_box wr o)
  have hA' := own_after hA (one_box wr o)
  refine ⟨(Ch.of_grown (X := fun k => some k = vA.ownBlock) hg (fun _ h => h)).own hB' (fun k hk hx => hne (hx.symm.trans hk.symm)), ?_, ((Below.refl b wr).alloc hbs o).trans ((Below.refl _ _).grown hg (by simp; omega) (fun k hk => (hA'.lt k hk).1))⟩
  rcases hob with h | h
  · rw [h]; exact hne
  · rw [h]; intro h2
    have := (hB.lt _ h2.symm).2
    simp at this; omega
theorem along_any (w : World) (t : Int) (R : Nat) (sa ra ya : Option Addr) (n1 n m sc rc yc : Nat) (rd st : List Int) (hn : Hid (n = rd.length)) (hm : Hid (m = st.length)) (hN : n ≤ 400) (hM : m ≤ 400) (hb : Blk w R 59 [.slice sa n1 sc, .slice ra n rc, .slice ya m yc]) (hr : Rd w (· < w.heap.size) ra (cs intC rd)) (hy : Rd w (· < w.heap.size) ya (cs intC st)) (h1 : Hid (tks rd)) (h2 : Hid (tks st)) (h3 : 0 ≤ t) (h4 : t ≤ 1099511627776) :
    Calls Tryz.prog 67 #[.int .i64 t, .pointer (some ⟨R, 0, none⟩)] w (AlPost w (arrT rd st t n) (depT rd st t n) (n + 1)) := by
  have HB0 := HH hb
  have HR := HH hr
  have HY := HH hy
  have r1 : w.cell? ⟨R, 1, none⟩ = some (.slice ra n rc) := hb.cell 1
  have hRl : R < w.heap.size := hb.lt
  have hne : R ≠ w.heap.size := by omega
  have hne' : R ≠ w.heap.size + 1 := by omega
  clear hb hr hy
  go_enter Tryz.func67, Tryz.ntmps67
  go_wp2
  go_loopw [5, 6, 7, 18] (fun v va vd vi wr => AlRel w rd st t n v va vd vi wr) (fun _ _ _ vi _ => n - (intOf vi).toNat)
  case atStart => exact ⟨0, some ⟨w.heap.size, 0, none⟩, some ⟨w.heap.size + 1, 0, none⟩, 1, 1, rfl, rfl, rfl, rfl, by omega, HH (own_lit ((Blk.new w _ [.int .i64 t]).alloc _) (Nat.le_refl _)), HH (own_lit (Blk.new2 w _ _ [.int .i64 t]) (by omega)), HH (by simp [Value.ownBlock]), HH (two_box _ _ _)⟩
  case round =>
    obtain ⟨k, A, B, c, d, rfl, rfl, rfl, rfl, hk, HA, HD, HNE, HB⟩ := hrel
    have hbd := dpt_bd h1.out h2.out h3 h4 k
    by_cases hlt : k < n
    · obtain ⟨x, hx⟩ := at_in rd hn hlt
      obtain ⟨ad, rfl, hS, h0, hj⟩ := rd_at 1 (fun _ => rfl) (by omega) (HR.out.below HB.out) hx
      rw [Nat.mul_one] at h0
      have a0 : wr.cell? (ad.add k) = some (.int .i64 x) := h0
      have HXX : Hid (rd.getD k 0 = x) := HH (by rw [List.getD_eq_getElem?_getD, hx]; rfl)
      have hxb := h1.out x (List.mem_of_getElem? hx)
      obtain ⟨q1, q2⟩ := hbd
      obtain ⟨q3, q4⟩ := hxb
      have hi : (k : Int) < (n : Int) := by omega
      clear hx h0 hj
      by_cases hlt2 : k < m
      · obtain ⟨y, hy⟩ := at_in st hm hlt2
        have HYY : Hid (st.getD k 0 = y) := HH (by rw [List.getD_eq_getElem?_getD, hy]; rfl)
        have HYA : Hid (∀ w', Below w.heap.size w w' → ∃ bd, ya = some bd ∧ w'.cell? (bd.add k) = some (.int .i64 y)) := HH (fun w' hb => by
          obtain ⟨bd, e, -, g0, -⟩ := rd_at 1 (fun _ => rfl) (by omega) (HY.out.below hb) hy
          rw [Nat.mul_one] at g0
          exact ⟨bd, e, g0⟩)
        obtain ⟨bd, hbd2, -⟩ := HYA.out w (Below.refl _ _)
        have HYB : Hid (∀ w', Below w.heap.size w w' → w'.cell? (bd.add k) = some (.int .i64 y)) := HH (fun w' hb => by
          obtain ⟨bd', e, g⟩ := HYA.out w' hb
          rw [hbd2] at e; injection e with e; rw [e]; exact g)
        subst hbd2
        obtain ⟨q5, q6⟩ := h2.out y (List.mem_of_getElem? hy)
        have hi2 : (k : Int) < (m : Int) := by omega
        clear hy HYA
        go_wp2_with (first
          | (at_builtin; refine wpList_append_ch rfl (.tmp 26) (.tmp 28) 22 rfl w.heap.size 2 _ 1 8 Tryz.underlying22 info_int64 rfl (by omega) (by omega) (.slice A (k + 1) c) (k + 1) (cs intC (arrT rd st t k)) rfl (own_after HA.out (one_box _ _)) _ _ 1 1 [.int .i64 (dpt rd st t k + x)] rfl rfl (Sh.lit_at _ _ _ _ _ (by simp) rfl) (by simp [Value.oneCell']) (by omega) (by have := HB.out.size; simp; omega) ?_; intro v' w4 hown hg hob; obtain ⟨A', c', rfl, -, -⟩ := own_form hown.out; have HA4 := hown; obtain ⟨hD4, hne4, hb4⟩ := grow_two HA.out HD.out HNE.out HB.out.size hg.out hob.out; have HD4 := HH hD4; have HNE4 := HH hne4; have HB4 := HH (HB.out.trans hb4); have r2 : w4.cell? ⟨R, 2, none⟩ = some (.slice (some bd) m yc) := (HB0.out.below HB4.out hRl).cell 2; have b0 := HYB.out _ HB4.out; clear hown hg hob hD4 hne4 hb4)
          | (at_builtin; refine wpList_append_ch rfl (.tmp 42) (.tmp 44) 22 rfl w.heap.size 2 _ 1 8 Tryz.underlying22 info_int64 rfl (by omega) (by omega) (.slice B (k + 1) d) (k + 1) (cs intC (depT rd st t k)) rfl (own_after HD4.out (one_box _ _)) _ _ 1 1 [.int .i64 (dpt rd st t k + x + y)] rfl rfl (Sh.lit_at _ _ _ _ _ (by simp) rfl) (by simp [Value.oneCell']) (by omega) (by have := HB4.out.size; simp; omega) ?_; intro v' w5 hown hg hob; obtain ⟨B', d', rfl, -, -⟩ := own_form hown.out; have HD5 := hown; obtain ⟨hA5, hne5, hb5⟩ := grow_two HD4.out HA4.out (Ne.symm HNE4.out) HB4.out.size hg.out hob.out; have HA5 := HH hA5; have HNE5 := HH (Ne.symm hne5); have HB5 := HH (HB4.out.trans hb5); clear hown hg hob hA5 hne5 hb5))
        go_roundw
        case rel => exact ⟨k + 1, A', B', c', d', by simp only [dpt, HXX.out, HYY.out], rfl, rfl, by go_num, by omega, HH (by rw [arrT_succ, cs_snoc]; simp only [arv, HXX.out]; exact HA5.out), HH (by rw [depT_succ, cs_snoc]; simp only [dpt, HXX.out, HYY.out, Int.add_zero]; exact HD5.out), HNE5, HB5⟩
        case measure => simp [intOf]; omega
      · have HYY : Hid (st.getD k 0 = 0) := HH (by rw [List.getD_eq_getElem?_getD, List.getElem?_eq_none (by have := hm.out; omega)]; rfl)
        have hi2 : ¬ (k : Int) < (m : Int) := by omega
        go_wp2_with (first
          | (at_builtin; refine wpList_append_ch rfl (.tmp 26) (.tmp 28) 22 rfl w.heap.size 2 _ 1 8 Tryz.underlying22 info_int64 rfl (by omega) (by omega) (.slice A (k + 1) c) (k + 1) (cs intC (arrT rd st t k)) rfl (own_after HA.out (one_box _ _)) _ _ 1 1 [.int .i64 (dpt rd st t k + x)] rfl rfl (Sh.lit_at _ _ _ _ _ (by simp) rfl) (by simp [Value.oneCell']) (by omega) (by have := HB.out.size; simp; omega) ?_; intro v' w4 hown hg hob; obtain ⟨A', c', rfl, -, -⟩ := own_form hown.out; have HA4 := hown; obtain ⟨hD4, hne4, hb4⟩ := grow_two HA.out HD.out HNE.out HB.out.size hg.out hob.out; have HD4 := HH hD4; have HNE4 := HH hne4; have HB4 := HH (HB.out.trans hb4); have r2 : w4.cell? ⟨R, 2, none⟩ = some (.slice ya m yc) := (HB0.out.below HB4.out hRl).cell 2; clear hown hg hob hD4 hne4 hb4)
          | (at_builtin; refine wpList_append_ch rfl (.tmp 42) (.tmp 44) 22 rfl w.heap.size 2 _ 1 8 Tryz.underlying22 info_int64 rfl (by omega) (by omega) (.slice B (k + 1) d) (k + 1) (cs intC (depT rd st t k)) rfl (own_after HD4.out (one_box _ _)) _ _ 1 1 [.int .i64 (dpt rd st t k + x)] rfl rfl (Sh.lit_at _ _ _ _ _ (by simp) rfl) (by simp [Value.oneCell']) (by omega) (by have := HB4.out.size; simp; omega) ?_; intro v' w5 hown hg hob; obtain ⟨B', d', rfl, -, -⟩ := own_form hown.out; have HD5 := hown; obtain ⟨hA5, hne5, hb5⟩ := grow_two HD4.out HA4.out (Ne.symm HNE4.out) HB4.out.size hg.out hob.out; have HA5 := HH hA5; have HNE5 := HH (Ne.symm hne5); have HB5 := HH (HB4.out.trans hb5); clear hown hg hob hA5 hne5 hb5))
        go_roundw
        case rel => exact ⟨k + 1, A', B', c', d', by simp only [dpt, HXX.out, HYY.out, Int.add_zero], rfl, rfl, by go_num, by omega, HH (by rw [arrT_succ, cs_snoc]; simp only [arv, HXX.out]; exact HA5.out), HH (by rw [depT_succ, cs_snoc]; simp only [dpt, HXX.out, HYY.out, Int.add_zero]; exact HD5.out), HNE5, HB5⟩
        case measure => simp [intOf]; omega
    · obtain rfl : k = n := by omega
      have hi : ¬ (k : Int) < (k : Int) := by omega
      go_wp2
      go_ret2
      obtain ⟨A', c', e1, hc, -⟩ := own_form HA.out
      obtain ⟨B', d', e2, hd, -⟩ := own_form HD.out
      injection e1 with e1 e3 e4
      injection e2 with e2 e5 e6
      exact ⟨A, B, c, d, rfl, by omega, by omega, HH (fr_own HA.out (Nat.le_refl _)), HH (fr_own HD.out (Nat.le_refl _)), HB⟩
end Go.Proofs.YtfefnfifeaihhaaGreat.Wo
