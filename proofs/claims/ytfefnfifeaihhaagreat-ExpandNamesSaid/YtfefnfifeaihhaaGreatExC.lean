/- Runs as they lie in memory; what package expand's small functions answer, proved by walking their texts. Conditions: rows of at most a million numbers. -/
import Derived.Test.YtfefnfifeaihhaaGreatExT
set_option linter.unusedVariables false
set_option linter.unusedSimpArgs false
set_option maxHeartbeats 4000000
set_option maxRecDepth 100000
namespace Go.Proofs.YtfefnfifeaihhaaGreat.Wo
open Go.ChangeShapes Go.WideShapes Go.ChangeAt Go.RowKit Go.Maps
open Lx Sh
structure RunM where
  trip : Int
  no : Int
  arr : List Int
  dep : List Int
deriving DecidableEq
abbrev zRu : RunM := ⟨0, 0, [], []⟩
abbrev ruV (r : RunM) (a b : Option Addr) (c d : Nat) : Value := .agg #[.int .i64 r.trip, .int .i64 r.no, .slice a r.arr.length c, .slice b r.dep.length d]
theorem end_any (w : World) (A : Option Addr) (n c : Nat) (l : List Int) (z : Int) (hn : Hid (n = l.length)) (hN : n ≤ 1000000) (hz : l[n - 1]? = some z) (hx : Rd w (· < w.heap.size) A (cs intC l)) :
    Calls Tryz.prog 34 #[.slice A n c] w (fun e w' => e = .returned (.int .i64 z) ∧ w = w') := by
  have hlt := (List.getElem?_eq_some_iff.1 hz).1
  obtain ⟨m, rfl⟩ : ∃ m, n = m + 1 := ⟨n - 1, by have := hn.out; omega⟩
  obtain ⟨ad, rfl, hS, h0, hj⟩ := rd_at 1 (fun _ => rfl) (by omega) hx hz
  simp only [Nat.add_sub_cancel, Nat.mul_one] at h0
  have a0 : w.cell? (ad.add m) = some (.int .i64 z) := h0
  have e1 : ((m + 1 : Nat) : Int) - 1 = (m : Int) := by omega
  clear h0 hj hx hz hlt
  go_enter Tryz.func34, Tryz.ntmps34
  go_wp2
  go_ret
  exact ⟨rfl, rfl⟩
/-- whether a run's number is one of so many -/
def hasB (count no : Int) : Bool := decide (0 ≤ no) && decide (no < count)
theorem has_any (w : World) (count no : Int) (f : Value) : Calls Tryz.prog 31 #[.agg #[.int .i64 count, f], .int .i64 no] w (fun e w' => e = .returned (.bool (hasB count no)) ∧ Below w.heap.size w w') := by
  by_cases h0 : 0 ≤ no
  · by_cases h1 : no < count
    · have H : Hid (hasB count no = true) := HH (by simp [hasB, h0, h1])
      go_enter Tryz.func31, Tryz.ntmps31
      go_wp2
      go_ret
      exact ⟨by rw [H.out]; rfl, one_box _ _⟩
    · have H : Hid (hasB count no = false) := HH (by simp [hasB, h0, h1])
      go_enter Tryz.func31, Tryz.ntmps31
      go_wp2
      go_ret
      exact ⟨by rw [H.out]; rfl, one_box _ _⟩
  · have H : Hid (hasB count no = false) := HH (by simp [hasB, h0])
    go_enter Tryz.func31, Tryz.ntmps31
    go_wp2
    go_ret
    exact ⟨by rw [H.out]; rfl, one_box _ _⟩
/-! ### times that may be -/
def rsF (o : Option Int) (p : Int × Int) : Option Int := o.bind fun h => if p.1 ≤ h ∨ p.2 < p.1 then none else some p.2
def riseZ (z : List (Int × Int)) : Option Int := z.foldl rsF (some (-1))
theorem rsF_none (z : List (Int × Int)) : z.foldl rsF none = none := by induction z with
  | nil => rfl
  | cons p z ih => exact ih
def riseB (o : Option Int) : Bool := match o with | some h => decide (h ≤ 1099511627776) | none => false
def timB (a d : List Int) : Bool := decide (2 ≤ a.length) && (decide (d.length = a.length) && (decide (a[0]?.getD 0 = d[0]?.getD 0) && (decide (a[a.length - 1]?.getD 0 = d[a.length - 1]?.getD 0) && riseB (riseZ (a.zip d)))))
theorem rise_step {z : List (Int × Int)} {k : Nat} {x y h : Int} (hz : z[k]? = some (x, y)) (hk : (z.take k).foldl rsF (some (-1)) = some h) (h1 : ¬ x ≤ h) (h2 : ¬ y < x) : (z.take (k + 1)).foldl rsF (some (-1)) = some y := by
  rw [List.take_add_one, hz, List.foldl_append, hk]
  simp [rsF, h1, h2]
theorem rise_bad {z : List (Int × Int)} {k : Nat} {x y h : Int} (hz : z[k]? = some (x, y)) (hk : (z.take k).foldl rsF (some (-1)) = some h) (h1 : x ≤ h ∨ y < x) : riseZ z = none := by
  have hlt := (List.getElem?_eq_some_iff.1 hz).1
  unfold riseZ
  conv => lhs; rw [← List.take_append_drop (k + 1) z]
  rw [List.foldl_append, List.take_add_one, hz, List.foldl_append, hk]
  have : rsF (some h) (x, y) = none := by simp [rsF, h1]
  simp only [Option.toList, List.foldl_cons, List.foldl_nil, this]
  exact rsF_none _
theorem zp_at {a d : List Int} {k : Nat} {x y : Int} (h1 : a[k]? = some x) (h2 : d[k]? = some y) : (a.zip d)[k]? = some (x, y) := by
  rw [List.getElem?_zip_eq_some]; exact ⟨h1, h2⟩
theorem quiet_eq {P : Program} {f : FuncId} {args : Array Value} {w : World} {n : Nat} {v : Value} (h : Calls P f args (w.drewN n) fun e w' => e = .returned v ∧ w.drewN n = w') : Calls P f args (w.drewN n) fun e w'' => e = .returned v ∧ ∃ m, w'' = w.drewN m := h.mono fun _ _ ⟨he, hm⟩ => ⟨he, n, hm.symm⟩
theorem timed_any (w : World) (tr no : Int) (A B : Option Addr) (n c m d : Nat) (a e : List Int) (hn : Hid (n = a.length)) (hm : Hid (m = e.length)) (hN : n ≤ 1000000) (hM : m ≤ 1000000) (hx : Rd w (· < w.heap.size) A (cs intC a)) (hy : Rd w (· < w.heap.size) B (cs intC e)) :
    Calls Tryz.prog 33 #[.agg #[.int .i64 tr, .int .i64 no, .slice A n c, .slice B m d]] w (BPost w (timB a e)) := by
  by_cases h2 : n < 2
  · have H : Hid (timB a e = false) := HH (by have := hn.out; simp only [timB]; rw [decide_eq_false (by omega)]; rfl)
    clear hx hy
    go_enter Tryz.func33, Tryz.ntmps33
    go_wp2
    go_ret
    exact ⟨by rw [H.out]; rfl, one_box _ _⟩
  by_cases hnm : m ≠ n
  · have H : Hid (timB a e = false) := HH (by have := hn.out; have := hm.out; simp only [timB]; rw [decide_eq_false (p := e.length = a.length) (by omega)]; simp)
    have hmn : ((m : Int) != (n : Int)) = true := bne_iff_ne.2 (by omega)
    clear hx hy hnm
    go_enter Tryz.func33, Tryz.ntmps33
    go_wp2
    go_ret
    exact ⟨by rw [H.out]; rfl, one_box _ _⟩
  have hnm : m = n := Classical.not_not.1 hnm
  subst hnm
  have HX := HH hx
  have HY := HH hy
  clear hx hy
  obtain ⟨x0, hx0⟩ := at_in a hn (show 0 < m by omega)
  obtain ⟨y0, hy0⟩ := at_in e hm (show 0 < m by omega)
  obtain ⟨x1, hx1⟩ := at_in a hn (show m - 1 < m by omega)
  obtain ⟨y1, hy1⟩ := at_in e hm (show m - 1 < m by omega)
  obtain ⟨ad, rfl, hS, h0, hj⟩ := rd_at 1 (fun _ => rfl) (by omega) HX.out hx0
  obtain ⟨bd, rfl, hT, g0, gj⟩ := rd_at 1 (fun _ => rfl) (by omega) HY.out hy0
  have E1 : Hid (∀ w', Below w.heap.size w w' → Calls Tryz.prog 34 #[.slice (some ad) m c] w' (fun e w'' => e = .returned (.int .i64 x1) ∧ w' = w'')) := HH (fun w' hb => end_any w' _ m c a x1 hn hN hx1 ((HX.out.below hb).more fun b h => Nat.lt_of_lt_of_le h hb.size))
  have E2 : Hid (∀ w', Below w.heap.size w w' → Calls Tryz.prog 34 #[.slice (some bd) m d] w' (fun e w'' => e = .returned (.int .i64 y1) ∧ w' = w'')) := HH (fun w' hb => end_any w' _ m d e y1 hm hM hy1 ((HY.out.below hb).more fun b h => Nat.lt_of_lt_of_le h hb.size))
  rw [Nat.zero_mul] at h0 g0
  have a0 : w.cell? ad = some (.int .i64 x0) := h0
  have b0 : w.cell? bd = some (.int .i64 y0) := g0
  have p0 : (0 : Int) < (m : Int) := by omega
  have hlen : Hid (e.length = a.length ∧ 2 ≤ a.length) := HH (by have := hn.out; have := hm.out; omega)
  have v0 : a[0]?.getD 0 = x0 := by rw [hx0]; rfl
  have v1 : e[0]?.getD 0 = y0 := by rw [hy0]; rfl
  have v2 : a[a.length - 1]?.getD 0 = x1 := by rw [← hn.out, hx1]; rfl
  have v3 : e[a.length - 1]?.getD 0 = y1 := by rw [← hn.out, hy1]; rfl
  have VV : Hid (timB a e = (decide (x0 = y0) && (decide (x1 = y1) && riseB (riseZ (a.zip e))))) := HH (by unfold timB; rw [v0, v1, v2, v3, decide_eq_true hlen.out.1, decide_eq_true hlen.out.2]; rfl)
  clear h0 g0 hj gj hx0 hy0 hx1 hy1 v0 v1 v2 v3
  by_cases hxy : x0 ≠ y0
  · have hne : (x0 != y0) = true := bne_iff_ne.2 hxy
    have H : Hid (timB a e = false) := HH (by rw [VV.out, decide_eq_false hxy]; rfl)
    clear hxy
    go_enter Tryz.func33, Tryz.ntmps33
    go_wp2
    go_quiet (fail)
    go_wp2
    go_ret
    exact ⟨by rw [H.out]; rfl, below_drewN (one_box _ _) _⟩
  have hxy : x0 = y0 := Classical.not_not.1 hxy
  subst hxy
  by_cases hxy : x1 ≠ y1
  · have hne : (x1 != y1) = true := bne_iff_ne.2 hxy
    have H : Hid (timB a e = false) := HH (by rw [VV.out, decide_eq_false hxy]; simp)
    clear hxy
    go_enter Tryz.func33, Tryz.ntmps33
    go_wp2
    go_quiet (first | (go_at_call 34; (with_reducible exact quiet_eq (E1.out _ (below_drewN (one_box _ _) _)))) | (go_at_call 34; (with_reducible exact quiet_eq (E2.out _ (below_drewN (one_box _ _) _)))))
    go_wp2
    go_ret
    exact ⟨by rw [H.out]; rfl, below_drewN (one_box _ _) _⟩
  have hxy : x1 = y1 := Classical.not_not.1 hxy
  subst hxy
  have VV : Hid (timB a e = riseB (riseZ (a.zip e))) := HH (by rw [VV.out]; simp)
  go_enter Tryz.func33, Tryz.ntmps33
  go_wp2
  go_quiet (first | (go_at_call 34; (with_reducible exact quiet_eq (E1.out _ (below_drewN (one_box _ _) _)))) | (go_at_call 34; (with_reducible exact quiet_eq (E2.out _ (below_drewN (one_box _ _) _)))))
  go_wp2
  go_loopw [3, 40] (fun v vi wr => ∃ (k : Nat) (h : Int), v = .int .i64 h ∧ vi = .int .i64 k ∧ k ≤ m ∧ Hid (((a.zip e).take k).foldl rsF (some (-1)) = some h) ∧ Hid (Below w.heap.size w wr) ∧ Hid (Blk wr w.heap.size 24 [.int .i64 tr, .int .i64 no, .slice (some ad) m c, .slice (some bd) m d])) (fun _ vi _ => m - (intOf vi).toNat)
  case atStart => exact ⟨0, -1, rfl, rfl, by omega, HH rfl, HH (below_drewN (one_box _ _) _), HH (Blk.new w _ _)⟩
  case round =>
    obtain ⟨k, h, rfl, rfl, hk, HF, HB, HK⟩ := hrel
    have k2 : wr.cell? ⟨w.heap.size, 2, none⟩ = some (.slice (some ad) m c) := HK.out.cell 2
    have k3 : wr.cell? ⟨w.heap.size, 3, none⟩ = some (.slice (some bd) m d) := HK.out.cell 3
    by_cases hlt : k < m
    · obtain ⟨x, hx⟩ := at_in a hn hlt
      obtain ⟨y, hy⟩ := at_in e hm hlt
      have HZ := HH (zp_at hx hy)
      obtain ⟨ad', e1, hS', h0, hj⟩ := rd_at 1 (fun _ => rfl) (by omega) (HX.out.below HB.out) hx
      obtain ⟨bd', e2, hT', g0, gj⟩ := rd_at 1 (fun _ => rfl) (by omega) (HY.out.below HB.out) hy
      obtain rfl := Option.some.inj e1
      obtain rfl := Option.some.inj e2
      rw [Nat.mul_one] at h0 g0
      have c0 : wr.cell? (ad.add k) = some (.int .i64 x) := h0
      have d0 : wr.cell? (bd.add k) = some (.int .i64 y) := g0
      have hi : (k : Int) < (m : Int) := by omega
      clear h0 g0 hj gj hx hy e1 e2
      by_cases hb1 : x ≤ h
      · have H : Hid (timB a e = false) := HH (by rw [VV.out, rise_bad HZ.out HF.out (.inl hb1)]; rfl)
        go_wp2
        go_ret
        exact ⟨by rw [H.out]; rfl, HB.out⟩
      by_cases hb2 : y < x
      · have H : Hid (timB a e = false) := HH (by rw [VV.out, rise_bad HZ.out HF.out (.inr hb2)]; rfl)
        go_wp2
        go_ret
        exact ⟨by rw [H.out]; rfl, HB.out⟩
      have HN := HH (rise_step HZ.out HF.out hb1 hb2)
      go_wp2
      go_roundw
      case rel => exact ⟨k + 1, y, rfl, by go_num, by omega, HN, HB, HK⟩
      case measure => simp [intOf]; omega
    · have HN : Hid (timB a e = decide (h ≤ 1099511627776)) := HH (by
        have hf := HF.out
        rw [List.take_of_length_le (by have := hn.out; have := hm.out; simp; omega)] at hf
        rw [VV.out]; unfold riseZ; rw [hf]; rfl)
      by_cases hb : h ≤ 1099511627776
      · have H : Hid (timB a e = true) := HH (by rw [HN.out, decide_eq_true hb])
        go_wp2
        go_ret
        exact ⟨by rw [H.out]; rfl, HB.out⟩
      · have H : Hid (timB a e = false) := HH (by rw [HN.out, decide_eq_false hb])
        go_wp2
        go_ret
        exact ⟨by rw [H.out]; rfl, HB.out⟩
/-! ### what is made later in place -/
def mvT (k m : Nat) (b : Int) (l : List Int) : List Int := l.mapIdx fun i x => if k ≤ i ∧ i < k + m then x + b else x
theorem mvT_len (k m : Nat) (b : Int) (l : List Int) : (mvT k m b l).length = l.length := by simp [mvT]
theorem mvT_at (k m : Nat) (b : Int) (l : List Int) (i : Nat) : (mvT k m b l)[i]? = (l[i]?).map (fun x => if k ≤ i ∧ i < k + m then x + b else x) := by simp [mvT]
theorem mvT_zero (k : Nat) (b : Int) (l : List Int) : mvT k 0 b l = l := by
  apply List.ext_getElem?; intro i; rw [mvT_at]
  cases l[i]? with
  | none => rfl
  | some x => simp; omega
theorem mvT_set {k m : Nat} {b x : Int} {l : List Int} (hx : l[k + m]? = some x) : (mvT k m b l).set (k + m) (x + b) = mvT k (m + 1) b l := by
  apply List.ext_getElem?; intro i
  rw [List.getElem?_set, mvT_at, mvT_len]
  by_cases h : k + m = i
  · subst h
    have := (List.getElem?_eq_some_iff.1 hx).1
    rw [if_pos rfl, if_pos this, mvT_at, hx]
    simp
  · rw [if_neg h, mvT_at]
    cases l[i]? with
    | none => rfl
    | some y =>
      simp only [Option.map_some, Option.some.injEq]
      by_cases h1 : k ≤ i ∧ i < k + m
      · rw [if_pos h1, if_pos (by omega)]
      · rw [if_neg h1, if_neg (by omega)]
theorem cs_int (l : List Int) : cs intC l = l.map i64 := by
  induction l with
  | nil => rfl
  | cons a l ih => rw [cs_cons, ih]; rfl
theorem ints_set (l : List Int) (rest : List Value) (i : Nat) (x : Int) (hi : i < l.length) : (cs intC l ++ rest).set i (.int .i64 x) = cs intC (l.set i x) ++ rest := by
  rw [cs_int, cs_int, List.set_append_left _ _ (by simpa using hi), List.map_set]
theorem ints_at (l : List Int) (rest : List Value) (i : Nat) (x : Int) (hi : l[i]? = some x) : (cs intC l ++ rest)[i]? = some (.int .i64 x) := by
  have := (List.getElem?_eq_some_iff.1 hi).1
  rw [cs_int, List.getElem?_append_left (by simpa using this), List.getElem?_map, hi]; rfl
theorem add_none (G k j : Nat) : (⟨G, k, none⟩ : Addr).add j = ⟨G, k + j, none⟩ := by
  unfold Addr.add; split
  · next h => subst h; rfl
  · rfl
theorem move_any (w : World) (G k m c : Nat) (t : TypeId) (l : List Int) (rest : List Value) (b : Int) (hk : Hid (k + m = l.length)) (hN : m ≤ 1000000) (hB : Blk w G t (cs intC l ++ rest)) (hb0 : 0 ≤ b) (hb1 : b ≤ 1099511627776) (hl : Hid (∀ x ∈ l, 0 ≤ x ∧ x ≤ 1099511627776)) :
    Calls Tryz.prog 36 #[.slice (some ⟨G, k, none⟩) m c, .int .i64 b] w (fun e w' => e = .returned (.tuple #[]) ∧ Blk w' G t (cs intC (mvT k m b l) ++ rest) ∧ Ch (fun i => i = G) w w') := by
  have HB := HH hB
  clear hB
  go_enter Tryz.func36, Tryz.ntmps36
  go_wp2
  go_loopw [7] (fun v wr => ∃ j : Nat, v = .int .i64 j ∧ j ≤ m ∧ Hid (Blk wr G t (cs intC (mvT k j b l) ++ rest)) ∧ Hid (Ch (fun i => i = G) w wr)) (fun v _ => m - (intOf v).toNat)
  case atStart => exact ⟨0, rfl, by omega, HH (by rw [mvT_zero]; exact HB.out), HH (Ch.refl _ _)⟩
  case round =>
    obtain ⟨j, rfl, hj, HJ, HC⟩ := hrel
    by_cases hlt : j < m
    · obtain ⟨x, hx⟩ := at_in l (n := l.length) (HH rfl) (show k + j < l.length by have := hk.out; omega)
      have HX := HH hx
      have hx' : (mvT k j b l)[k + j]? = some x := by rw [mvT_at, hx]; simp
      have c0 : wr.cell? ⟨G, k + j, none⟩ = some (.int .i64 x) := (HJ.out.cell (k + j)).trans (ints_at _ rest _ _ hx')
      have ea : (⟨G, k, none⟩ : Addr).add j = ⟨G, k + j, none⟩ := add_none G k j
      have fz : wr.frozen? ⟨G, k + j, none⟩ = false := HJ.out.frozen _
      obtain ⟨hx0, hx1⟩ := hl.out x (List.mem_of_getElem? hx)
      have hi : (j : Int) < (m : Int) := by omega
      clear hx hx'
      go_wp2
      go_roundw
      case rel => exact ⟨j + 1, by go_num, by omega, HH (by rw [← mvT_set HX.out, ← ints_set _ _ _ _ (by rw [mvT_len]; exact (List.getElem?_eq_some_iff.1 HX.out).1)]; exact HJ.out.set_ _ _), HH (HC.out.setCell (p := ⟨G, k + j, none⟩) (.inl rfl) _)⟩
      case measure => simp [intOf]; omega
    · obtain rfl : j = m := by omega
      go_wp2
      go_end0
      exact ⟨rfl, HJ.out, HC.out⟩
theorem blk_dr' {w : World} {n : Nat} {t : TypeId} {l : List Value} (h : Blk w n t l) : Blk w.drew n t l := h
theorem own_blk {w : World} {base e n c : Nat} {A : Option Addr} {xs : List Value} (h : w.ownsRow base e 1 (.slice A n c) n xs) (hn : 0 < n) : ∃ g rest, A = some ⟨g, 0, none⟩ ∧ base ≤ g ∧ Blk w g e (xs ++ rest) := by
  obtain ⟨-, h | ⟨g, cap, cur, hv, hg, hh, -, -, -, ht⟩⟩ := h
  · omega
  · injection hv with h1 h2 h3
    subst h1
    refine ⟨g, cur.toList.drop n, rfl, hg, ?_⟩
    rw [← ht, Nat.mul_one, List.take_append_drop]
    exact hh
theorem rise_all : ∀ (z : List (Int × Int)) (h h' : Int), z.foldl rsF (some h) = some h' → h ≤ h' ∧ ∀ p ∈ z, h < p.1 ∧ p.1 ≤ p.2 ∧ p.2 ≤ h'
  | [], h, h', e => by simp at e; subst e; exact ⟨Int.le_refl _, fun p hp => by cases hp⟩
  | p :: z, h, h', e => by
    rw [List.foldl_cons] at e
    by_cases hb : p.1 ≤ h ∨ p.2 < p.1
    · rw [show rsF (some h) p = none by simp [rsF, hb], rsF_none] at e; cases e
    · rw [show rsF (some h) p = some p.2 by simp only [rsF, Option.bind_some, if_neg hb]] at e
      obtain ⟨h1, h2⟩ := rise_all z p.2 h' e
      refine ⟨by omega, fun q hq => ?_⟩
      rcases List.mem_cons.1 hq with rfl | hq
      · omega
      · have := h2 q hq; omega
theorem zip_left {a d : List Int} (hl : d.length = a.length) {x : Int} (hx : x ∈ a) : ∃ y, (x, y) ∈ a.zip d := by
  obtain ⟨i, hi⟩ := List.getElem?_of_mem hx
  have hlt := (List.getElem?_eq_some_iff.1 hi).1
  exact ⟨d[i]'(by omega), List.mem_of_getElem? (zp_at hi (List.getElem?_eq_getElem (by omega)))⟩
theorem zip_right {a d : List Int} (hl : d.length = a.length) {y : Int} (hy : y ∈ d) : ∃ x, (x, y) ∈ a.zip d := by
  obtain ⟨i, hi⟩ := List.getElem?_of_mem hy
  have hlt := (List.getElem?_eq_some_iff.1 hi).1
  exact ⟨a[i]'(by omega), List.mem_of_getElem? (zp_at (List.getElem?_eq_getElem (by omega)) hi)⟩
/-- what times are that may be -/
theorem tim_facts {a d : List Int} (h : timB a d = true) : 2 ≤ a.length ∧ d.length = a.length ∧ a[0]? = d[0]? ∧ a[a.length - 1]? = d[a.length - 1]? ∧ (∀ x ∈ a, 0 ≤ x ∧ x ≤ 1099511627776) ∧ ∀ x ∈ d, 0 ≤ x ∧ x ≤ 1099511627776 := by
  simp only [timB, Bool.and_eq_true, decide_eq_true_eq] at h
  obtain ⟨h1, h2, h3, h4, h5⟩ := h
  cases hz : riseZ (a.zip d) with
  | none => rw [hz] at h5; cases h5
  | some t =>
    rw [hz] at h5
    have ht : t ≤ 1099511627776 := of_decide_eq_true h5
    obtain ⟨-, hall⟩ := rise_all _ _ _ hz
    refine ⟨h1, h2, ?_, ?_, fun x hx => ?_, fun y hy => ?_⟩
    · rw [List.getElem?_eq_getElem (by omega), List.getElem?_eq_getElem (by omega)] at h3 ⊢
      exact congrArg some h3
    · rw [List.getElem?_eq_getElem (by omega), List.getElem?_eq_getElem (by omega)] at h4 ⊢
      exact congrArg some h4
    · obtain ⟨y, hy⟩ := zip_left h2 hx
      have := hall _ hy; simp only at this; omega
    · obtain ⟨x, hx⟩ := zip_right h2 hy
      have := hall _ hx; simp only at this; omega
theorem la_read {W : World} {n0 : Nat} {b0 b1 b2 b3 z : Value} {tmps : Array Value} (h2 : tmps[6]? = some (.pointer (some ⟨n0, 0, none⟩))) (h3 : tmps[7]? = some z) (k1 : Blk W n0 24 [b0, b1, b2, b3]) :
    (results Tryz.f12 tmps).run Tryz.prog W = .ok (.tuple #[.agg #[b0, b1, b2, b3], z]) W := by
  have x0 : W.cell? ⟨n0, 0, none⟩ = some b0 := k1.cell 0
  have x1 : W.cell? ⟨n0, 1, none⟩ = some b1 := k1.cell 1
  have x2 : W.cell? ⟨n0, 2, none⟩ = some b2 := k1.cell 2
  have x3 : W.cell? ⟨n0, 3, none⟩ = some b3 := k1.cell 3
  simp [results, Tryz.results12, go_sem, h2, h3, x0, x1, x2, x3]
def laA (k : Nat) (b : Int) (a : List Int) : List Int := if k = 0 then mvT 0 a.length b a else mvT (k + 1) (a.length - (k + 1)) b a
/-- a run that is told, in rows of its own -/
def LaPost (w : World) (tr no : Int) (a e : List Int) (r : Ending) (w' : World) : Prop := ∃ (A B : Option Addr) (c d : Nat), r = .returned (.tuple #[.agg #[.int .i64 tr, .int .i64 no, .slice A a.length c, .slice B e.length d], .int .i64 0]) ∧ Hid (Fr w' w.heap.size A (cs intC a)) ∧ Hid (Fr w' w.heap.size B (cs intC e)) ∧ Hid (Below w.heap.size w w')
theorem laA_len (k : Nat) (b : Int) (a : List Int) : (laA k b a).length = a.length := by unfold laA; split <;> exact mvT_len ..
theorem laA_set {k n : Nat} {b v x : Int} {a e : List Int} (hn : n = a.length) (hk : k + 1 < n) (ha : a[0]? = some x) (he : e[0]? = some x) (hv : (mvT k (n - k) b e)[0]? = some v) : (mvT (k + 1) (n - (k + 1)) b a).set 0 v = laA k b a := by
  rw [mvT_at, he] at hv
  simp only [Option.map_some, Option.some.injEq] at hv
  apply List.ext_getElem?; intro i
  rw [List.getElem?_set, mvT_at, mvT_len]
  unfold laA
  subst hn
  by_cases h0 : 0 = i
  · subst h0
    rw [if_pos rfl, if_pos (by omega)]
    by_cases hk0 : k = 0
    · subst hk0
      rw [if_pos (by omega)] at hv
      rw [if_pos rfl, mvT_at, ha, Option.map_some, if_pos (by omega), hv]
    · rw [if_neg (by omega)] at hv
      rw [if_neg hk0, mvT_at, ha, Option.map_some, if_neg (by omega), hv]
  · rw [if_neg h0]
    by_cases hk0 : k = 0
    · subst hk0
      rw [if_pos rfl, mvT_at]
      cases hi : a[i]? with
      | none => rfl
      | some y =>
        have := (List.getElem?_eq_some_iff.1 hi).1
        simp only [Option.map_some]
        rw [if_pos (by omega), if_pos (by omega)]
    · rw [if_neg hk0, mvT_at]
theorem blk_fr {w : World} {B g : Nat} {t : TypeId} {l : List Int} {rest : List Value} (h : Blk w g t (cs intC l ++ rest)) (hB : B ≤ g) : Fr w B (some ⟨g, 0, none⟩) (cs intC l) := fun hn => ⟨_, rfl, ⟨hB, h.lt⟩, fun j u hu => by
  rw [add_none, Nat.zero_add]
  refine (h.cell j).trans ?_
  rw [List.getElem?_append_left (List.getElem?_eq_some_iff.1 hu).1]; exact hu⟩
theorem later_ok (w : World) (tr no : Int) (A B : Option Addr) (n c d : Nat) (a e : List Int) (k : Nat) (b z : Int) (hn : Hid (n = a.length)) (hm : Hid (n = e.length)) (hN : n ≤ 1000000) (hx : Rd w (· < w.heap.size) A (cs intC a)) (hy : Rd w (· < w.heap.size) B (cs intC e)) (ht : Hid (timB a e = true)) (hk : k + 1 < n) (hb0 : 0 ≤ b) (hz : a[n - 1]? = some z) (hbz : b ≤ 1099511627776 - z) (hz0 : 0 ≤ z) :
    Calls Tryz.prog 12 #[.agg #[.int .i64 tr, .int .i64 no, .slice A n c, .slice B n d], .int .i64 k, .int .i64 b] w (LaPost w tr no (laA k b a) (mvT k (n - k) b e)) := by
  have HX := HH hx
  have HY := HH hy
  have E1 : Hid (∀ w', Below w.heap.size w w' → Calls Tryz.prog 34 #[.slice A n c] w' (fun e w'' => e = .returned (.int .i64 z) ∧ w' = w'')) := HH (fun w' hb => end_any w' _ n c a z hn hN hz ((HX.out.below hb).more fun b h => Nat.lt_of_lt_of_le h hb.size))
  have T1 : Hid (∀ w', Below w.heap.size w w' → Calls Tryz.prog 33 #[.agg #[.int .i64 tr, .int .i64 no, .slice A n c, .slice B n d]] w' (BPost w' true)) := HH (fun w' hb => by have := timed_any w' tr no A B n c n d a e hn hm hN hN ((HX.out.below hb).more fun b h => Nat.lt_of_lt_of_le h hb.size) ((HY.out.below hb).more fun b h => Nat.lt_of_lt_of_le h hb.size); rw [ht.out] at this; exact this)
  have C1 : Hid (∀ w', Below w.heap.size w w' → Calls Tryz.prog 35 #[.slice A n c] w' (NewRow w' 2 1 (cs intC a) n)) := HH (fun w' hb => clone_rint w' A n c a hn hN ((HX.out.below hb).more fun b h => Nat.lt_of_lt_of_le h hb.size))
  have C2 : Hid (∀ w', Below w.heap.size w w' → Calls Tryz.prog 35 #[.slice B n d] w' (NewRow w' 2 1 (cs intC e) n)) := HH (fun w' hb => clone_rint w' B n d e hm hN ((HY.out.below hb).more fun b h => Nat.lt_of_lt_of_le h hb.size))
  have hk1 : (k : Int) < (n : Int) - 1 := by omega
  have hTF := HH (tim_facts ht.out)
  have HAB : Hid (∀ x ∈ a, 0 ≤ x ∧ x ≤ 1099511627776) := HH hTF.out.2.2.2.2.1
  have HEB : Hid (∀ x ∈ e, 0 ≤ x ∧ x ≤ 1099511627776) := HH hTF.out.2.2.2.2.2
  have hb1 : b ≤ 1099511627776 := by omega
  clear hx hy hz
  go_enter Tryz.func12, Tryz.ntmps12
  go_upto_region 5 with (first
    | (go_at_call 33; (with_reducible refine (T1.out _ ?q).mono ?_); (case q => exact two_box _ _ _); rintro e w1 ⟨rfl, hb⟩; have HB1 : Hid (Below w.heap.size w w1) := HH (keep_trans (two_box _ _ _) hb); have K0 : Hid (Blk w1 w.heap.size 24 [.int .i64 tr, .int .i64 no, .slice A n c, .slice B n d]) := HH (((Blk.new w 24 [.int .i64 tr, .int .i64 no, .slice A n c, .slice B n d]).alloc (.cells #[.int .i64 0, .int .i64 0, .slice none 0 0, .slice none 0 0] 24)).after hb); have K1 : Hid (Blk w1 (w.heap.size + 1) 24 [.int .i64 0, .int .i64 0, .slice none 0 0, .slice none 0 0]) := HH ((Blk.new2 w (.cells #[.int .i64 tr, .int .i64 no, .slice A n c, .slice B n d] 24) 24 [.int .i64 0, .int .i64 0, .slice none 0 0, .slice none 0 0]).after hb); have k2 : w1.cell? ⟨w.heap.size, 2, none⟩ = some (.slice A n c) := K0.out.cell 2; have k3 : w1.cell? ⟨w.heap.size, 3, none⟩ = some (.slice B n d) := K0.out.cell 3; clear hb)
    | (go_at_call 34; (with_reducible refine (E1.out _ HB1.out).mono ?_); rintro e w2 ⟨rfl, rfl⟩))
  have hS0 : ∀ l, Pend [(7, ⟨w.heap.size, 2, none⟩, .slice A n c), (9, ⟨w.heap.size, 3, none⟩, .slice B n d)] l w1.drew := fun l q hq hl => by
    simp only [List.mem_cons, List.not_mem_nil, or_false] at hq
    rcases hq with rfl | rfl
    · exact k2
    · exact k3
  clear k2 k3
  refine wp_region_T [(7, ⟨w.heap.size, 2, none⟩, .slice A n c), (9, ⟨w.heap.size, 3, none⟩, .slice B n d)] (by kernel_rfl) ?_
  refine tap 0 ?v0 rfl (hS0 _) ?h0 ?r0
  case h0 => (intro w' hSw; clear hSw; go_simp; try with_reducible rfl)
  simp only [ptk]
  refine tal 1 7 ⟨w.heap.size, 2, none⟩ (.slice A n c) ?v1 rfl rfl (hS0 _) ?h1 ?r1
  case h1 => (intro w' hSw; go_simp; try with_reducible rfl)
  simp only [ptk]
  refine tap 3 ?v3 rfl (hS0 _) ?h3 ?r3
  case h3 => (intro w' hSw; clear hSw; go_simp; try with_reducible rfl)
  simp only [ptk]
  refine tal 4 9 ⟨w.heap.size, 3, none⟩ (.slice B n d) ?v4 rfl rfl (hS0 _) ?h4 ?r4
  case h4 => (intro w' hSw; go_simp; try with_reducible rfl)
  simp only [ptk]
  refine tan 2 rfl fun K hK => ?_
  go_simp
  go_at_call 35
  refine (C1.out _ (below_drew HB1.out)).mono ?_
  rintro e' w3 ⟨A3, c3, rfl, hc3, ho3, hb3⟩
  have K03 := HH (Blk.after (blk_dr' K0.out) hb3)
  have K13 := HH (Blk.after (blk_dr' K1.out) hb3)
  have HB3 : Hid (Below w.heap.size w w3) := HH (keep_trans (below_drew HB1.out) hb3)
  obtain ⟨g3, rest3, e3, hg3, G3⟩ := own_blk ho3.out (show 0 < n by omega)
  subst e3
  have G3 := HH G3
  have L3 : g3 < w3.heap.size := G3.out.lt
  have L1 : w.heap.size + 1 < w1.heap.size := K1.out.lt
  have hg3 : w1.heap.size ≤ g3 := hg3
  have hS1 : ∀ l, Pend [(7, ⟨w.heap.size, 2, none⟩, .slice A n c), (9, ⟨w.heap.size, 3, none⟩, .slice B n d)] l w3 := fun l q hq hl => by
    simp only [List.mem_cons, List.not_mem_nil, or_false] at hq
    rcases hq with rfl | rfl
    · exact K03.out.cell 2
    · exact K03.out.cell 3
  refine hK.out _ _ (hS1 _) ?_
  clear hK K hS0 hb3 ho3
  refine tap 6 ?v6 rfl (hS1 _) ?h6 ?r6
  case h6 => (intro w' hSw; clear hSw; go_simp; try with_reducible rfl)
  simp only [ptk]
  refine tan 5 rfl fun K hK => ?_
  go_simp
  go_at_call 35
  refine (C2.out _ HB3.out).mono ?_
  rintro e' w4 ⟨A4, c4, rfl, hc4, ho4, hb4⟩
  have K04 := HH (K03.out.after hb4)
  have K14 := HH (K13.out.after hb4)
  have HB4 : Hid (Below w.heap.size w w4) := HH (keep_trans HB3.out hb4)
  have G34 := HH (G3.out.after hb4)
  obtain ⟨g4, rest4, e4, hg4, G4⟩ := own_blk ho4.out (show 0 < n by omega)
  subst e4
  have G4 := HH G4
  have hS2 : ∀ l, Pend [(7, ⟨w.heap.size, 2, none⟩, .slice A n c), (9, ⟨w.heap.size, 3, none⟩, .slice B n d)] l w4 := fun l q hq hl => by
    simp only [List.mem_cons, List.not_mem_nil, or_false] at hq
    rcases hq with rfl | rfl
    · exact K04.out.cell 2
    · exact K04.out.cell 3
  refine hK.out _ _ (hS2 _) ?_
  clear hK K hS1 hb4 ho4 K03 K13 HB3 G3
  refine tan 7 rfl fun K hK => ?_
  have f2 : w4.frozen? ⟨w.heap.size, 2, none⟩ = false := K04.out.frozen 2
  have q2 : w4.cell? ⟨w.heap.size, 2, none⟩ = some (.slice A n c) := K04.out.cell 2
  go_simp
  have K05 := HH (K04.out.set_ 2 (.slice (some ⟨g3, 0, none⟩) n c3))
  have hS3 : ∀ l : Array Bool, l.getD 7 true = true → Pend [(7, ⟨w.heap.size, 2, none⟩, .slice A n c), (9, ⟨w.heap.size, 3, none⟩, .slice B n d)] l (w4.setCell ⟨w.heap.size, 2, none⟩ (.slice (some ⟨g3, 0, none⟩) n c3)) := fun l h7 q hq hl => by
    simp only [List.mem_cons, List.not_mem_nil, or_false] at hq
    rcases hq with rfl | rfl
    · rw [h7] at hl; cases hl
    · exact K05.out.cell 3
  refine hK.out _ _ (hS3 _ (by kernel_rfl)) ?_
  clear hK K hS2 f2 q2
  refine tap 8 ?v8 rfl (hS3 _ (by kernel_rfl)) ?h8 ?r8
  case h8 => (intro w' hSw; clear hSw; go_simp; try with_reducible rfl)
  simp only [ptk]
  refine tan 9 rfl fun K hK => ?_
  have f3 : (w4.setCell ⟨w.heap.size, 2, none⟩ (.slice (some ⟨g3, 0, none⟩) n c3)).frozen? ⟨w.heap.size, 3, none⟩ = false := K05.out.frozen 3
  have q3 : (w4.setCell ⟨w.heap.size, 2, none⟩ (.slice (some ⟨g3, 0, none⟩) n c3)).cell? ⟨w.heap.size, 3, none⟩ = some (.slice B n d) := K05.out.cell 3
  have h5 : Hid (w4.setCell ⟨w.heap.size, 2, none⟩ (.slice (some ⟨g3, 0, none⟩) n c3) = w4.setCell ⟨w.heap.size, 2, none⟩ (.slice (some ⟨g3, 0, none⟩) n c3)) := HH rfl
  have C5 : Hid (Ch (fun i => i = w.heap.size) w4 (w4.setCell ⟨w.heap.size, 2, none⟩ (.slice (some ⟨g3, 0, none⟩) n c3))) := HH ((Ch.refl (fun i => i = w.heap.size) w4).setCell (p := ⟨w.heap.size, 2, none⟩) (.inl rfl) _)
  clear h5
  generalize w4.setCell ⟨w.heap.size, 2, none⟩ (.slice (some ⟨g3, 0, none⟩) n c3) = w5 at *
  go_simp
  have K06 := HH (K05.out.set_ 3 (.slice (some ⟨g4, 0, none⟩) n c4))
  have hS4 : ∀ l : Array Bool, l.getD 7 true = true → l.getD 9 true = true → Pend [(7, ⟨w.heap.size, 2, none⟩, .slice A n c), (9, ⟨w.heap.size, 3, none⟩, .slice B n d)] l (w5.setCell ⟨w.heap.size, 3, none⟩ (.slice (some ⟨g4, 0, none⟩) n c4)) := fun l h7 h9 q hq hl => by
    simp only [List.mem_cons, List.not_mem_nil, or_false] at hq
    rcases hq with rfl | rfl
    · rw [h7] at hl; cases hl
    · rw [h9] at hl; cases hl
  refine hK.out _ _ (hS4 _ (by kernel_rfl) (by kernel_rfl)) ?_
  clear hK K hS3 hS4 f3 q3
  have C6 : Hid (Ch (fun i => i = w.heap.size) w4 (w5.setCell ⟨w.heap.size, 3, none⟩ (.slice (some ⟨g4, 0, none⟩) n c4))) := HH (C5.out.setCell (p := ⟨w.heap.size, 3, none⟩) (.inl rfl) _)
  generalize w5.setCell ⟨w.heap.size, 3, none⟩ (.slice (some ⟨g4, 0, none⟩) n c4) = w6 at *
  refine wpAnyT_done (by kernel_rfl) ?_ _
  have D6 : Hid (Below w.heap.size w w6) := HH (((Ch.of_below (X := fun i => i = w.heap.size) HB4.out).trans' C6.out (fun _ _ h => h)).below (Nat.le_refl _) (fun k e => by omega))
  have K16 := HH (C6.out.blk K14.out (by simp))
  have G36 := HH (C6.out.blk G34.out (by omega))
  have G46 := HH (C6.out.blk G4.out (by omega))
  clear C5 C6 K14 G34 G4 K05 HB4
  have z3 : w6.cell? ⟨w.heap.size, 3, none⟩ = some (.slice (some ⟨g4, 0, none⟩) n c4) := K06.out.cell 3
  go_upto_region 7 with (go_at_call 36; (with_reducible refine (move_any w6 g4 k (n - k) (c4 - k) 2 e rest4 b (HH ?q1) ?q2 G46.out hb0 hb1 HEB).mono ?_); (case q1 => have := hm.out; omega); (case q2 => omega); rintro e' w7 ⟨rfl, G47, h7⟩; have K07 := HH (h7.blk K06.out (by omega)); have K17 := HH (h7.blk K16.out (by omega)); have G37 := HH (h7.blk G36.out (by omega)); have G47 := HH G47; have D7 := HH (((Ch.of_below (X := fun i => i = g4) D6.out).trans' h7 (fun _ _ h => h)).below (Nat.le_refl _) (fun k e => by omega)); have z2 : w7.cell? ⟨w.heap.size, 2, none⟩ = some (.slice (some ⟨g3, 0, none⟩) n c3) := K07.out.cell 2)
  go_upto_region 8 with (go_at_call 36; (with_reducible refine (move_any w7 g3 (k + 1) (n - (k + 1)) (c3 - (k + 1)) 2 a rest3 b (HH ?q1) ?q2 G37.out hb0 hb1 HAB).mono ?_); (case q1 => have := hn.out; omega); (case q2 => omega); rintro e' w8 ⟨rfl, G38, h8⟩; have K08 := HH (h8.blk K07.out (by omega)); have K18 := HH (h8.blk K17.out (by omega)); have G48 := HH (h8.blk G47.out (by omega)); have G38 := HH G38; have D8 := HH (((Ch.of_below (X := fun i => i = g3) D7.out).trans' h8 (fun _ _ h => h)).below (Nat.le_refl _) (fun k e => by omega)))
  obtain ⟨x0, hx0⟩ := at_in a hn (show 0 < n by omega)
  have hy0 : e[0]? = some x0 := hTF.out.2.2.1 ▸ hx0
  obtain ⟨v, hv⟩ : ∃ v, (mvT k (n - k) b e)[0]? = some v := by rw [mvT_at, hy0]; exact ⟨_, rfl⟩
  have HV := HH hv
  have HSET := HH (laA_set hn.out hk hx0 hy0 hv)
  obtain ⟨u, hu⟩ : ∃ u, (mvT (k + 1) (n - (k + 1)) b a)[0]? = some u := by rw [mvT_at, hx0]; exact ⟨_, rfl⟩
  have c4R : Hid (∀ w', Blk w' g4 2 (cs intC (mvT k (n - k) b e) ++ rest4) → w'.cell? ⟨g4, 0, none⟩ = some (.int .i64 v)) := HH (fun w' h => (h.cell 0).trans (ints_at _ rest4 _ _ HV.out))
  have c3' : w8.cell? ⟨g3, 0, none⟩ = some (.int .i64 u) := (G38.out.cell 0).trans (ints_at _ rest3 _ _ hu)
  have f3 : w8.frozen? ⟨g3, 0, none⟩ = false := G38.out.frozen 0
  have pn : 0 < n := by omega
  clear hx0 hy0 hv hu
  refine wp_region_held_drew (S := fun w' => Hid (Blk w' w.heap.size 24 [.int .i64 tr, .int .i64 no, .slice (some ⟨g3, 0, none⟩) n c3, .slice (some ⟨g4, 0, none⟩) n c4] ∧ Blk w' g4 2 (cs intC (mvT k (n - k) b e) ++ rest4))) (by kernel_rfl) ?_ (fun hHeld => ?_)
  · exact HH ⟨K08.out, G48.out⟩
  refine tak 0 ?vb0 rfl ?hb0 ?rb0
  case hb0 => (intro w' hSw; clear hSw; go_simp; try with_reducible rfl)
  simp only [ptk]
  refine tak 1 ?vb1 rfl ?hb1 ?rb1
  case hb1 => (intro w' hSw; have z2 : w'.cell? ⟨w.heap.size, 2, none⟩ = some (.slice (some ⟨g3, 0, none⟩) n c3) := hSw.out.1.cell 2; clear hSw; go_simp; try with_reducible rfl)
  simp only [ptk]
  refine tak 2 ?vb2 rfl ?hb2 ?rb2
  case hb2 => (intro w' hSw; clear hSw; go_simp; try with_reducible rfl)
  simp only [ptk]
  refine tak 3 ?vb3 rfl ?hb3 ?rb3
  case hb3 => (intro w' hSw; have z3 : w'.cell? ⟨w.heap.size, 3, none⟩ = some (.slice (some ⟨g4, 0, none⟩) n c4) := hSw.out.1.cell 3; clear hSw; go_simp; try with_reducible rfl)
  simp only [ptk]
  refine tak 4 ?vb4 rfl ?hb4 ?rb4
  case hb4 => (intro w' hSw; clear hSw; go_simp; try with_reducible rfl)
  simp only [ptk]
  refine tak 5 ?vb5 rfl ?hb5 ?rb5
  case hb5 => (intro w' hSw; have zc := c4R.out w' hSw.out.2; clear hSw; go_simp; try with_reducible rfl)
  simp only [ptk]
  refine tak 6 ?vb6 rfl ?hb6 ?rb6
  case hb6 => (intro w' hSw; clear hSw; go_simp; try with_reducible rfl)
  simp only [ptk]
  refine rdy [7] ?_
  refine AllReadyH.cons rfl (fun K hK => ?_) AllReadyH.nil
  have c3'' : w8.drew.cell? ⟨g3, 0, none⟩ = some (.int .i64 u) := c3'
  have f3' : w8.drew.frozen? ⟨g3, 0, none⟩ = false := f3
  go_simp
  have G39 : Hid (Blk ((w8.setCell ⟨g3, 0, none⟩ (.int .i64 v)).drew) g3 2 (cs intC (laA k b a) ++ rest3)) := HH (by rw [← HSET.out, ← ints_set _ _ _ _ (by rw [mvT_len]; have := hn.out; omega)]; exact blk_dr' (G38.out.set_ 0 _))
  have C9 : Hid (Ch (fun i => i = g3) w8 ((w8.setCell ⟨g3, 0, none⟩ (.int .i64 v)).drew)) := HH ((Ch.refl (fun i => i = g3) w8).setCell (p := ⟨g3, 0, none⟩) (.inl rfl) _).drew
  have D9 : Hid (Below w.heap.size w ((w8.setCell ⟨g3, 0, none⟩ (.int .i64 v)).drew)) := HH (((Ch.of_below (X := fun i => i = g3) D8.out).trans' C9.out (fun _ _ h => h)).below (Nat.le_refl _) (fun k e => by omega))
  have K09 := HH (C9.out.blk K08.out (by omega))
  have K19 := HH (C9.out.blk K18.out (by omega))
  have G49 := HH (C9.out.blk G48.out (by omega))
  refine hK.out _ _ (HH ⟨K09.out, G49.out⟩) (fun hHeld => ?_)
  clear hK K hHeld C9
  generalize (w8.setCell ⟨g3, 0, none⟩ (.int .i64 v)).drew = w9 at *
  refine wpAnyH_done (by kernel_rfl) ?_ _
  have y0 : w9.cell? ⟨w.heap.size, 0, none⟩ = some (.int .i64 tr) := K09.out.cell 0
  have y1 : w9.cell? ⟨w.heap.size, 1, none⟩ = some (.int .i64 no) := K09.out.cell 1
  have y2 : w9.cell? ⟨w.heap.size, 2, none⟩ = some (.slice (some ⟨g3, 0, none⟩) n c3) := K09.out.cell 2
  have y3 : w9.cell? ⟨w.heap.size, 3, none⟩ = some (.slice (some ⟨g4, 0, none⟩) n c4) := K09.out.cell 3
  have t0 : w9.cell? ⟨w.heap.size + 1, 0, none⟩ = some (.int .i64 0) := K19.out.cell 0
  have t1 : w9.cell? ⟨w.heap.size + 1, 1, none⟩ = some (.int .i64 0) := K19.out.cell 1
  have t2 : w9.cell? ⟨w.heap.size + 1, 2, none⟩ = some (.slice none 0 0) := K19.out.cell 2
  have t3 : w9.cell? ⟨w.heap.size + 1, 3, none⟩ = some (.slice none 0 0) := K19.out.cell 3
  have r0 : w9.frozen? ⟨w.heap.size + 1, 0, none⟩ = false := K19.out.frozen 0
  have r1 : w9.frozen? ⟨w.heap.size + 1, 1, none⟩ = false := K19.out.frozen 1
  have r2 : w9.frozen? ⟨w.heap.size + 1, 2, none⟩ = false := K19.out.frozen 2
  have r3 : w9.frozen? ⟨w.heap.size + 1, 3, none⟩ = false := K19.out.frozen 3
  go_wp2
  have KF := HH ((((K19.out.set_ 0 (.int .i64 tr)).set_ 1 (.int .i64 no)).set_ 2 (.slice (some ⟨g3, 0, none⟩) n c3)).set_ 3 (.slice (some ⟨g4, 0, none⟩) n c4))
  have CF := HH (((((Ch.refl (fun i => i = w.heap.size + 1) w9).setCell (p := ⟨w.heap.size + 1, 0, none⟩) (.inl rfl) (.int .i64 tr)).setCell (p := ⟨w.heap.size + 1, 1, none⟩) (.inl rfl) (.int .i64 no)).setCell (p := ⟨w.heap.size + 1, 2, none⟩) (.inl rfl) (.slice (some ⟨g3, 0, none⟩) n c3)).setCell (p := ⟨w.heap.size + 1, 3, none⟩) (.inl rfl) (.slice (some ⟨g4, 0, none⟩) n c4))
  generalize (((w9.setCell ⟨w.heap.size + 1, 0, none⟩ (.int .i64 tr)).setCell ⟨w.heap.size + 1, 1, none⟩ (.int .i64 no)).setCell ⟨w.heap.size + 1, 2, none⟩ (.slice (some ⟨g3, 0, none⟩) n c3)).setCell ⟨w.heap.size + 1, 3, none⟩ (.slice (some ⟨g4, 0, none⟩) n c4) = wf at *
  refine bodyPost_ret (la_read rfl rfl KF.out) rfl ⟨some ⟨g3, 0, none⟩, some ⟨g4, 0, none⟩, c3, c4, ?_, HH (blk_fr (CF.out.blk G39.out (by omega)) (by omega)), HH (blk_fr (CF.out.blk G49.out (by omega)) (by omega)), HH (((Ch.of_below (X := fun i => i = w.heap.size + 1) D9.out).trans' CF.out (fun _ _ h => h)).below (Nat.le_refl _) (fun k e => by omega))⟩
  rw [laA_len, mvT_len, ← hn.out, ← hm.out]
  rfl
/-- no run, and an error -/
def LaNo (w : World) (x : Int) (r : Ending) (w' : World) : Prop := r = .returned (.tuple #[.agg #[.int .i64 0, .int .i64 0, .slice none 0 0, .slice none 0 0], .int .i64 x]) ∧ Below w.heap.size w w'
theorem la_st {w w1 : World} {a b c d : Value} (h : Below w.heap.size w w1) : Below w.heap.size w ((((w1.setCell ⟨w.heap.size + 1, 0, none⟩ a).setCell ⟨w.heap.size + 1, 1, none⟩ b).setCell ⟨w.heap.size + 1, 2, none⟩ c).setCell ⟨w.heap.size + 1, 3, none⟩ d) := below_set (below_set (below_set (below_set h (by simp) _) (by simp) _) (by simp) _) (by simp) _
theorem later_bad (w : World) (tr no : Int) (A B : Option Addr) (n m c d : Nat) (a e : List Int) (f b : Int) (hn : Hid (n = a.length)) (hm : Hid (m = e.length)) (hN : n ≤ 1000000) (hM : m ≤ 1000000) (hx : Rd w (· < w.heap.size) A (cs intC a)) (hy : Rd w (· < w.heap.size) B (cs intC e)) (hbad : timB a e = false ∨ f < 0 ∨ (n : Int) - 1 ≤ f ∨ b < 0) :
    Calls Tryz.prog 12 #[.agg #[.int .i64 tr, .int .i64 no, .slice A n c, .slice B m d], .int .i64 f, .int .i64 b] w (LaNo w 2) := by
  have T1 : Hid (∀ w', Below w.heap.size w w' → Calls Tryz.prog 33 #[.agg #[.int .i64 tr, .int .i64 no, .slice A n c, .slice B m d]] w' (BPost w' (timB a e))) := HH (fun w' hb => timed_any w' tr no A B n c m d a e hn hm hN hM ((hx.below hb).more fun b h => Nat.lt_of_lt_of_le h hb.size) ((hy.below hb).more fun b h => Nat.lt_of_lt_of_le h hb.size))
  clear hx hy hn hm
  cases ht : timB a e with
  | false =>
    rw [ht] at T1
    clear ht hbad
    go_enter Tryz.func12, Tryz.ntmps12
    go_wp2_with (go_at_call 33; (with_reducible refine (T1.out _ ?q).mono ?_); (case q => exact two_box _ _ _); rintro e' w1 ⟨rfl, hb⟩; have HB1 : Hid (Below w.heap.size w w1) := HH (keep_trans (two_box _ _ _) hb); have K1 : Hid (Blk w1 (w.heap.size + 1) 24 [.int .i64 0, .int .i64 0, .slice none 0 0, .slice none 0 0]) := HH ((Blk.new2 w (.cells #[.int .i64 tr, .int .i64 no, .slice A n c, .slice B m d] 24) 24 [.int .i64 0, .int .i64 0, .slice none 0 0, .slice none 0 0]).after hb); have k2 : w1.cell? ⟨w.heap.size, 2, none⟩ = some (.slice A n c) := (((Blk.new w 24 [.int .i64 tr, .int .i64 no, .slice A n c, .slice B m d]).alloc (.cells #[.int .i64 0, .int .i64 0, .slice none 0 0, .slice none 0 0] 24)).after hb).cell 2; have t0 : w1.cell? ⟨w.heap.size + 1, 0, none⟩ = some (.int .i64 0) := K1.out.cell 0; have t1 : w1.cell? ⟨w.heap.size + 1, 1, none⟩ = some (.int .i64 0) := K1.out.cell 1; have t2 : w1.cell? ⟨w.heap.size + 1, 2, none⟩ = some (.slice none 0 0) := K1.out.cell 2; have t3 : w1.cell? ⟨w.heap.size + 1, 3, none⟩ = some (.slice none 0 0) := K1.out.cell 3; have r0 : w1.frozen? ⟨w.heap.size + 1, 0, none⟩ = false := K1.out.frozen 0; have r1 : w1.frozen? ⟨w.heap.size + 1, 1, none⟩ = false := K1.out.frozen 1; have r2 : w1.frozen? ⟨w.heap.size + 1, 2, none⟩ = false := K1.out.frozen 2; have r3 : w1.frozen? ⟨w.heap.size + 1, 3, none⟩ = false := K1.out.frozen 3; clear hb)
    exact bodyPost_ret (la_read rfl rfl ((((K1.out.set_ 0 (.int .i64 0)).set_ 1 (.int .i64 0)).set_ 2 (.slice none 0 0)).set_ 3 (.slice none 0 0))) rfl ⟨rfl, la_st HB1.out⟩
  | true =>
    rw [ht] at T1 hbad
    clear ht
    by_cases h1 : f < 0
    · clear hbad
      go_enter Tryz.func12, Tryz.ntmps12
      go_wp2_with (go_at_call 33; (with_reducible refine (T1.out _ ?q).mono ?_); (case q => exact two_box _ _ _); rintro e' w1 ⟨rfl, hb⟩; have HB1 : Hid (Below w.heap.size w w1) := HH (keep_trans (two_box _ _ _) hb); have K1 : Hid (Blk w1 (w.heap.size + 1) 24 [.int .i64 0, .int .i64 0, .slice none 0 0, .slice none 0 0]) := HH ((Blk.new2 w (.cells #[.int .i64 tr, .int .i64 no, .slice A n c, .slice B m d] 24) 24 [.int .i64 0, .int .i64 0, .slice none 0 0, .slice none 0 0]).after hb); have k2 : w1.cell? ⟨w.heap.size, 2, none⟩ = some (.slice A n c) := (((Blk.new w 24 [.int .i64 tr, .int .i64 no, .slice A n c, .slice B m d]).alloc (.cells #[.int .i64 0, .int .i64 0, .slice none 0 0, .slice none 0 0] 24)).after hb).cell 2; have t0 : w1.cell? ⟨w.heap.size + 1, 0, none⟩ = some (.int .i64 0) := K1.out.cell 0; have t1 : w1.cell? ⟨w.heap.size + 1, 1, none⟩ = some (.int .i64 0) := K1.out.cell 1; have t2 : w1.cell? ⟨w.heap.size + 1, 2, none⟩ = some (.slice none 0 0) := K1.out.cell 2; have t3 : w1.cell? ⟨w.heap.size + 1, 3, none⟩ = some (.slice none 0 0) := K1.out.cell 3; have r0 : w1.frozen? ⟨w.heap.size + 1, 0, none⟩ = false := K1.out.frozen 0; have r1 : w1.frozen? ⟨w.heap.size + 1, 1, none⟩ = false := K1.out.frozen 1; have r2 : w1.frozen? ⟨w.heap.size + 1, 2, none⟩ = false := K1.out.frozen 2; have r3 : w1.frozen? ⟨w.heap.size + 1, 3, none⟩ = false := K1.out.frozen 3; clear hb)
      exact bodyPost_ret (la_read rfl rfl ((((K1.out.set_ 0 (.int .i64 0)).set_ 1 (.int .i64 0)).set_ 2 (.slice none 0 0)).set_ 3 (.slice none 0 0))) rfl ⟨rfl, la_st HB1.out⟩
    by_cases h2 : (n : Int) - 1 ≤ f
    · clear hbad
      go_enter Tryz.func12, Tryz.ntmps12
      go_wp2_with (go_at_call 33; (with_reducible refine (T1.out _ ?q).mono ?_); (case q => exact two_box _ _ _); rintro e' w1 ⟨rfl, hb⟩; have HB1 : Hid (Below w.heap.size w w1) := HH (keep_trans (two_box _ _ _) hb); have K1 : Hid (Blk w1 (w.heap.size + 1) 24 [.int .i64 0, .int .i64 0, .slice none 0 0, .slice none 0 0]) := HH ((Blk.new2 w (.cells #[.int .i64 tr, .int .i64 no, .slice A n c, .slice B m d] 24) 24 [.int .i64 0, .int .i64 0, .slice none 0 0, .slice none 0 0]).after hb); have k2 : w1.cell? ⟨w.heap.size, 2, none⟩ = some (.slice A n c) := (((Blk.new w 24 [.int .i64 tr, .int .i64 no, .slice A n c, .slice B m d]).alloc (.cells #[.int .i64 0, .int .i64 0, .slice none 0 0, .slice none 0 0] 24)).after hb).cell 2; have t0 : w1.cell? ⟨w.heap.size + 1, 0, none⟩ = some (.int .i64 0) := K1.out.cell 0; have t1 : w1.cell? ⟨w.heap.size + 1, 1, none⟩ = some (.int .i64 0) := K1.out.cell 1; have t2 : w1.cell? ⟨w.heap.size + 1, 2, none⟩ = some (.slice none 0 0) := K1.out.cell 2; have t3 : w1.cell? ⟨w.heap.size + 1, 3, none⟩ = some (.slice none 0 0) := K1.out.cell 3; have r0 : w1.frozen? ⟨w.heap.size + 1, 0, none⟩ = false := K1.out.frozen 0; have r1 : w1.frozen? ⟨w.heap.size + 1, 1, none⟩ = false := K1.out.frozen 1; have r2 : w1.frozen? ⟨w.heap.size + 1, 2, none⟩ = false := K1.out.frozen 2; have r3 : w1.frozen? ⟨w.heap.size + 1, 3, none⟩ = false := K1.out.frozen 3; clear hb)
      exact bodyPost_ret (la_read rfl rfl ((((K1.out.set_ 0 (.int .i64 0)).set_ 1 (.int .i64 0)).set_ 2 (.slice none 0 0)).set_ 3 (.slice none 0 0))) rfl ⟨rfl, la_st HB1.out⟩
    have h3 : b < 0 := by rcases hbad with h | h | h | h; (cases h); (exact absurd h h1); (exact absurd h h2); exact h
    clear hbad
    go_enter Tryz.func12, Tryz.ntmps12
    go_wp2_with (go_at_call 33; (with_reducible refine (T1.out _ ?q).mono ?_); (case q => exact two_box _ _ _); rintro e' w1 ⟨rfl, hb⟩; have HB1 : Hid (Below w.heap.size w w1) := HH (keep_trans (two_box _ _ _) hb); have K1 : Hid (Blk w1 (w.heap.size + 1) 24 [.int .i64 0, .int .i64 0, .slice none 0 0, .slice none 0 0]) := HH ((Blk.new2 w (.cells #[.int .i64 tr, .int .i64 no, .slice A n c, .slice B m d] 24) 24 [.int .i64 0, .int .i64 0, .slice none 0 0, .slice none 0 0]).after hb); have k2 : w1.cell? ⟨w.heap.size, 2, none⟩ = some (.slice A n c) := (((Blk.new w 24 [.int .i64 tr, .int .i64 no, .slice A n c, .slice B m d]).alloc (.cells #[.int .i64 0, .int .i64 0, .slice none 0 0, .slice none 0 0] 24)).after hb).cell 2; have t0 : w1.cell? ⟨w.heap.size + 1, 0, none⟩ = some (.int .i64 0) := K1.out.cell 0; have t1 : w1.cell? ⟨w.heap.size + 1, 1, none⟩ = some (.int .i64 0) := K1.out.cell 1; have t2 : w1.cell? ⟨w.heap.size + 1, 2, none⟩ = some (.slice none 0 0) := K1.out.cell 2; have t3 : w1.cell? ⟨w.heap.size + 1, 3, none⟩ = some (.slice none 0 0) := K1.out.cell 3; have r0 : w1.frozen? ⟨w.heap.size + 1, 0, none⟩ = false := K1.out.frozen 0; have r1 : w1.frozen? ⟨w.heap.size + 1, 1, none⟩ = false := K1.out.frozen 1; have r2 : w1.frozen? ⟨w.heap.size + 1, 2, none⟩ = false := K1.out.frozen 2; have r3 : w1.frozen? ⟨w.heap.size + 1, 3, none⟩ = false := K1.out.frozen 3; clear hb)
    exact bodyPost_ret (la_read rfl rfl ((((K1.out.set_ 0 (.int .i64 0)).set_ 1 (.int .i64 0)).set_ 2 (.slice none 0 0)).set_ 3 (.slice none 0 0))) rfl ⟨rfl, la_st HB1.out⟩
theorem later_far (w : World) (tr no : Int) (A B : Option Addr) (n c d : Nat) (a e : List Int) (k : Nat) (b z : Int) (hn : Hid (n = a.length)) (hm : Hid (n = e.length)) (hN : n ≤ 1000000) (hx : Rd w (· < w.heap.size) A (cs intC a)) (hy : Rd w (· < w.heap.size) B (cs intC e)) (ht : Hid (timB a e = true)) (hk : k + 1 < n) (hb0 : 0 ≤ b) (hz : a[n - 1]? = some z) (hbz : 1099511627776 - z < b) (hz0 : 0 ≤ z) (hz1 : z ≤ 1099511627776) :
    Calls Tryz.prog 12 #[.agg #[.int .i64 tr, .int .i64 no, .slice A n c, .slice B n d], .int .i64 k, .int .i64 b] w (LaNo w 9) := by
  have E1 : Hid (∀ w', Below w.heap.size w w' → Calls Tryz.prog 34 #[.slice A n c] w' (fun e w'' => e = .returned (.int .i64 z) ∧ w' = w'')) := HH (fun w' hb => end_any w' _ n c a z hn hN hz ((hx.below hb).more fun b h => Nat.lt_of_lt_of_le h hb.size))
  have T1 : Hid (∀ w', Below w.heap.size w w' → Calls Tryz.prog 33 #[.agg #[.int .i64 tr, .int .i64 no, .slice A n c, .slice B n d]] w' (BPost w' true)) := HH (fun w' hb => by have := timed_any w' tr no A B n c n d a e hn hm hN hN ((hx.below hb).more fun b h => Nat.lt_of_lt_of_le h hb.size) ((hy.below hb).more fun b h => Nat.lt_of_lt_of_le h hb.size); rw [ht.out] at this; exact this)
  have hk1 : (k : Int) < (n : Int) - 1 := by omega
  clear hx hy hz
  go_enter Tryz.func12, Tryz.ntmps12
  go_wp2_with (first | (go_at_call 33; (with_reducible refine (T1.out _ ?q).mono ?_); (case q => exact two_box _ _ _); rintro e' w1 ⟨rfl, hb⟩; have HB1 : Hid (Below w.heap.size w w1) := HH (keep_trans (two_box _ _ _) hb); have K1 : Hid (Blk w1 (w.heap.size + 1) 24 [.int .i64 0, .int .i64 0, .slice none 0 0, .slice none 0 0]) := HH ((Blk.new2 w (.cells #[.int .i64 tr, .int .i64 no, .slice A n c, .slice B n d] 24) 24 [.int .i64 0, .int .i64 0, .slice none 0 0, .slice none 0 0]).after hb); have k2 : w1.cell? ⟨w.heap.size, 2, none⟩ = some (.slice A n c) := (((Blk.new w 24 [.int .i64 tr, .int .i64 no, .slice A n c, .slice B n d]).alloc (.cells #[.int .i64 0, .int .i64 0, .slice none 0 0, .slice none 0 0] 24)).after hb).cell 2; have t0 : w1.cell? ⟨w.heap.size + 1, 0, none⟩ = some (.int .i64 0) := K1.out.cell 0; have t1 : w1.cell? ⟨w.heap.size + 1, 1, none⟩ = some (.int .i64 0) := K1.out.cell 1; have t2 : w1.cell? ⟨w.heap.size + 1, 2, none⟩ = some (.slice none 0 0) := K1.out.cell 2; have t3 : w1.cell? ⟨w.heap.size + 1, 3, none⟩ = some (.slice none 0 0) := K1.out.cell 3; have r0 : w1.frozen? ⟨w.heap.size + 1, 0, none⟩ = false := K1.out.frozen 0; have r1 : w1.frozen? ⟨w.heap.size + 1, 1, none⟩ = false := K1.out.frozen 1; have r2 : w1.frozen? ⟨w.heap.size + 1, 2, none⟩ = false := K1.out.frozen 2; have r3 : w1.frozen? ⟨w.heap.size + 1, 3, none⟩ = false := K1.out.frozen 3; clear hb) | (go_at_call 34; (with_reducible refine (E1.out _ HB1.out).mono ?_); rintro e' w2 ⟨rfl, rfl⟩))
  exact bodyPost_ret (la_read rfl rfl ((((K1.out.set_ 0 (.int .i64 0)).set_ 1 (.int .i64 0)).set_ 2 (.slice none 0 0)).set_ 3 (.slice none 0 0))) rfl ⟨rfl, la_st HB1.out⟩
end Go.Proofs.YtfefnfifeaihhaaGreat.Wo
