/- Count, Next, List of package bitset. -/
import Derived.Test.YtffphlbbophjfaaDoorBitFind
import Derived.Test.YtffphlbbophjfaaDoorBitOwn
namespace Go.Proofs.YtffphlbbophjfaaDoor.Bs
open Go.ChangeShapes Go.WideShapes Go.ChangeAt Go.RowKit
set_option linter.unusedVariables false

def IntPost (w : World) (v : Int) (r : Ending) (w' : World) : Prop := r = .returned (.int .i64 v) ∧ Below w.heap.size w w'
theorem count_nil (w : World) : Calls Tryd.prog 31 #[.pointer none] w (IntPost w 0) := by
  go_enter Tryd.func31, Tryd.ntmps31
  go_wp2_with (go_at_call 44; refine (made_nil _).mono ?_; rintro e w1 ⟨rfl, rfl⟩)
  go_ret
  exact ⟨rfl, Below.refl _ _⟩
theorem Is.lenle {ws : List Nat} {n : Nat} {f : Fs} (h : Is ws n f) (hn : n ≤ 1048576) : ws.length ≤ 16384 := by rw [h.len]; omega
theorem onesCount_le {ws : List Nat} {n : Nat} {f : Fs} (h : Is ws n f) (k : Nat) : Lib.onesCount (ws.getD k 0) ≤ 64 := by
  have h1 := h.count k
  have h2 : cnt f (k * 64 + 64) ≤ cnt f (k * 64) + 64 := by rw [cnt_add]; have := cnt_le (fun i => f (k * 64 + i)) 64; omega
  omega
theorem count_core (w : World) (B n len c : Nat) (A : Option Addr) (ws : List Nat) (f : Fs) (hi : Is ws n f) (hn : n ≤ 1048576) (hl : len = ws.length) (h0 : w.cell? ⟨B, 0, none⟩ = some (.pointer (some ⟨B, 0, none⟩))) (h2 : w.cell? ⟨B, 2, none⟩ = some (.slice A len c))
    (hw : ∀ k, k < len → ∃ ad, A = some ad ∧ w.cell? (ad.add k) = some (.int .u64 (ws.getD k 0))) :
    Calls Tryd.prog 31 #[.pointer (some ⟨B, 0, none⟩)] w (IntPost w (cnt f n)) := by
  have HI := Lib.hid hi
  have HL := Lib.hid hl
  have HW := Lib.hid hw
  have hlen : len ≤ 16384 := by have := hi.lenle hn; omega
  clear hi hl hw
  go_enter Tryd.func31, Tryd.ntmps31
  go_wp2_with (go_at_call 44; refine (made_set _ B h0).mono ?_; rintro e w1 ⟨rfl, rfl⟩)
  go_loopw [3, 13] (fun v3 v13 wr => ∃ (k s : Nat), v3 = .int .i64 s ∧ v13 = .int .i64 k ∧ k ≤ len ∧ s ≤ k * 64 ∧ Hid (s = cnt f (k * 64)) ∧ w = wr) (fun _ v _ => len - (intOf v).toNat)
  case atStart => exact ⟨0, 0, rfl, rfl, by omega, by omega, rfl, rfl⟩
  case round =>
    obtain ⟨k, s, rfl, rfl, hk, hs, hcn, rfl⟩ := hrel
    by_cases hlt : k < len
    · obtain ⟨ad, rfl, hc⟩ := HW.out k hlt
      obtain ⟨x, hx⟩ : ∃ x, x = ws.getD k 0 := ⟨_, rfl⟩
      rw [← hx] at hc
      have HX : Hid (x < 18446744073709551616) := Lib.hid (by rw [hx]; exact HI.out.lt k)
      obtain ⟨q, hq⟩ : ∃ q, q = Lib.onesCount x := ⟨_, rfl⟩
      have hq64 : q ≤ 64 := by rw [hq, hx]; exact onesCount_le HI.out k
      have HN : Hid (s + q = cnt f ((k + 1) * 64)) := by
        show _ = _
        rw [show (k + 1) * 64 = k * 64 + 64 by omega, HI.out.count k, ← hcn.out, hq, hx]
      have HO : Hid (∀ w, Calls Tryd.prog 50 #[.int .u64 x] w fun e w' => e = .returned (.int .i64 q) ∧ w = w') := Lib.hid (by rw [hq]; exact ones_any x HX.out)
      clear hx hq
      go_wp2_with (go_at_call 50; refine (HO.out _).mono ?_; rintro e w1 ⟨rfl, rfl⟩)
      go_roundw
      case rel => exact ⟨k + 1, s + q, by go_num, by go_num, by omega, by omega, HN, trivial⟩
      case measure => simp [intOf]; omega
    · have hkl : len = k := by omega
      have HC : Hid (s = cnt f n) := by
        show _ = _
        rw [hcn.out, ← hkl, HL.out, HI.out.count_all]
      go_wp2
      go_ret
      refine ⟨?_, Below.refl _ _⟩
      rw [← HC.out]
      rfl
theorem count_any {w : World} {B g n : Nat} {f : Fs} (h : SetAt w B g n f) : Calls Tryd.prog 31 #[.pointer (some ⟨B, 0, none⟩)] w (IntPost w (cnt f n)) := by
  obtain ⟨A, c, ws, rest, h1, h2, h3, h4⟩ := h.obj
  refine count_core w B n ws.length c A ws f h1 h.width rfl h.self.1 (by simpa using h3.cell 2) ?_
  intro k hk
  have h0 : 0 < n := by have := h1.len; omega
  obtain ⟨rfl, hb⟩ := h4 h0
  refine ⟨_, rfl, ?_⟩
  have e : (⟨g, 0, none⟩ : Addr).add k = ⟨g, k, none⟩ := by
    unfold Addr.add; split
    · subst_vars; rfl
    · simp
  rw [e, hb.cell, uc_at _ _ _ hk]

/- Next -/
theorem nxt_skip {f : Fs} {n a b : Nat} (hab : a ≤ b) (h : ∀ j, a ≤ j → j < b → f j = false) : nxt f n a = nxt f n b := by
  rcases nxt_cases f n b with ⟨e, h1⟩ | ⟨j, e, h1, h2, h3, h4⟩
  · rw [e, nxt_none fun i hi hn => by
      by_cases hb : i < b
      · exact h i hi hb
      · exact h1 i (by omega) hn]
  · rw [e, nxt_some (by omega) h2 h3 fun i hi hn => by
      by_cases hb : i < b
      · exact h i hi hb
      · exact h4 i (by omega) hn]
theorem ctz_facts {x : Nat} (h0 : x ≠ 0) (hx : x < 18446744073709551616) : Lib.ctz 64 x < 64 ∧ x.testBit (Lib.ctz 64 x) = true ∧ ∀ j, j < Lib.ctz 64 x → x.testBit j = false := by
  obtain ⟨m, hm, hl⟩ := Lib.ctzFrom_spec 64 x (by omega) hx
  have e : Lib.ctz 64 x = Lib.ctzFrom 64 x := by unfold Lib.ctz; rw [if_neg h0]
  rw [e]
  generalize Lib.ctzFrom 64 x = c at hm hl
  subst hm
  refine ⟨hl, ?_, fun j hj => ?_⟩
  · rw [Nat.testBit_two_pow_mul]; simp
  · rw [Nat.testBit_two_pow_mul]; simp; omega
/-- word k with what is below lo struck tells the next one, or that it is in no such word -/
def Nx (f : Fs) (n i k x : Nat) : Prop := (x = 0 → nxt f n i = nxt f n ((k + 1) * 64)) ∧ (x ≠ 0 → nxt f n i = ((k * 64 + Lib.ctz 64 x : Nat) : Int))
theorem nx_mk {f : Fs} {n i k x lo : Nat} (hw : Wd n f) (hx : x < 18446744073709551616) (hi : nxt f n i = nxt f n (k * 64 + lo)) (hlo : lo ≤ 63) (hb : ∀ j, j < 64 → x.testBit j = (decide (lo ≤ j) && f (k * 64 + j))) : Nx f n i k x := by
  constructor
  · intro h0
    rw [hi]
    refine nxt_skip (by omega) fun j h1 h2 => ?_
    have := hb (j - k * 64) (by omega)
    rw [h0, Nat.zero_testBit, decide_eq_true (by omega), Bool.true_and, show k * 64 + (j - k * 64) = j by omega] at this
    exact this.symm
  · intro h0
    obtain ⟨h1, h2, h3⟩ := ctz_facts h0 hx
    have h4 := hb _ h1
    rw [h2] at h4
    have h5 : decide (lo ≤ Lib.ctz 64 x) = true := by
      cases hd : decide (lo ≤ Lib.ctz 64 x) with
      | true => rfl
      | false => rw [hd] at h4; simp at h4
    rw [h5, Bool.true_and] at h4
    have h6 := of_decide_eq_true h5
    have h7 : k * 64 + Lib.ctz 64 x < n := by
      rcases Nat.lt_or_ge (k * 64 + Lib.ctz 64 x) n with h | h
      · exact h
      · rw [hw _ h] at h4; cases h4
    rw [hi]
    refine nxt_some (by omega) h7 h4.symm fun j h8 h9 => ?_
    have := hb (j - k * 64) (by omega)
    rw [h3 _ (by omega), decide_eq_true (by omega), Bool.true_and, show k * 64 + (j - k * 64) = j by omega] at this
    exact this.symm
theorem mask_bit {a i : Nat} (j : Nat) (hj : j < 64) : (a &&& (18446744073709551615 - (2 ^ (i % 64) - 1))).testBit j = (a.testBit j && decide (i % 64 ≤ j)) := by
  have hb := bit_lt i
  rw [minus_bit _ _ _ (by omega) hj, Nat.testBit_two_pow_sub_one]
  congr 1
  by_cases h : j < i % 64
  · rw [decide_eq_true h, decide_eq_false (by omega)]; rfl
  · rw [decide_eq_false h, decide_eq_true (by omega)]; rfl
theorem Is.nx0 {ws : List Nat} {n : Nat} {f : Fs} (h : Is ws n f) (i : Nat) : Nx f n i (i / 64) (ws.getD (i / 64) 0 &&& (18446744073709551615 - (2 ^ (i % 64) - 1))) :=
  nx_mk (lo := i % 64) h.wd (and_lt _ _ (h.lt _)) (by rw [show i / 64 * 64 + i % 64 = i by omega]) (by omega) fun j hj => by rw [mask_bit j hj, h.word _ _ hj, Bool.and_comm]
theorem Is.nx1 {ws : List Nat} {n : Nat} {f : Fs} (h : Is ws n f) {i k : Nat} (hk : Nx f n i k 0) : Nx f n i (k + 1) (ws.getD (k + 1) 0) :=
  nx_mk (lo := 0) h.wd (h.lt _) (by rw [hk.1 rfl]; rfl) (by omega) fun j hj => by rw [h.word _ _ hj]; simp

theorem next_far (p : Option Addr) (i : Int) (n : Nat) (w : World) (hw : Calls Tryd.prog 15 #[.pointer p] w fun e w' => e = .returned (.int .i64 n) ∧ w = w') (m : Nat) (hm : (if i < 0 then 0 else i) = (m : Int)) (h : n ≤ m) :
    Calls Tryd.prog 14 #[.pointer p, .int .i64 i] w (IntPost w (-1)) := by
  have hge : ¬ ((m : Int) < n) := by omega
  have hge2 : ((n : Int) ≤ m) := by omega
  have HW := Lib.hid hw
  clear hw
  go_enter Tryd.func14, Tryd.ntmps14
  go_wp2_with (go_at_call 15; refine HW.out.mono ?_; rintro e w1 ⟨rfl, rfl⟩)
  go_ret
  exact ⟨rfl, Below.refl _ _⟩

def NxRel (w : World) (f : Fs) (n m len : Nat) (v5 v6 : Value) (wr : World) : Prop :=
  ∃ k x : Nat, v5 = .int .i64 k ∧ v6 = .int .u64 x ∧ k < len ∧ x < 18446744073709551616 ∧ Hid (Nx f n m k x) ∧ Below w.heap.size w wr
set_option maxHeartbeats 2000000 in
theorem next_core (i : Int) (w : World) (B g n m len c : Nat) (ws : List Nat) (rest : List Value) (f : Fs) (hE : Env w) (hi : Is ws n f) (hn : n ≤ 1048576) (hl : len = ws.length)
    (ho : Blk w B 67 [.pointer (some ⟨B, 0, none⟩), .int .i64 n, .slice (some ⟨g, 0, none⟩) len c]) (hb : Blk w g 61 (uc ws ++ rest)) (hm : (if i < 0 then 0 else i) = (m : Int)) (hlt : m < n) :
    Calls Tryd.prog 14 #[.pointer (some ⟨B, 0, none⟩), .int .i64 i] w (IntPost w (nxt f n m)) := by
  have HI := Lib.hid hi
  have HL := Lib.hid hl
  have HE := Lib.hid hE
  have hlen : len ≤ 16384 := by have := hi.lenle hn; omega
  have hk0 : m / 64 < len := by have := hi.len; omega
  have HO := Lib.hid ho
  have HB := Lib.hid hb
  have h0 : w.cell? ⟨B, 0, none⟩ = some (.pointer (some ⟨B, 0, none⟩)) := by simpa using ho.cell 0
  have h1 : w.cell? ⟨B, 1, none⟩ = some (.int .i64 n) := by simpa using ho.cell 1
  have h2 : w.cell? ⟨B, 2, none⟩ = some (.slice (some ⟨g, 0, none⟩) len c) := by simpa using ho.cell 2
  obtain ⟨a, ha⟩ : ∃ a, a = ws.getD (m / 64) 0 := ⟨_, rfl⟩
  have h3 : w.cell? ⟨g, m / 64, none⟩ = some (.int .u64 a) := by rw [hb.cell, uc_at _ _ _ (by omega), ha]
  have hge : ((m : Int) < n) := by omega
  have hge2 : ¬ ((n : Int) ≤ m) := by omega
  obtain ⟨b, hbb⟩ : ∃ b, b = 2 ^ (m % 64) := ⟨_, rfl⟩
  obtain ⟨x0, hx0⟩ : ∃ x, x = a &&& (18446744073709551615 - (b - 1)) := ⟨_, rfl⟩
  have hb1 : b < 18446744073709551616 := by rw [hbb]; exact bit_lt m
  have hb2 : 1 ≤ b := by rw [hbb]; exact Nat.one_le_two_pow
  have ha1 : a < 18446744073709551616 := by rw [ha]; exact hi.lt _
  have kx : bits .andNot .u64 (a : Int) (IntKind.u64.wrap ((b : Int) - 1)) = (x0 : Int) := by
    rw [show IntKind.u64.wrap ((b : Int) - 1) = ((b - 1 : Nat) : Int) by rw [IntKind.wrap_u64]; omega, u64_andNot_nat _ _ ha1 (by omega), hx0]
  have HOf : Hid (∀ w, Calls Tryd.prog 42 #[.int .i64 m] w fun e w' => e = .returned (.int .u64 b) ∧ w = w') := Lib.hid (by rw [hbb]; exact fun w => bitOf_any m (by omega) w)
  have HS : Hid (∀ q, NxRel w f n m len (.int .i64 ((m : Int) / 64)) (.int .u64 x0) (w.drewN q)) :=
    Lib.hid fun q => ⟨m / 64, x0, by simp, rfl, hk0, by rw [hx0]; exact and_lt _ _ ha1, Lib.hid (by rw [hx0, hbb, ha]; exact hi.nx0 m), below_drewN (Below.refl _ _) q⟩
  have HW := Lib.hid (width_cell w B n h0 h1)
  clear hi hl hE ho hb ha hbb hx0 hb1 hb2 ha1
  go_enter Tryd.func14, Tryd.ntmps14
  go_wp2_with (go_at_call 15; refine HW.out.mono ?_; rintro e w1 ⟨rfl, rfl⟩)
  have f1 : IntKind.i64.wrap ((m : Int) / 64) = (m : Int) / 64 := by rw [IntKind.wrap_i64]; omega
  have f2 : ((m : Int) / 64).toNat = m / 64 := by omega
  have f3 : (0 : Int) ≤ (m : Int) / 64 := by omega
  have f4 : (m : Int) / 64 < len := by omega
  go_quiet ((go_at_call 42; exact quiet_eq (HOf.out (w.drewN _))))
  clear f1 f2 f3 f4
  go_wp2
  go_loopw [5, 6] (fun v5 v6 wr => NxRel w f n m len v5 v6 wr) (fun v _ _ => len - (intOf v).toNat)
  case atStart => exact HS.out _
  case round =>
    obtain ⟨k, x, rfl, rfl, hk, hx, hnx, hbel⟩ := hrel
    clear HS
    have c0 : wr.cell? ⟨B, 0, none⟩ = some (.pointer (some ⟨B, 0, none⟩)) := by simpa using (HO.out.after hbel).cell 0
    have c2 : wr.cell? ⟨B, 2, none⟩ = some (.slice (some ⟨g, 0, none⟩) len c) := by simpa using (HO.out.after hbel).cell 2
    by_cases hx0 : x = 0
    · have e0 : ((x : Int) == 0) = true := by simp [hx0]
      by_cases hkl : k + 1 = len
      · have HR : Hid (nxt f n m = -1) := by
          show _ = _
          rw [hnx.out.1 hx0, hkl]
          exact nxt_none fun j h1 h2 => HI.out.wd _ (by have := HI.out.len; have := HL.out; omega)
        have e1 : ((k : Int) + 1 == (len : Int)) = true := by simp; omega
        have HBW := Lib.hid hbel
        clear hbel hnx hx0
        go_wp2
        go_ret
        exact ⟨ret_i HR.out.symm, HBW.out⟩
      · have e1 : ((k : Int) + 1 == (len : Int)) = false := by simp; omega
        have hkl2 : k + 1 < len := by omega
        obtain ⟨y, hy⟩ : ∃ y, y = ws.getD (k + 1) 0 := ⟨_, rfl⟩
        have c3 : wr.cell? ⟨g, k + 1, none⟩ = some (.int .u64 y) := by rw [(HB.out.after hbel).cell, uc_at _ _ _ (by rw [← HL.out]; exact hkl2), hy]
        have HN : Hid (NxRel w f n m len (.int .i64 ((k : Int) + 1)) (.int .u64 y) wr) :=
          Lib.hid ⟨k + 1, y, by simp, rfl, hkl2, by rw [hy]; exact HI.out.lt _, Lib.hid (by rw [hy]; subst hx0; exact HI.out.nx1 hnx.out), hbel⟩
        clear hbel hnx hx0 hy
        go_wp2
        go_roundw
        case rel => exact HN.out
        case measure => simp [intOf]; omega
    · have e0 : ((x : Int) == 0) = false := by simp; omega
      obtain ⟨q, hq⟩ : ∃ q, q = Lib.ctz 64 x := ⟨_, rfl⟩
      have hq64 : q < 64 := by rw [hq]; exact (ctz_facts hx0 hx).1
      have HR : Hid (nxt f n m = ((k * 64 + q : Nat) : Int)) := Lib.hid (by rw [hnx.out.2 hx0, hq])
      have HT : Hid (Calls Tryd.prog 43 #[.int .u64 x] wr fun e w' => e = .returned (.int .i64 q) ∧ wr = w') := Lib.hid (by rw [hq]; exact tz_any x hx hx0 wr (HE.out.after hbel))
      have HBW := Lib.hid hbel
      clear hbel hnx hx0 hq hx
      go_wp2_with (go_at_call 43; refine HT.out.mono ?_; rintro e w1 ⟨rfl, rfl⟩)
      go_ret
      refine ⟨?_, HBW.out⟩
      rw [HR.out]
      exact ret_i (by simp)
theorem max_eq (i : Int) : (if i < 0 then 0 else i) = ((i.toNat : Nat) : Int) := by split <;> omega
theorem next_any {w : World} {B g n : Nat} {f : Fs} (h : SetAt w B g n f) (hE : Env w) (i : Int) : Calls Tryd.prog 14 #[.pointer (some ⟨B, 0, none⟩), .int .i64 i] w (IntPost w (nxt f n i.toNat)) := by
  by_cases hi : i.toNat < n
  · obtain ⟨c, ws, rest, h1, h2, h3, h4⟩ := h.cells (by omega)
    exact next_core i w B g n i.toNat ws.length c ws rest f hE h1 h.width rfl h3 h4 (max_eq i) hi
  · rw [nxt_none fun j h1 h2 => by omega]
    exact next_far _ i n w (width_cell w B n h.self.1 h.self.2) i.toNat (max_eq i) (by omega)
theorem next_nil (i : Int) (w : World) : Calls Tryd.prog 14 #[.pointer none, .int .i64 i] w (IntPost w (-1)) :=
  next_far _ i 0 w (width_nil w) i.toNat (max_eq i) (by omega)

/- List -/
theorem list_nil (w : World) : Calls Tryd.prog 34 #[.pointer none] w (NumsNew w []) := by
  have hmk := run_mk Tryd.underlying44 info_int (by omega) rfl 0 0 (by omega) (by omega)
  simp only [Int.natCast_zero] at hmk
  go_enter Tryd.func34, Tryd.ntmps34
  go_wp2_with (first
    | (go_at_call 31; refine (count_nil _).mono ?_; rintro e w1 ⟨rfl, hb1⟩)
    | (go_at_call 14; refine (next_nil _ _).mono ?_; rintro e w3 ⟨rfl, hb3⟩))
  refine wp_loop_rounds 1 ?_
  rw [rounds_succ]
  go_wp2
  go_ret
  exact ⟨_, 0, 0, rfl, rfl, Nat.le_refl _, Rd.none_, keep_trans (keep_alloc hb1 _) hb3⟩
theorem below_none {w w' : World} (h : Below w.heap.size w w') : w.grownBy w' none := ⟨h.os, h.tape, h.output, h.size, fun b hb _ => h.block b hb⟩
theorem own_after {w w' : World} {base e size n : Nat} {v : Value} {xs : List Value} (h : w.ownsRow base e size v n xs) (hb : Below w.heap.size w w') : w'.ownsRow base e size v n xs :=
  h.kept (below_none hb) (by cases hv : v.ownBlock <;> simp)
def LsRel (w : World) (f : Fs) (n : Nat) (v3 v4 : Value) (wr : World) : Prop :=
  ∃ (d m : Nat) (V3 : Value), V3 = v3 ∧ v4 = .int .i64 (nxt f n d) ∧ d ≤ n ∧ Hid (m = (lst f d).length) ∧ m ≤ d ∧ wr.ownsRow w.heap.size 3 1 V3 m (ic (lst f d)) ∧ Below w.heap.size w wr
theorem ls_step {f : Fs} {d j : Nat} (h1 : d ≤ j) (h3 : f j = true) (h4 : ∀ i, d ≤ i → i < j → f i = false) : lst f (j + 1) = lst f d ++ [(j : Int)] := by
  rw [lst, if_pos h3, lst_skip f h1 h4]
def lsm (n : Nat) (v : Value) : Nat := if intOf v = -1 then 0 else n + 1 - (intOf v).toNat
theorem lsm_lt {n j : Nat} {y : Int} (h2 : j < n) (hy : y = -1 ∨ ((j : Int) < y ∧ y < n)) : lsm n (.int .i64 y) < lsm n (.int .i64 j) := by
  have e : ∀ x : Int, intOf (.int .i64 x) = x := fun _ => rfl
  unfold lsm
  rw [e, e, if_neg (by omega : ¬ (j : Int) = -1)]
  rcases hy with rfl | h
  · rw [if_pos rfl]; omega
  · rw [if_neg (by omega)]; omega
set_option maxHeartbeats 2000000 in
theorem list_any {w : World} {B g n : Nat} {f : Fs} (h : SetAt w B g n f) (hE : Env w) : Calls Tryd.prog 34 #[.pointer (some ⟨B, 0, none⟩)] w (NumsNew w (lst f n)) := by
  have hn := h.width
  have HS := Lib.hid h
  have HE := Lib.hid hE
  obtain ⟨q, hq⟩ : ∃ q, q = cnt f n := ⟨_, rfl⟩
  have hc : q ≤ n := by rw [hq]; exact cnt_le f n
  have HC : Hid (Calls Tryd.prog 31 #[.pointer (some ⟨B, 0, none⟩)] w (IntPost w q)) := Lib.hid (by rw [hq]; exact count_any h)
  have hmk := run_mk Tryd.underlying44 info_int (by omega) rfl 0 q (by omega) (by omega)
  simp only [Int.natCast_zero] at hmk
  clear h hE hq
  go_enter Tryd.func34, Tryd.ntmps34
  go_wp2_with (first
    | (go_at_call 31; refine HC.out.mono ?_; rintro e w1 ⟨rfl, hb1⟩; have hb1 := Lib.hid hb1)
    | (go_at_call 14; refine (next_any ((HS.out.after hb1.out).after (Below.alloc (Below.refl _ _) (Nat.le_refl _) _)) ((HE.out.after hb1.out).after (Below.alloc (Below.refl _ _) (Nat.le_refl _) _)) _).mono ?_; rintro e w3 ⟨rfl, hb3⟩; have hb3 := Lib.hid hb3))
  have ho3 : w3.ownsRow w.heap.size 3 1 (.slice (some ⟨w1.heap.size, 0, none⟩) 0 q) 0 [] := own_after (made_own hb1.out.size (by simp) (by omega)) hb3.out
  have HI : Hid (LsRel w f n (.slice (some ⟨w1.heap.size, 0, none⟩) 0 q) (.int .i64 (nxt f n (Int.toNat 0))) w3) :=
    Lib.hid ⟨0, 0, _, rfl, rfl, by omega, rfl, by omega, ho3, keep_trans (keep_alloc hb1.out _) hb3.out⟩
  clear ho3 hb1 hb3 hmk HC
  go_wp2
  go_loopw [3, 4] (fun v3 v4 wr => LsRel w f n v3 v4 wr) (fun _ v _ => lsm n v)
  case atStart => exact HI.out
  case round =>
    obtain ⟨d, m, V3, rfl, rfl, hd, hm, hmd, ho, hbel⟩ := hrel
    clear HI
    rcases nxt_cases f n d with ⟨e, h1⟩ | ⟨j, e, h1, h2, h3, h4⟩
    · have HR : Hid (lst f n = lst f d) := Lib.hid (lst_skip f hd h1)
      obtain ⟨A6, c6, hv6, hc6, hr6⟩ := own_form ho
      subst hv6
      have HB := Lib.hid hbel
      have HRD := Lib.hid hr6
      rw [e]
      clear h1 e ho hbel hr6
      go_wp2
      go_ret
      exact ⟨A6, m, c6, rfl, by show _ = _; rw [HR.out]; exact hm.out, hc6, by rw [HR.out]; exact HRD.out, HB.out⟩
    · obtain ⟨y, hy⟩ : ∃ y : Int, y = nxt f n (j + 1) := ⟨_, rfl⟩
      have hyl : (y = -1) ∨ ((j : Int) < y ∧ y < n) := by
        rcases nxt_cases f n (j + 1) with ⟨e2, _⟩ | ⟨j2, e2, g1, g2, _, _⟩
        · left; rw [hy, e2]
        · right; rw [hy, e2]; omega
      have HSZ := hbel.size
      have HM : Hid (lst f (j + 1) = lst f d ++ [(j : Int)]) := Lib.hid (ls_step h1 h3 h4)
      have HY := Lib.hid hy
      have HN : Hid (∀ o w2 w4 v3, Hid (w2.ownsRow w.heap.size 3 1 v3 (m + 1) (ic (lst f d ++ [(j : Int)]))) → Hid ((wr.alloc o).grownBy w2 V3.ownBlock) → Below w2.heap.size w2 w4 → LsRel w f n v3 (.int .i64 y) w4) :=
        Lib.hid fun o w2 w4 v3 h5 hg h6 => ⟨j + 1, m + 1, v3, rfl, by rw [HY.out], by omega, by show _ = _; rw [HM.out, List.length_append, ← hm.out]; rfl, by omega, by rw [HM.out]; exact own_after h5.out h6,
          keep_trans ((hbel.alloc HSZ o).grown hg.out (by simp; omega) (fun g hv => (ho.lt g hv).1)) h6⟩
      have HB2 : Hid (∀ o w2, Hid ((wr.alloc o).grownBy w2 V3.ownBlock) → Below w.heap.size w w2) := Lib.hid fun o w2 hg => (hbel.alloc HSZ o).grown hg.out (by simp; omega) (fun g hv => (ho.lt g hv).1)
      have HO := Lib.hid ho
      have HX : Hid (∀ w2, Below w.heap.size w w2 → Calls Tryd.prog 14 #[.pointer (some ⟨B, 0, none⟩), .int .i64 ((j : Int) + 1)] w2 (IntPost w2 y)) := Lib.hid fun w2 hb => by
        have := next_any (HS.out.after hb) (HE.out.after hb) ((j : Int) + 1)
        rw [show ((j : Int) + 1).toNat = j + 1 by omega, ← hy] at this
        exact this
      rw [e]
      clear h1 h3 h4 e ho hbel hy
      have e0 : ((j : Int) == -1) = false := by simp
      go_wp2_with (first
        | (at_builtin; refine wpList_append_num rfl (.tmp 16) (.tmp 18) 44 3 rfl Tryd.underlying44 info_int w.heap.size V3 m (lst f d) (j : Int) rfl rfl HO (by omega) HSZ ?_; intro v3' w2 ho3' hg3' hat3')
        | (go_at_call 14; refine (HX.out _ (HB2.out _ _ hg3')).mono ?_; rintro e w4 ⟨rfl, hb4⟩; have hb4 := Lib.hid hb4))
      go_roundw
      case rel => exact HN.out _ _ _ _ ho3' hg3' hb4.out
      case measure => exact lsm_lt h2 hyl
end Go.Proofs.YtffphlbbophjfaaDoor.Bs
