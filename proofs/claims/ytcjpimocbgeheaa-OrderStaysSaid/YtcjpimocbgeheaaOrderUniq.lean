/- slices.Compact on a row of the call's own, and order.Uniq: the numbers, rising, each once. Conditions: the row holds fewer than a million numbers. -/
import Derived.Test.YtcjpimocbgeheaaOrderSearch
import Derived.Lib.SliceRun
namespace Go.Proofs.Ytcjpimocbgeheaa.Od
open Go.ChangeShapes Go.WideShapes Go.ChangeAt Go.RowKit
set_option linter.unusedVariables false

/-- of the first k numbers those that are not as the one ahead -/
def cpF (zs : List Int) : Nat → List Int
  | 0 => []
  | k + 1 => if k ≠ 0 ∧ zs.getD k 0 = zs.getD (k - 1) 0 then cpF zs k else cpF zs k ++ [zs.getD k 0]
theorem cpF_le (zs : List Int) (k : Nat) : (cpF zs k).length ≤ k := by
  induction k with
  | zero => simp [cpF]
  | succ k ih =>
    unfold cpF
    split
    · omega
    · simp; omega
theorem cpF_dup {zs : List Int} {k : Nat} (h0 : 0 < k) (h : zs.getD k 0 = zs.getD (k - 1) 0) : cpF zs (k + 1) = cpF zs k := by
  conv => lhs; unfold cpF
  rw [if_pos ⟨by omega, h⟩]
theorem cpF_new {zs : List Int} {k : Nat} (h : ¬ zs.getD k 0 = zs.getD (k - 1) 0) : cpF zs (k + 1) = cpF zs k ++ [zs.getD k 0] := by
  conv => lhs; unfold cpF
  rw [if_neg (fun e => h e.2)]
theorem take_snocD (zs : List Int) (k : Nat) (h : k < zs.length) : zs.take (k + 1) = zs.take k ++ [zs.getD k 0] := by
  rw [List.take_succ_eq_append_getElem h]; simp [List.getD_eq_getElem?_getD, List.getElem?_eq_getElem h]
theorem blk_int {w : World} {g t : Nat} {C : List Int} (hb : Blk w g t (ic C)) {i : Nat} (h : i < C.length) : w.cell? ⟨g, i, none⟩ = some (.int .i64 (C.getD i 0)) := by
  rw [hb.cell]; simp [ic, List.getD_eq_getElem?_getD, List.getElem?_eq_getElem h]
theorem blk_int_set {w : World} {g t : Nat} {C : List Int} (hb : Blk w g t (ic C)) (i : Nat) (x : Int) : Blk (w.setCell ⟨g, i, none⟩ (.int .i64 x)) g t (ic (C.set i x)) := by
  have h := hb.set_ i (.int .i64 x)
  have e : (ic C).set i (.int .i64 x) = ic (C.set i x) := by simp [ic, List.map_set]
  rw [e] at h; exact h
theorem heap_setCells (b : Nat) : ∀ (vs : List Value) (o : Nat) (w : World) (k : Nat), k ≠ b → (w.setCells b o vs).heap[k]? = w.heap[k]?
  | [], _, _, _, _ => rfl
  | v :: r, o, w, k, h => by
    rw [World.setCells, heap_setCells b r (o + 1) _ k h, Below.heap_setCell _ _ _ _ h]
theorem setCells_frame (b : Nat) : ∀ (vs : List Value) (o : Nat) (w : World), w.grownBy (w.setCells b o vs) (some b)
  | [], _, w => only_refl w _
  | v :: r, o, w => only_trans (only_setCell (only_refl w _) (.inl rfl) v) (setCells_frame b r (o + 1) (w.setCell ⟨b, o, none⟩ v))

def OutRel (w : World) (g n : Nat) (zs : List Int) (v3 : Value) (wr : World) : Prop :=
  ∃ k : Nat, v3 = .int .i64 k ∧ 1 ≤ k ∧ k ≤ n ∧ Blk wr g 2 (ic zs) ∧ cpF zs k = zs.take k ∧ w.grownBy wr (some g)
def InRel (w : World) (g n k0 : Nat) (zs : List Int) (v3 v5 : Value) (wr : World) : Prop :=
  ∃ (k j : Nat) (C : List Int), v3 = .int .i64 k ∧ v5 = .int .i64 j ∧ 1 ≤ j ∧ k0 + j ≤ n ∧ C.length = n ∧ k + 1 ≤ k0 + j ∧ 1 ≤ k ∧ C.take k = cpF zs (k0 + j) ∧ C.drop (k0 + j - 1) = zs.drop (k0 + j - 1) ∧ Blk wr g 2 (ic C) ∧ w.grownBy wr (some g)

theorem drop_getD {C zs : List Int} {m i : Nat} (h : C.drop m = zs.drop m) (hi : m ≤ i) : C.getD i 0 = zs.getD i 0 := by
  have h1 := congrArg (fun l => l[i - m]?) h
  simp only [List.getElem?_drop] at h1
  have e : m + (i - m) = i := by omega
  rw [e] at h1
  simp [List.getD_eq_getElem?_getD, h1]

theorem in_same {w wr : World} {g n k0 k j : Nat} {zs C : List Int} (h1 : 1 ≤ j) (h2 : k0 + j < n) (hk0 : 1 ≤ k0) (hC : C.length = n) (h3 : k + 1 ≤ k0 + j) (h4 : 1 ≤ k) (h5 : C.take k = cpF zs (k0 + j)) (h6 : C.drop (k0 + j - 1) = zs.drop (k0 + j - 1))
    (hb : Blk wr g 2 (ic C)) (hg : w.grownBy wr (some g)) (he : zs.getD (k0 + j) 0 = zs.getD (k0 + j - 1) 0) (m : Nat) : InRel w g n k0 zs (.int .i64 k) (.int .i64 ((j : Int) + 1)) (wr.drewN m) := by
  refine ⟨k, j + 1, C, rfl, by simp, by omega, by omega, hC, by omega, h4, ?_, ?_, hb, only_drewN hg m⟩
  · rw [h5, show k0 + (j + 1) = (k0 + j) + 1 by omega, cpF_dup (by omega) he]
  · have := congrArg (List.drop 1) h6
    simp only [List.drop_drop] at this
    rw [show k0 + (j + 1) - 1 = k0 + j - 1 + 1 by omega]; exact this
theorem in_new {w wr : World} {g n k0 k j : Nat} {zs C : List Int} (h1 : 1 ≤ j) (h2 : k0 + j < n) (hk0 : 1 ≤ k0) (hC : C.length = n) (h3 : k + 1 ≤ k0 + j) (h4 : 1 ≤ k) (h5 : C.take k = cpF zs (k0 + j)) (h6 : C.drop (k0 + j - 1) = zs.drop (k0 + j - 1))
    (hb : Blk wr g 2 (ic C)) (hg : w.grownBy wr (some g)) (he : ¬ zs.getD (k0 + j) 0 = zs.getD (k0 + j - 1) 0) (m : Nat) :
    InRel w g n k0 zs (.int .i64 ((k : Int) + 1)) (.int .i64 ((j : Int) + 1)) ((wr.drewN m).setCell ⟨g, k, none⟩ (.int .i64 (zs.getD (k0 + j) 0))) := by
  have hb' : Blk (wr.drewN m) g 2 (ic C) := hb
  refine ⟨k + 1, j + 1, C.set k (zs.getD (k0 + j) 0), by simp, by simp, by omega, by omega, by simpa using hC, by omega, by omega, ?_, ?_, blk_int_set hb' k _, only_setCell (only_drewN hg m) (.inl rfl) _⟩
  · rw [show k0 + (j + 1) = (k0 + j) + 1 by omega, cpF_new he, ← h5, take_snocD _ _ (by simp; omega)]
    congr 1
    · rw [List.take_set_of_le (by omega)]
    · have hkn : k < n := by omega
      simp [List.getD_eq_getElem?_getD, hC, hkn]
  · rw [List.drop_set_of_lt (by omega)]
    have := congrArg (List.drop 1) h6
    simp only [List.drop_drop] at this
    rw [show k0 + (j + 1) - 1 = k0 + j - 1 + 1 by omega]; exact this

theorem zero2 (w : World) : (zeroValue 2).run Try.prog w = .ok (.int .i64 0) w := by kernel_rfl

/-- what Compact tells -/
def Comp (w : World) (g n : Nat) (zs : List Int) (e : Ending) (w' : World) : Prop :=
  ∃ m, e = .returned (.slice (some ⟨g, 0, none⟩) m n) ∧ Hid (m = (cpF zs n).length) ∧ m ≤ n ∧ Rd w' (· = g) (some ⟨g, 0, none⟩) (ic (cpF zs n)) ∧ w.grownBy w' (some g)

theorem comp_end {w wr : World} {g n k j k0 : Nat} {zs C : List Int} (hj : k0 + j = n) (hC : C.length = n) (h3 : k + 1 ≤ k0 + j) (h5 : C.take k = cpF zs (k0 + j)) (hb : Blk wr g 2 (ic C)) (hg : w.grownBy wr (some g)) (vs : List Value) :
    Comp w g n zs (.returned (.slice (some ⟨g, 0, none⟩) k n)) (wr.setCells g k vs) := by
  refine ⟨k, rfl, ?_, by omega, fun hn => ⟨_, rfl, rfl, fun i u hu => ?_⟩, only_trans hg (setCells_frame g vs k wr)⟩
  · show _ = _
    have := congrArg List.length h5
    rw [List.length_take, hj] at this
    omega
  · have hi : i < k := by
      have h1 := (List.getElem?_eq_some_iff.1 hu).1
      rw [ic_length, ← hj, ← h5, List.length_take] at h1; omega
    have e : (⟨g, 0, none⟩ : Addr).add i = ⟨g, i, none⟩ := by unfold Addr.add; split <;> simp_all
    rw [e, World.cell?_setCells_out g vs k wr ⟨g, i, none⟩ (fun _ _ => .inl hi), hb.cell, ← hu, ← hj, ← h5]
    simp [ic, hi]

theorem rd_blk0 {w : World} {g t : Nat} {l : List Value} (h : Blk w g t l) : Rd w (· = g) (some ⟨g, 0, none⟩) l := by
  simpa using h.rd (S := (· = g)) rfl 0

set_option maxHeartbeats 4000000 in
theorem compact_any (w : World) (g n : Nat) (zs : List Int) (hn : Hid (n = zs.length)) (hN : n ≤ 1000000) (hb : Blk w g 2 (ic zs)) :
    Calls Try.prog 35 #[.slice (some ⟨g, 0, none⟩) n n] w (Comp w g n zs) := by
  by_cases h2 : n < 2
  · have HF : Hid (cpF zs n = zs) := by
      show _ = _
      have hnn := hn.out
      match zs, hnn with
      | [], e => rw [e]; rfl
      | [x], e => rw [e]; rfl
      | _ :: _ :: _, e => rw [e] at h2; simp at h2; omega
    have HB := Lib.hid (rd_blk0 hb)
    clear hb
    go_enter Try.func35, Try.ntmps35
    go_wp2
    go_ret
    exact ⟨n, rfl, by show _ = _; rw [HF.out]; exact hn.out, Nat.le_refl _, by rw [HF.out]; exact HB.out, only_refl _ _⟩
  · have hd2 : decide ((n : Int) < 2) = false := by simp; omega
    have H0 := Lib.hid (show OutRel w g n zs (.int .i64 1) w from ⟨1, rfl, by omega, by omega, hb, by
      have h1 : 0 < zs.length := by rw [← hn.out]; omega
      rw [take_snocD zs 0 h1]
      unfold cpF
      rw [if_neg (by simp)]; simp [cpF], only_refl _ _⟩)
    clear hb
    go_enter Try.func35, Try.ntmps35
    go_wp2
    go_loopw [3] (fun v3 wr => OutRel w g n zs v3 wr) (fun v3 _ => n - (intOf v3).toNat)
    case atStart => exact H0.out
    case round =>
      obtain ⟨k, rfl, hk1, hk2, hb, hcp, hgr⟩ := hrel
      clear H0
      by_cases hlt : k < n
      · have hx0 := blk_int hb (i := k) (by rw [← hn.out]; exact hlt)
        have hx1 := blk_int hb (i := k - 1) (by rw [← hn.out]; omega)
        have HB := Lib.hid hb
        have HG := Lib.hid hgr
        have HCP := Lib.hid hcp
        obtain ⟨x, hx⟩ : ∃ x, x = zs.getD k 0 := ⟨_, rfl⟩
        obtain ⟨y, hy⟩ : ∃ y, y = zs.getD (k - 1) 0 := ⟨_, rfl⟩
        rw [← hx] at hx0
        rw [← hy] at hx1
        have HX := Lib.hid hx
        have HY := Lib.hid hy
        clear hb hgr hcp hx hy
        by_cases he : x = y
        · have hd : (x == y) = true := by simpa using he
          have HE := Lib.hid he
          clear he
          go_wp2
          have ew : IntKind.i64.wrap ((k : Int) - 1) = (k : Int) - 1 := IntWalk.i64_in _ (by omega)
          have et : ((k : Int) - 1).toNat = k - 1 := by omega
          have eb : (k : Int) - 1 < (n : Int) := by omega
          have ec : (1 : Int) ≤ (k : Int) := by omega
          have ed : (k : Int) < (n : Int) + 1 := by omega
          have ef : (0 : Int) ≤ (k : Int) - 1 := by omega
          have eg : (k : Int) < (n : Int) := by omega
          go_quiet (fail)
          clear ew et eb ec ed ef eg hx0 hx1
          have HI := Lib.hid (show InRel w g n k zs (.int .i64 k) (.int .i64 1) (wr.drewN nq) from
            ⟨k, 1, zs, rfl, rfl, by omega, by omega, hn.out.symm, by omega, hk1, by rw [cpF_dup (by omega) (by rw [← HX.out, ← HY.out]; exact HE.out)]; exact HCP.out.symm, rfl, HB.out, only_drewN HG.out nq⟩)
          clear HB HG HCP HX HY HE
          obtain ⟨wo, hwo⟩ : ∃ wo, wo = wr.drewN nq := ⟨_, rfl⟩
          rw [← hwo] at HI ⊢
          clear hwo
          clear hd
          go_wp2
          go_loopw [3, 5] (fun v3 v5 wr => InRel w g n k zs v3 v5 wr) (fun _ v5 _ => n - (intOf v5).toNat)
          case atStart => exact HI.out
          case round =>
            obtain ⟨m, j, C, rfl, rfl, hj1, hj2, hC, h3, h4, h5, h6, hbC, hgC⟩ := hrel
            clear HI
            by_cases hjl : k + j < n
            · have hy0 := blk_int hbC (i := k + j) (by omega)
              have hy1 := blk_int hbC (i := k + j - 1) (by omega)
              have ht0 := blk_int hbC (i := m) (by omega)
              have hf0 := hbC.frozen m
              rw [drop_getD h6 (by omega)] at hy0
              rw [drop_getD h6 (by omega)] at hy1
              rw [show k + j - 1 = k + (j - 1) by omega] at hy1
              obtain ⟨a, ha⟩ : ∃ a, a = zs.getD (k + j) 0 := ⟨_, rfl⟩
              obtain ⟨b, hb⟩ : ∃ b, b = zs.getD (k + (j - 1)) 0 := ⟨_, rfl⟩
              obtain ⟨u, hu⟩ : ∃ u, u = C.getD m 0 := ⟨_, rfl⟩
              rw [← ha] at hy0
              rw [← hb] at hy1
              rw [← hu] at ht0
              have hbb : b = zs.getD (k + j - 1) 0 := by rw [hb]; congr 1; omega
              have hjn : (j : Int) < ((n - k : Nat) : Int) := by omega
              by_cases hab : a = b
              · have HR := Lib.hid (fun q => in_same (w := w) (n := n) hj1 hjl hk1 hC h3 h4 h5 h6 hbC hgC (by rw [← ha, ← hbb]; exact hab) q)
                have hd : (a != b) = false := by simpa using hab
                clear hC h3 h4 h5 h6 hbC hgC ha hb hu hab hbb
                go_wp2
                have ew : IntKind.i64.wrap ((j : Int) - 1) = (j : Int) - 1 := IntWalk.i64_in _ (by omega)
                have et : ((j : Int) - 1).toNat = j - 1 := by omega
                have eb : (j : Int) - 1 < ((n - k : Nat) : Int) := by omega
                have ec : (1 : Int) ≤ (j : Int) := by omega
                have ed : (j : Int) < ((n - k : Nat) : Int) + 1 := by omega
                have ef : (0 : Int) ≤ (j : Int) - 1 := by omega
                have eg : (j : Int) < ((n - k : Nat) : Int) := by omega
                go_quiet (fail)
                clear ew et eb ec ed ef eg
                go_wp2
                go_roundw
                case rel => exact HR.out _
                case measure => simp [intOf]; omega
              · have HR := Lib.hid (fun q => in_new (w := w) (n := n) hj1 hjl hk1 hC h3 h4 h5 h6 hbC hgC (by rw [← ha, ← hbb]; exact hab) q)
                rw [← ha] at HR
                have hd : (a != b) = true := by simpa using hab
                have hmn : m < n := by omega
                clear hC h3 h4 h5 h6 hbC hgC ha hb hu hab hbb
                go_wp2
                have ew : IntKind.i64.wrap ((j : Int) - 1) = (j : Int) - 1 := IntWalk.i64_in _ (by omega)
                have et : ((j : Int) - 1).toNat = j - 1 := by omega
                have eb : (j : Int) - 1 < ((n - k : Nat) : Int) := by omega
                have ec : (1 : Int) ≤ (j : Int) := by omega
                have ed : (j : Int) < ((n - k : Nat) : Int) + 1 := by omega
                have ef : (0 : Int) ≤ (j : Int) - 1 := by omega
                have eg : (j : Int) < ((n - k : Nat) : Int) := by omega
                go_quiet (fail)
                clear ew et eb ec ed ef eg
                go_wp2
                go_roundw
                case rel => exact HR.out _
                case measure => simp [intOf]; omega
            · have hmn : m < n := by omega
              have hcl : ∀ ty, (Builtin.clear_ #[31] ty #[.slice (some ⟨g, m, none⟩) (n - m) (n - m)]).run Try.prog wr = .ok (.tuple #[]) (wr.setCells g m (List.replicate (n - m) (.int .i64 0))) :=
                fun ty => Lib.run_clear_slice wr _ 2 ty (.int .i64 0) Try.underlying31 zero2 rfl rfl g m (n - m) (n - m) (by omega) (fun i hi => by rw [blk_int hbC (by omega)]; rfl) (fun i _ => hbC.frozen _)
              have HZ := Lib.hid (comp_end (w := w) (n := n) (j := j) (k0 := k) (by omega) hC h3 h5 hbC hgC (List.replicate (n - m) (.int .i64 0)))
              clear hC h3 h4 h5 h6 hbC hgC
              go_wp2
              go_ret
              exact HZ.out
        · have hd : (x == y) = false := by simpa using he
          have HR := Lib.hid (fun q => (show OutRel w g n zs (.int .i64 ((k : Int) + 1)) (wr.drewN q) from
            ⟨k + 1, by simp, by omega, by omega, HB.out, by rw [cpF_new (by rw [← HX.out, ← HY.out]; exact he), take_snocD zs k (by rw [← hn.out]; exact hlt), HCP.out], only_drewN HG.out q⟩))
          clear he
          go_wp2
          have ew : IntKind.i64.wrap ((k : Int) - 1) = (k : Int) - 1 := IntWalk.i64_in _ (by omega)
          have et : ((k : Int) - 1).toNat = k - 1 := by omega
          have eb : (k : Int) - 1 < (n : Int) := by omega
          have ec : (1 : Int) ≤ (k : Int) := by omega
          have ed : (k : Int) < (n : Int) + 1 := by omega
          have ef : (0 : Int) ≤ (k : Int) - 1 := by omega
          have eg : (k : Int) < (n : Int) := by omega
          go_quiet (fail)
          clear ew et eb ec ed ef eg
          go_wp2
          go_roundw
          case rel => exact HR.out _
          case measure => simp [intOf]; omega
      · have hkn : k = n := by omega
        have HZ := Lib.hid (show Comp w g n zs (.returned (.slice (some ⟨g, 0, none⟩) n n)) wr from by
          have e : cpF zs n = zs := by rw [← hkn, hcp, hkn, hn.out, List.take_length]
          exact ⟨n, rfl, by show _ = _; rw [e]; exact hn.out, Nat.le_refl _, by rw [e]; exact rd_blk0 hb, hgr⟩)
        clear hb hcp hgr hkn
        go_wp2
        go_ret
        exact HZ.out
/-- the numbers, sorted -/
def sv (zs : List Int) : List Int := (srt (kz zs)).map (·.1)
theorem sv_length (zs : List Int) : (sv zs).length = zs.length := by simp [sv, srt_length, kz_length]
/-- the numbers, rising, each once -/
def uq (zs : List Int) : List Int := cpF (sv zs) zs.length

set_option maxHeartbeats 2000000 in
theorem uniq_any (w : World) (A : Option Addr) (n c : Nat) (zs : List Int) (hn : Hid (n = zs.length)) (hN : n ≤ 1000000) (hc : n ≤ c) (hx : Rd w (· < w.heap.size) A (ic zs)) :
    Calls Try.prog 18 #[.slice A n c] w (IntsNew w (uq zs)) := by
  obtain ⟨l, hl, hmk⟩ := mk_i64 n hN
  have hx' : Rd (w.alloc (.cells l.toArray 2)) (· < (w.alloc (.cells l.toArray 2)).heap.size) A (ic zs) := (hx.keep fun b hb => Below.heap_alloc w _ b hb).more (S' := (· < (w.alloc (.cells l.toArray 2)).heap.size)) fun b hb => by
    have : (w.alloc (.cells l.toArray 2)).heap.size = w.heap.size + 1 := by simp
    omega
  have HK := Lib.hid (keys_any (w.alloc (.cells l.toArray 2)) A n c zs hn hN hx')
  have HL := Lib.hid hl
  clear hx hx' hl
  go_enter Try.func18, Try.ntmps18
  go_wp2_with (first
    | (go_at_call 31; refine HK.out.mono ?_; rintro e w1 ⟨A1, n1, c1, rfl, hn1, hc1, hr1, hb1⟩)
    | (go_at_call 19; refine (sorted_any w1 A1 n1 c1 (kz zs) hn1 (by have := hn1.out; have := hn.out; rw [kz_length] at *; omega) hr1.old hc1).mono ?_; rintro e w2 ⟨A2, n2, c2, rfl, hn2, hc2, hr2, hb2⟩))
  have hnn : n2 = n := by rw [hn2.out, srt_length, kz_length, hn.out]
  subst hnn
  have hW : (w.alloc (.cells l.toArray 2)).heap.size = w.heap.size + 1 := by simp
  have hgt : w.heap.size < w2.heap.size := by have := hb1.size; have := hb2.size; omega
  have hb0 : Below w.heap.size w w2 := (((Below.refl _ _).alloc (Nat.le_refl _) _).trans (hb1.mono (by omega))).trans (hb2.mono (by have := hb1.size; omega))
  have H0 := Lib.hid (show PermRel w w2 2 n2 (sv zs) (.int .i64 ((0 : Nat) : Int)) w2 from
    ⟨0, l, rfl, by omega, by have := HL.out; omega, by
      have h := ((Blk.new w 2 l).below hb1 (by omega)).below hb2 (by have := hb1.size; omega)
      simpa [ic] using h, only_refl _ _⟩)
  have hr3 : Rd w2 (fun b => b < w2.heap.size ∧ b ≠ w.heap.size) A2 (kc (srt (kz zs))) := hr2.more fun b hb => ⟨hb.2, by have := hb1.size; omega⟩
  have HR3 := Lib.hid hr3
  have HB0 := Lib.hid hb0
  clear hb1 hb2 hr1 hr2 hr3 hb0 hW
  go_loopw [13] (fun v13 wr => PermRel w w2 2 n2 (sv zs) v13 wr) (fun v _ => n2 - (intOf v).toNat)
  case atStart => exact H0.out
  case round =>
    obtain ⟨k, rest, rfl, hk, hr, hb, hgr⟩ := hrel
    clear H0
    by_cases hlt : k < n2
    · obtain ⟨ad, rfl, hS, hcell⟩ := (grown_rd HR3.out (fun b hb => hb) hgr).key2 (k := k) (by rw [← hn2.out]; exact hlt)
      obtain ⟨hx0, hx1⟩ := hcell k (by rw [← hn2.out]; exact hlt)
      have hkm : k < (sv zs).length := by rw [sv_length, ← hn.out]; exact hlt
      obtain ⟨u, rest', hr', ht0, hf0, hset⟩ := blk_one (done := (sv zs).take k) (n := n2) hb (by simp; omega) hr hlt
      have hbl := hb.lt
      obtain ⟨p, hp⟩ : ∃ p, p = (srt (kz zs)).getD k (0, 0) := ⟨_, rfl⟩
      rw [← hp] at hx0 hx1
      have HR := Lib.hid (fun o => (show PermRel w w2 2 n2 (sv zs) (.int .i64 ((k + 1 : Nat) : Int)) ((wr.setCell ⟨w.heap.size, k, none⟩ (.int .i64 p.1)).alloc o) from
        ⟨k + 1, rest', rfl, by omega, hr', by
          have e : (sv zs).take (k + 1) = (sv zs).take k ++ [p.1] := by
            rw [List.take_succ_eq_append_getElem hkm]
            congr 2
            have hk2 : k < (srt (kz zs)).length := by simpa [sv] using hkm
            simp [sv, hp, List.getD_eq_getElem?_getD, List.getElem?_eq_getElem hk2]
          rw [e]
          exact (hset wr p.1 hb).alloc o, only_alloc (only_setCell hgr (.inl rfl) _) o⟩))
      clear hcell hr hb hset hr' hgr hp hkm
      go_wp2
      go_roundw
      case rel => exact HR.out _
      case measure => simp [intOf]; omega
    · have hkn : k = n2 := by omega
      have hr0 : rest = [] := List.eq_nil_of_length_eq_zero (by omega)
      have HB := Lib.hid (show Blk wr w.heap.size 2 (ic (sv zs)) from by
        have e : (sv zs).take k = sv zs := List.take_of_length_le (by rw [sv_length, ← hn.out]; omega)
        rw [e] at hb; simpa [hr0] using hb)
      have HE := Lib.hid (show Below w.heap.size w wr from below_grown HB0.out hgr (by omega) (Nat.le_refl _))
      have HC := Lib.hid (compact_any wr w.heap.size n2 (sv zs) (by show _ = _; rw [sv_length]; exact hn.out) hN HB.out)
      have hlw := HB.out.lt
      clear hr hb hgr hkn hr0
      go_wp2_with (go_at_call 35; refine HC.out.mono ?_; rintro e w3 ⟨m, rfl, hm, hmn, hrd, hg3⟩)
      go_ret
      have hs3 := hg3.size
      refine ⟨_, _, _, rfl, ?_, hmn, ?_, below_grown HE.out hg3 (by omega) (Nat.le_refl _)⟩
      · show _ = _
        rw [hm.out, hn.out]; rfl
      · rw [hn.out] at hrd
        exact hrd.more fun b hb => by subst hb; exact ⟨Nat.le_refl _, by omega⟩
end Go.Proofs.Ytcjpimocbgeheaa.Od
