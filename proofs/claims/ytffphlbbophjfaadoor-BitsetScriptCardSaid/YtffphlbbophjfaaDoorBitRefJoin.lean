/- The document's answers for two sets: Same, Or, And, Minus. -/
import Derived.Test.YtffphlbbophjfaaDoorBitRefLoop
import Derived.Test.YtffphlbbophjfaaDoorBitRulesMath
namespace Go.Proofs.YtffphlbbophjfaaDoor.Bs
open Go.ChangeShapes Go.WideShapes Go.ChangeAt Go.RowKit
set_option linter.unusedVariables false

/- Same -/
theorem rsame_width {w : World} {X h Y h2 n m : Nat} {f f2 : Fs} (r : RefAt w X h n f) (s : RefAt w Y h2 m f2) (hne : n ≠ m) :
    Calls Tryd.prog 37 #[.pointer (some ⟨X, 0, none⟩), .pointer (some ⟨Y, 0, none⟩)] w (BoolPost w false) := by
  obtain ⟨A, c, c0, -⟩ := r.head
  obtain ⟨A2, c2, d0, -⟩ := s.head
  have e1 : ((n : Int) != (m : Int)) = true := by simp; omega
  clear r s hne
  go_enter Tryd.func37, Tryd.ntmps37
  go_wp2
  go_quiet (fail)
  go_wp2
  go_ret
  exact ⟨rfl, below_drewN (Below.refl _ _) _⟩
set_option maxHeartbeats 2000000 in
theorem rsame_any {w : World} {X h Y h2 n m : Nat} {f f2 : Fs} (r : RefAt w X h n f) (s : RefAt w Y h2 m f2) (q : Bool) (hq : q = (decide (n = m) && same f f2 n)) :
    Calls Tryd.prog 37 #[.pointer (some ⟨X, 0, none⟩), .pointer (some ⟨Y, 0, none⟩)] w (BoolPost w q) := by
  by_cases hnm : n = m
  · subst hnm
    rw [decide_eq_true rfl, Bool.true_and] at hq
    have HQ := Lib.hid hq
    have HR := Lib.hid r
    have HS := Lib.hid s
    have hn := r.width
    obtain ⟨A, c, c0, -⟩ := r.head
    obtain ⟨A2, c2, d0, -⟩ := s.head
    have e1 : ((n : Int) != (n : Int)) = false := by simp
    have HI : Hid (∀ m, ∃ k : Nat, (Value.int .i64 0) = .int .i64 k ∧ k ≤ n ∧ Hid ((∀ i, i < k → f i = f2 i) ∧ Below w.heap.size w (w.drewN m))) := Lib.hid fun m => ⟨0, rfl, by omega, Lib.hid ⟨fun i hi => by omega, below_drewN (Below.refl _ _) m⟩⟩
    clear r s hq
    go_enter Tryd.func37, Tryd.ntmps37
    go_wp2
    go_quiet (fail)
    clear c0 d0
    go_wp2
    go_loopw [5] (fun v wr => ∃ k : Nat, v = .int .i64 k ∧ k ≤ n ∧ Hid ((∀ i, i < k → f i = f2 i) ∧ Below w.heap.size w wr)) (fun v _ => n - (intOf v).toNat)
    case atStart => exact HI.out _
    case round =>
      obtain ⟨k, rfl, hk, hst⟩ := hrel
      clear HI
      obtain ⟨A, c, c0, hc⟩ := (HR.out.after hst.out.2).head
      obtain ⟨A2, c2, d0, hd⟩ := (HS.out.after hst.out.2).head
      by_cases hlt : k < n
      · obtain ⟨ad, rfl, c1⟩ := hc k hlt
        obtain ⟨bd, rfl, d1⟩ := hd k hlt
        have hi : (k : Int) < (n : Int) := by omega
        by_cases hx : f k = f2 k
        · obtain ⟨b, hb⟩ : ∃ b, b = f2 k := ⟨_, rfl⟩
          rw [hx, ← hb] at c1
          rw [← hb] at d1
          have HN : Hid (∀ m, ∃ k2 : Nat, (Value.int .i64 ((k : Int) + 1)) = .int .i64 k2 ∧ k2 ≤ n ∧ Hid ((∀ i, i < k2 → f i = f2 i) ∧ Below w.heap.size w (wr.drewN m))) := Lib.hid fun m =>
            ⟨k + 1, by simp, by omega, Lib.hid ⟨fun i hi => by
              by_cases e : i = k
              · subst e; exact hx
              · exact hst.out.1 i (by omega), below_drewN hst.out.2 m⟩⟩
          clear hx hb hc hd hst
          go_wp2
          go_quiet (fail)
          go_wp2
          go_roundw
          case rel => exact HN.out _
          case measure => simp [intOf]; omega
        · have HF : Hid (q = false) := by
            show _ = _
            cases q with
            | false => rfl
            | true => exact absurd ((same_iff f f2 n).1 HQ.out.symm k hlt) hx
          obtain ⟨a, ha⟩ : ∃ a, a = f k := ⟨_, rfl⟩
          obtain ⟨b, hb⟩ : ∃ b, b = f2 k := ⟨_, rfl⟩
          rw [← ha] at c1
          rw [← hb] at d1
          have hab : (a = true ∧ b = false) ∨ (a = false ∧ b = true) := by
            have : a ≠ b := by rw [ha, hb]; exact hx
            cases a <;> cases b <;> simp at this ⊢
          have HB := Lib.hid hst.out.2
          clear hx ha hb hc hd hst
          rcases hab with ⟨rfl, rfl⟩ | ⟨rfl, rfl⟩
          all_goals
            go_wp2
            go_quiet (fail)
            go_wp2
            go_ret
            exact ⟨ret_b HF.out, below_drewN HB.out _⟩
      · have HT : Hid (q = true) := Lib.hid (by rw [HQ.out]; exact (same_iff f f2 n).2 fun i hi => hst.out.1 i (by omega))
        have HB := Lib.hid hst.out.2
        clear hc hd hst
        go_wp2
        go_ret
        exact ⟨ret_b HT.out, HB.out⟩
  · rw [hq, decide_eq_false hnm, Bool.false_and]
    exact rsame_width r s hnm
/- joins -/
/-- the first k are joined -/
def jf (f r : Fs) (k : Nat) : Fs := fun i => if i < k then r i else f i
def RJRel (w : World) (X h n c : Nat) (A : Option Addr) (f r : Fs) (rest : List Value) (v : Value) (wr : World) : Prop :=
  ∃ k : Nat, v = .int .i64 k ∧ k ≤ n ∧ Hid ((0 < n → Blk wr h 4 (bc (jf f r k) n ++ rest)) ∧ Wr 4 h w wr)
theorem jf_step (f r : Fs) (n k : Nat) (hk : k < n) (rest : List Value) : (bc (jf f r k) n ++ rest).set k (.bool (r k)) = bc (jf f r (k + 1)) n ++ rest :=
  bc_set _ _ n k rest (r k) hk fun i _ => by
    unfold jf
    by_cases e : i = k
    · subst e; rw [if_pos (by omega), if_pos rfl]
    · rw [if_neg e]
      by_cases e2 : i < k
      · rw [if_pos (by omega), if_pos e2]
      · rw [if_neg (by omega), if_neg e2]
theorem jf_all (f r : Fs) (n : Nat) (hf : Wd n f) (hr : Wd n r) : jf f r n = r := by
  funext i; unfold jf
  by_cases e : i < n
  · rw [if_pos e]
  · rw [if_neg e, hf i (by omega), hr i (by omega)]
theorem jf_zero (f r : Fs) : jf f r 0 = f := by funext i; simp [jf]
/-- the end of a join -/
theorem jf_done {w wr : World} {X h n c : Nat} {A : Option Addr} {f r : Fs} {rest : List Value} (hn : n ≤ 1048576) (hlt : h < w.heap.size) (hf : Wd n f) (hr : Wd n r) (hc : n ≤ c) (ho : Blk w X 50 [.slice A n c]) (hA : 0 < n → A = some ⟨h, 0, none⟩)
    (hb : 0 < n → Blk wr h 4 (bc (jf f r n) n ++ rest)) (hw : Wr 4 h w wr) : RefAt wr X h n r :=
  ⟨hn, Nat.lt_of_lt_of_le hlt hw.size, hr, A, c, rest, hc, hw.blk ho (.inr (by decide)), fun h0 => ⟨hA h0, by have := hb h0; rwa [jf_all f r n hf hr] at this⟩⟩
def RJPost (w : World) (X h n : Nat) (e : Int) (f' : Fs) (r : Ending) (w' : World) : Prop := r = .returned (.int .i64 e) ∧ RefAt w' X h n f' ∧ Wr 4 h w w'

def JErr2 (w : World) (e : Int) (r : Ending) (w' : World) : Prop := r = .returned (.int .i64 e) ∧ Below w.heap.size w w'
theorem ror_width {w : World} {X h Y h2 n m : Nat} {f f2 : Fs} (r : RefAt w X h n f) (s : RefAt w Y h2 m f2) (hne : n ≠ m) :
    Calls Tryd.prog 22 #[.pointer (some ⟨X, 0, none⟩), .pointer (some ⟨Y, 0, none⟩)] w (JErr2 w 2) := by
  obtain ⟨A, c, c0, -⟩ := r.head
  obtain ⟨A2, c2, d0, -⟩ := s.head
  have e1 : ((n : Int) != (m : Int)) = true := by simp; omega
  clear r s hne
  go_enter Tryd.func22, Tryd.ntmps22
  go_wp2
  go_quiet (fail)
  go_wp2
  go_ret
  exact ⟨rfl, below_drewN (Below.refl _ _) _⟩
set_option maxHeartbeats 4000000 in
theorem ror_same {w : World} {X h Y h2 n : Nat} {f f2 : Fs} (r : RefAt w X h n f) (s : RefAt w Y h2 n f2) (hne : h ≠ h2) :
    Calls Tryd.prog 22 #[.pointer (some ⟨X, 0, none⟩), .pointer (some ⟨Y, 0, none⟩)] w (RJPost w X h n 0 (fOr f f2)) := by
  have hwd : Wd n (fOr f f2) := fun i hi => by simp [fOr, r.wd i hi, s.wd i hi]
  obtain ⟨A, c, rest, h1, ho, h3⟩ := r.obj
  obtain ⟨A2, c2, rest2, k1, ko, k3⟩ := s.obj
  have c0 : w.cell? ⟨X, 0, none⟩ = some (.slice A n c) := by simpa using ho.cell 0
  have d0 : w.cell? ⟨Y, 0, none⟩ = some (.slice A2 n c2) := by simpa using ko.cell 0
  have hn := r.width
  have e1 : ((n : Int) != (n : Int)) = false := by simp
  obtain ⟨R, hR⟩ : ∃ R, R = fOr f f2 := ⟨_, rfl⟩
  have HI : Hid (∀ q, RJRel w X h n c A f R rest (.int .i64 0) (w.drewN q)) := Lib.hid fun q => ⟨0, rfl, by omega, Lib.hid ⟨fun h0 => by rw [jf_zero]; exact (h3 h0).2, .ofBelow (below_drewN (Below.refl _ _) q)⟩⟩
  have HD : Hid (∀ wr, (0 < n → Blk wr h 4 (bc (jf f R n) n ++ rest)) → Wr 4 h w wr → RefAt wr X h n R) := Lib.hid fun wr hb hw => jf_done hn r.lt r.wd (by rw [hR]; exact hwd) h1 ho (fun h0 => (h3 h0).1) hb hw
  have HO := Lib.hid ho
  have HK := Lib.hid ko
  have H3 := Lib.hid h3
  have K3 := Lib.hid k3
  have HRE := Lib.hid hR
  rw [← hR]
  clear r s h1 ho h3 k1 ko k3 hwd hR
  go_enter Tryd.func22, Tryd.ntmps22
  go_wp2
  go_quiet (fail)
  clear c0 d0
  go_wp2
  go_loopw [5] (fun v wr => RJRel w X h n c A f R rest v wr) (fun v _ => n - (intOf v).toNat)
  case atStart => exact HI.out _
  case round =>
    obtain ⟨k, rfl, hk, hst⟩ := hrel
    clear HI
    have c0 : wr.cell? ⟨X, 0, none⟩ = some (.slice A n c) := by simpa using (hst.out.2.blk HO.out (.inr (by decide))).cell 0
    have d0 : wr.cell? ⟨Y, 0, none⟩ = some (.slice A2 n c2) := by simpa using (hst.out.2.blk HK.out (.inr (by decide))).cell 0
    by_cases hlt : k < n
    · obtain ⟨rfl, hb0⟩ := H3.out (by omega)
      obtain ⟨rfl, kb0⟩ := K3.out (by omega)
      have hb := hst.out.1 (by omega)
      have kb := hst.out.2.blk kb0 (.inl (fun e => hne e.symm))
      have hi : (k : Int) < (n : Int) := by omega
      have c1 : wr.cell? ⟨h, k, none⟩ = some (.bool (f k)) := by rw [hb.cell, bc_at _ _ _ _ hlt]; simp [jf]
      have d1 : wr.cell? ⟨h2, k, none⟩ = some (.bool (f2 k)) := by rw [kb.cell, bc_at _ _ _ _ hlt]
      have fz : wr.frozen? ⟨h, k, none⟩ = false := hb.frozen _
      have HN : Hid (∀ q, RJRel w X h n c (some ⟨h, 0, none⟩) f R rest (.int .i64 ((k : Int) + 1)) ((wr.drewN q).setCell ⟨h, k, none⟩ (.bool (R k)))) := Lib.hid fun q => by
        refine ⟨k + 1, by simp, by omega, Lib.hid ⟨fun h0 => ?_, (hst.out.2.then_ (below_drewN (Below.refl _ _) q)).set_ hb0 k _⟩⟩
        rw [← jf_step f R n k hlt rest]
        exact Blk.set_ (w := wr.drewN q) hb k _
      have HRK : R k = fOr f f2 k := by rw [HRE.out]
      clear hb hb0 kb kb0 hst
      cases hf : f k <;> cases hg : f2 k
      · have e2 : R k = false := by rw [HRK]; simp [fOr, hf, hg]
        rw [hf] at c1
        rw [hg] at d1
        rw [e2] at HN
        clear HRK hf hg e2
        go_wp2
        refine wp_region_still_tail 22 (by kernel_rfl) (by kernel_rfl) ?_
        simp only [List.take_succ_cons, List.take_zero, List.drop_succ_cons, List.drop_zero]
        iterate 22 still_step
        refine wpStill_nil ?_
        change wpList _ _ _ _ _ (wr.drewN 1)
        go_wp2
        go_roundw
        case rel => exact HN.out 1
        case measure => simp [intOf]; omega
      · have e2 : R k = true := by rw [HRK]; simp [fOr, hf, hg]
        rw [hf] at c1
        rw [hg] at d1
        rw [e2] at HN
        clear HRK hf hg e2
        go_wp2
        refine wp_region_still_tail 22 (by kernel_rfl) (by kernel_rfl) ?_
        simp only [List.take_succ_cons, List.take_zero, List.drop_succ_cons, List.drop_zero]
        iterate 22 still_step
        refine wpStill_nil ?_
        change wpList _ _ _ _ _ (wr.drewN 1)
        go_wp2
        go_roundw
        case rel => exact HN.out 1
        case measure => simp [intOf]; omega
      · have e2 : R k = true := by rw [HRK]; simp [fOr, hf]
        rw [hf] at c1
        rw [hg] at d1
        rw [e2] at HN
        clear HRK hf hg e2
        go_wp2
        go_region
        all_goals go_wp2
        go_roundw
        case rel => exact HN.out _
        case measure => simp [intOf]; omega
      · have e2 : R k = true := by rw [HRK]; simp [fOr, hf]
        rw [hf] at c1
        rw [hg] at d1
        rw [e2] at HN
        clear HRK hf hg e2
        go_wp2
        go_region
        all_goals go_wp2
        go_roundw
        case rel => exact HN.out _
        case measure => simp [intOf]; omega
    · have hkn : n = k := by omega
      subst hkn
      have HE : Hid (RefAt wr X h n R) := Lib.hid (HD.out wr hst.out.1 hst.out.2)
      have HW := Lib.hid hst.out.2
      clear hst HD
      go_wp2
      go_ret
      exact ⟨rfl, HE.out, HW.out⟩
theorem ror_any {w : World} {X h Y h2 n m : Nat} {f f2 : Fs} (r : RefAt w X h n f) (s : RefAt w Y h2 m f2) (hne : h ≠ h2) (e : Int) (f' : Fs) (he : e = if n = m then 0 else 2) (hf : f' = if n = m then fOr f f2 else f) :
    Calls Tryd.prog 22 #[.pointer (some ⟨X, 0, none⟩), .pointer (some ⟨Y, 0, none⟩)] w (RJPost w X h n e f') := by
  by_cases hnm : n = m
  · subst hnm
    rw [if_pos rfl] at he hf
    subst he; subst hf
    exact ror_same r s hne
  · rw [if_neg hnm] at he hf
    subst he; subst hf
    refine (ror_width r s hnm).mono ?_
    rintro e w' ⟨rfl, hb⟩
    exact ⟨rfl, r.after hb, .ofBelow hb⟩
theorem rand_width {w : World} {X h Y h2 n m : Nat} {f f2 : Fs} (r : RefAt w X h n f) (s : RefAt w Y h2 m f2) (hne : n ≠ m) :
    Calls Tryd.prog 24 #[.pointer (some ⟨X, 0, none⟩), .pointer (some ⟨Y, 0, none⟩)] w (JErr2 w 2) := by
  obtain ⟨A, c, c0, -⟩ := r.head
  obtain ⟨A2, c2, d0, -⟩ := s.head
  have e1 : ((n : Int) != (m : Int)) = true := by simp; omega
  clear r s hne
  go_enter Tryd.func24, Tryd.ntmps24
  go_wp2
  go_quiet (fail)
  go_wp2
  go_ret
  exact ⟨rfl, below_drewN (Below.refl _ _) _⟩
set_option maxHeartbeats 4000000 in
theorem rand_same {w : World} {X h Y h2 n : Nat} {f f2 : Fs} (r : RefAt w X h n f) (s : RefAt w Y h2 n f2) (hne : h ≠ h2) :
    Calls Tryd.prog 24 #[.pointer (some ⟨X, 0, none⟩), .pointer (some ⟨Y, 0, none⟩)] w (RJPost w X h n 0 (fAnd f f2)) := by
  have hwd : Wd n (fAnd f f2) := fun i hi => by simp [fAnd, r.wd i hi, s.wd i hi]
  obtain ⟨A, c, rest, h1, ho, h3⟩ := r.obj
  obtain ⟨A2, c2, rest2, k1, ko, k3⟩ := s.obj
  have c0 : w.cell? ⟨X, 0, none⟩ = some (.slice A n c) := by simpa using ho.cell 0
  have d0 : w.cell? ⟨Y, 0, none⟩ = some (.slice A2 n c2) := by simpa using ko.cell 0
  have hn := r.width
  have e1 : ((n : Int) != (n : Int)) = false := by simp
  obtain ⟨R, hR⟩ : ∃ R, R = fAnd f f2 := ⟨_, rfl⟩
  have HI : Hid (∀ q, RJRel w X h n c A f R rest (.int .i64 0) (w.drewN q)) := Lib.hid fun q => ⟨0, rfl, by omega, Lib.hid ⟨fun h0 => by rw [jf_zero]; exact (h3 h0).2, .ofBelow (below_drewN (Below.refl _ _) q)⟩⟩
  have HD : Hid (∀ wr, (0 < n → Blk wr h 4 (bc (jf f R n) n ++ rest)) → Wr 4 h w wr → RefAt wr X h n R) := Lib.hid fun wr hb hw => jf_done hn r.lt r.wd (by rw [hR]; exact hwd) h1 ho (fun h0 => (h3 h0).1) hb hw
  have HO := Lib.hid ho
  have HK := Lib.hid ko
  have H3 := Lib.hid h3
  have K3 := Lib.hid k3
  have HRE := Lib.hid hR
  rw [← hR]
  clear r s h1 ho h3 k1 ko k3 hwd hR
  go_enter Tryd.func24, Tryd.ntmps24
  go_wp2
  go_quiet (fail)
  clear c0 d0
  go_wp2
  go_loopw [5] (fun v wr => RJRel w X h n c A f R rest v wr) (fun v _ => n - (intOf v).toNat)
  case atStart => exact HI.out _
  case round =>
    obtain ⟨k, rfl, hk, hst⟩ := hrel
    clear HI
    have c0 : wr.cell? ⟨X, 0, none⟩ = some (.slice A n c) := by simpa using (hst.out.2.blk HO.out (.inr (by decide))).cell 0
    have d0 : wr.cell? ⟨Y, 0, none⟩ = some (.slice A2 n c2) := by simpa using (hst.out.2.blk HK.out (.inr (by decide))).cell 0
    by_cases hlt : k < n
    · obtain ⟨rfl, hb0⟩ := H3.out (by omega)
      obtain ⟨rfl, kb0⟩ := K3.out (by omega)
      have hb := hst.out.1 (by omega)
      have kb := hst.out.2.blk kb0 (.inl (fun e => hne e.symm))
      have hi : (k : Int) < (n : Int) := by omega
      have c1 : wr.cell? ⟨h, k, none⟩ = some (.bool (f k)) := by rw [hb.cell, bc_at _ _ _ _ hlt]; simp [jf]
      have d1 : wr.cell? ⟨h2, k, none⟩ = some (.bool (f2 k)) := by rw [kb.cell, bc_at _ _ _ _ hlt]
      have fz : wr.frozen? ⟨h, k, none⟩ = false := hb.frozen _
      have HN : Hid (∀ q, RJRel w X h n c (some ⟨h, 0, none⟩) f R rest (.int .i64 ((k : Int) + 1)) ((wr.drewN q).setCell ⟨h, k, none⟩ (.bool (R k)))) := Lib.hid fun q => by
        refine ⟨k + 1, by simp, by omega, Lib.hid ⟨fun h0 => ?_, (hst.out.2.then_ (below_drewN (Below.refl _ _) q)).set_ hb0 k _⟩⟩
        rw [← jf_step f R n k hlt rest]
        exact Blk.set_ (w := wr.drewN q) hb k _
      have HRK : R k = fAnd f f2 k := by rw [HRE.out]
      clear hb hb0 kb kb0 hst
      cases hf : f k <;> cases hg : f2 k
      · have e2 : R k = false := by rw [HRK]; simp [fAnd, hf]
        rw [hf] at c1
        rw [hg] at d1
        rw [e2] at HN
        clear HRK hf hg e2
        go_wp2
        go_region
        all_goals go_wp2
        go_roundw
        case rel => exact HN.out _
        case measure => simp [intOf]; omega
      · have e2 : R k = false := by rw [HRK]; simp [fAnd, hf]
        rw [hf] at c1
        rw [hg] at d1
        rw [e2] at HN
        clear HRK hf hg e2
        go_wp2
        go_region
        all_goals go_wp2
        go_roundw
        case rel => exact HN.out _
        case measure => simp [intOf]; omega
      · have e2 : R k = false := by rw [HRK]; simp [fAnd, hf, hg]
        rw [hf] at c1
        rw [hg] at d1
        rw [e2] at HN
        clear HRK hf hg e2
        go_wp2
        refine wp_region_still_tail 22 (by kernel_rfl) (by kernel_rfl) ?_
        simp only [List.take_succ_cons, List.take_zero, List.drop_succ_cons, List.drop_zero]
        iterate 22 still_step
        refine wpStill_nil ?_
        change wpList _ _ _ _ _ (wr.drewN 1)
        go_wp2
        go_roundw
        case rel => exact HN.out 1
        case measure => simp [intOf]; omega
      · have e2 : R k = true := by rw [HRK]; simp [fAnd, hf, hg]
        rw [hf] at c1
        rw [hg] at d1
        rw [e2] at HN
        clear HRK hf hg e2
        go_wp2
        refine wp_region_still_tail 22 (by kernel_rfl) (by kernel_rfl) ?_
        simp only [List.take_succ_cons, List.take_zero, List.drop_succ_cons, List.drop_zero]
        iterate 22 still_step
        refine wpStill_nil ?_
        change wpList _ _ _ _ _ (wr.drewN 1)
        go_wp2
        go_roundw
        case rel => exact HN.out 1
        case measure => simp [intOf]; omega
    · have hkn : n = k := by omega
      subst hkn
      have HE : Hid (RefAt wr X h n R) := Lib.hid (HD.out wr hst.out.1 hst.out.2)
      have HW := Lib.hid hst.out.2
      clear hst HD
      go_wp2
      go_ret
      exact ⟨rfl, HE.out, HW.out⟩
theorem rand_any {w : World} {X h Y h2 n m : Nat} {f f2 : Fs} (r : RefAt w X h n f) (s : RefAt w Y h2 m f2) (hne : h ≠ h2) (e : Int) (f' : Fs) (he : e = if n = m then 0 else 2) (hf : f' = if n = m then fAnd f f2 else f) :
    Calls Tryd.prog 24 #[.pointer (some ⟨X, 0, none⟩), .pointer (some ⟨Y, 0, none⟩)] w (RJPost w X h n e f') := by
  by_cases hnm : n = m
  · subst hnm
    rw [if_pos rfl] at he hf
    subst he; subst hf
    exact rand_same r s hne
  · rw [if_neg hnm] at he hf
    subst he; subst hf
    refine (rand_width r s hnm).mono ?_
    rintro e w' ⟨rfl, hb⟩
    exact ⟨rfl, r.after hb, .ofBelow hb⟩
theorem Wr.from_ {t : TypeId} {g : Nat} {w w1 w2 : World} (hb : Below w.heap.size w w1) (hw : Wr t g w1 w2) : Wr t g w w2 :=
  ⟨hw.os.trans hb.os, hw.tape.trans hb.tape, hw.output.trans hb.output, Nat.le_trans hb.size hw.size, fun b hlt ne =>
    (hw.block b (Nat.lt_of_lt_of_le hlt hb.size) (fun e l hl => ne e l ((hb.block b hlt).symm.trans hl))).trans (hb.block b hlt)⟩
theorem rminus_width {w : World} {X h Y h2 n m : Nat} {f f2 : Fs} (r : RefAt w X h n f) (s : RefAt w Y h2 m f2) (hne : n ≠ m) :
    Calls Tryd.prog 26 #[.pointer (some ⟨X, 0, none⟩), .pointer (some ⟨Y, 0, none⟩)] w (JErr2 w 2) := by
  obtain ⟨A, c, c0, -⟩ := r.head
  obtain ⟨A2, c2, d0, -⟩ := s.head
  have e1 : ((n : Int) != (m : Int)) = true := by simp; omega
  clear r s hne
  go_enter Tryd.func26, Tryd.ntmps26
  go_wp2
  go_quiet (fail)
  go_wp2
  go_ret
  exact ⟨rfl, below_drewN (Below.refl _ _) _⟩
/-- the other's row, copied: none of the call's elder rows -/
def OldAt (w1 : World) (h n : Nat) (f2 : Fs) (G : Option Addr) (wr : World) : Prop := 0 < n → ∃ g rest, G = some ⟨g, 0, none⟩ ∧ g ≠ h ∧ Blk w1 g 4 (bc f2 n ++ rest)
set_option maxHeartbeats 4000000 in
theorem rminus_same {w : World} {X h Y h2 n : Nat} {f f2 : Fs} (r : RefAt w X h n f) (s : RefAt w Y h2 n f2) :
    Calls Tryd.prog 26 #[.pointer (some ⟨X, 0, none⟩), .pointer (some ⟨Y, 0, none⟩)] w (RJPost w X h n 0 (fMinus f f2)) := by
  have hwd : Wd n (fMinus f f2) := fun i hi => by simp [fMinus, r.wd i hi]
  obtain ⟨A, c, rest, h1, ho, h3⟩ := r.obj
  obtain ⟨A2, c2, d0, hd⟩ := s.head
  have c0 : w.cell? ⟨X, 0, none⟩ = some (.slice A n c) := by simpa using ho.cell 0
  have hn := r.width
  have e1 : ((n : Int) != (n : Int)) = false := by simp
  obtain ⟨R, hR⟩ : ∃ R, R = fMinus f f2 := ⟨_, rfl⟩
  have hRd : Rd w (· < w.heap.size) A2 (bc f2 n) := fun hpos => by
    rw [bc_length] at hpos
    obtain ⟨ad, e, h0⟩ := hd 0 hpos
    refine ⟨ad, e, ?_, fun j u hu => ?_⟩
    · have := World.block_lt_of_cell? w _ h0; rwa [block_of_add] at this
    · have hj : j < n := by have := (List.getElem?_eq_some_iff.1 hu).1; rwa [bc_length] at this
      obtain ⟨ad', e', h1'⟩ := hd j hj
      rw [e] at e'
      injection e' with e'
      rw [e', h1', ← hu]
      simp [bc, List.getElem?_map, List.getElem?_range hj]
  have HX : Hid (∀ q, Rd ((w.drewN q).alloc (.cells #[] 4)) (· < w.heap.size) A2 (bc f2 n)) := Lib.hid fun q => hRd.keep (w' := (w.drewN q).alloc (.cells #[] 4)) fun b hb => Below.heap_alloc (w.drewN q) _ b hb
  have hl : Hid ((bc f2 n).length = n * 1) := by show _ = _; rw [bc_length, Nat.mul_one]
  have hX : ∀ q, ((w.drewN q).alloc (.cells #[] 4)).cell? ⟨X, 0, none⟩ = some (.slice A n c) := fun q => by
    have := (ho.after (below_drewN (Below.refl _ _) q)).alloc (.cells #[] 4)
    simpa using this.cell 0
  have hY : ∀ q, ((w.drewN q).alloc (.cells #[] 4)).cell? ⟨Y, 0, none⟩ = some (.slice A2 n c2) := fun q => by
    obtain ⟨A2', c2', -, -, ko, -⟩ := s.obj
    have e := ko.cell 0
    rw [d0] at e
    simp at e
    obtain ⟨rfl, rfl⟩ := e
    have := (ko.after (below_drewN (Below.refl _ _) q)).alloc (.cells #[] 4)
    simpa using this.cell 0
  have HD : Hid (∀ wr, (0 < n → Blk wr h 4 (bc (jf f R n) n ++ rest)) → Wr 4 h w wr → RefAt wr X h n R) := Lib.hid fun wr hb hw => jf_done hn r.lt r.wd (by rw [hR]; exact hwd) h1 ho (fun h0 => (h3 h0).1) hb hw
  have HO := Lib.hid ho
  have H3 := Lib.hid h3
  have HLT := Lib.hid r.lt
  have HRE := Lib.hid hR
  rw [← hR]
  clear r s h1 ho h3 hwd hR hRd hd
  go_enter Tryd.func26, Tryd.ntmps26
  go_wp2
  go_quiet (fail)
  go_wp2_with (at_builtin; refine wpList_append_rd rfl (.tmp 18) (.tmp 22) 48 rfl w.heap.size 4 _ 1 1 Tryd.underlying48 info_bool rfl (by omega) (by omega) _ 0 [] rfl (own_empty (Nat.le_refl _)) _ A2 n c2 (bc f2 n) rfl hl.out (HX.out _) (bc_one f2 n) (by omega) (by simp) ?_; intro v' w1 hown hbel; obtain ⟨G, cap, hv, HC, HG⟩ := own_bools hown.out; subst hv; have hbel := Lib.hid hbel.out)
  have hb1 : Below w.heap.size w w1 := ((below_drewN (Below.refl _ _) _).alloc (Nat.le_refl _) _).trans hbel.out
  have HB1 := Lib.hid hb1
  have HGH : Hid (0 < n → ∃ g rest, G = some ⟨g, 0, none⟩ ∧ g ≠ h ∧ Blk w1 g 4 (bc f2 n ++ rest)) := Lib.hid fun h0 => by
    obtain ⟨g, rest2, e, hg, hb⟩ := HG.out h0
    exact ⟨g, rest2, e, by have := HLT.out; omega, hb⟩
  have HI : Hid (RJRel w1 X h n c A f R rest (.int .i64 0) w1) := Lib.hid ⟨0, rfl, by omega, Lib.hid ⟨fun h0 => by rw [jf_zero]; exact (H3.out h0).2.after hb1, .ofBelow (Below.refl _ _)⟩⟩
  have c0b : w1.cell? ⟨X, 0, none⟩ = some (.slice A n c) := by simpa using (HO.out.after hb1).cell 0
  clear hown hbel hb1 HG c0 d0 hX hY HX
  go_wp2
  go_loopw [6] (fun v wr => RJRel w1 X h n c A f R rest v wr) (fun v _ => n - (intOf v).toNat)
  case atStart => exact HI.out
  case round =>
    obtain ⟨k, rfl, hk, hst⟩ := hrel
    clear HI c0b
    have c0 : wr.cell? ⟨X, 0, none⟩ = some (.slice A n c) := by simpa using (hst.out.2.blk (HO.out.after HB1.out) (.inr (by decide))).cell 0
    by_cases hlt : k < n
    · obtain ⟨rfl, hb0⟩ := H3.out (by omega)
      obtain ⟨g, rest2, rfl, hgh, gb0⟩ := HGH.out (by omega)
      have hb0' := hb0.after HB1.out
      have hb := hst.out.1 (by omega)
      have kb := hst.out.2.blk gb0 (.inl hgh)
      have hi : (k : Int) < (n : Int) := by omega
      have c1 : wr.cell? ⟨h, k, none⟩ = some (.bool (f k)) := by rw [hb.cell, bc_at _ _ _ _ hlt]; simp [jf]
      have d1 : wr.cell? ⟨g, k, none⟩ = some (.bool (f2 k)) := by rw [kb.cell, bc_at _ _ _ _ hlt]
      have fz : wr.frozen? ⟨h, k, none⟩ = false := hb.frozen _
      have HN : Hid (∀ q, RJRel w1 X h n c (some ⟨h, 0, none⟩) f R rest (.int .i64 ((k : Int) + 1)) ((wr.drewN q).setCell ⟨h, k, none⟩ (.bool (R k)))) := Lib.hid fun q => by
        refine ⟨k + 1, by simp, by omega, Lib.hid ⟨fun h0 => ?_, (hst.out.2.then_ (below_drewN (Below.refl _ _) q)).set_ hb0' k _⟩⟩
        rw [← jf_step f R n k hlt rest]
        exact Blk.set_ (w := wr.drewN q) hb k _
      have HRK : R k = fMinus f f2 k := by rw [HRE.out]
      clear hb hb0 hb0' kb gb0 hst hgh
      cases hf : f k <;> cases hg : f2 k
      · have e2 : R k = false := by rw [HRK]; simp [fMinus, hf]
        rw [hf] at c1
        rw [hg] at d1
        rw [e2] at HN
        clear HRK hf hg e2
        go_wp2
        go_region
        all_goals go_wp2
        go_roundw
        case rel => exact HN.out _
        case measure => simp [intOf]; omega
      · have e2 : R k = false := by rw [HRK]; simp [fMinus, hf]
        rw [hf] at c1
        rw [hg] at d1
        rw [e2] at HN
        clear HRK hf hg e2
        go_wp2
        go_region
        all_goals go_wp2
        go_roundw
        case rel => exact HN.out _
        case measure => simp [intOf]; omega
      · have e2 : R k = true := by rw [HRK]; simp [fMinus, hf, hg]
        rw [hf] at c1
        rw [hg] at d1
        rw [e2] at HN
        clear HRK hf hg e2
        go_wp2
        refine wp_region_still_tail 20 (by kernel_rfl) (by kernel_rfl) ?_
        simp only [List.take_succ_cons, List.take_zero, List.drop_succ_cons, List.drop_zero]
        iterate 20 still_step
        refine wpStill_nil ?_
        change wpList _ _ _ _ _ (wr.drewN 1)
        go_wp2
        go_roundw
        case rel => exact HN.out 1
        case measure => simp [intOf]; omega
      · have e2 : R k = false := by rw [HRK]; simp [fMinus, hf, hg]
        rw [hf] at c1
        rw [hg] at d1
        rw [e2] at HN
        clear HRK hf hg e2
        go_wp2
        refine wp_region_still_tail 20 (by kernel_rfl) (by kernel_rfl) ?_
        simp only [List.take_succ_cons, List.take_zero, List.drop_succ_cons, List.drop_zero]
        iterate 20 still_step
        refine wpStill_nil ?_
        change wpList _ _ _ _ _ (wr.drewN 1)
        go_wp2
        go_roundw
        case rel => exact HN.out 1
        case measure => simp [intOf]; omega
    · have hkn : n = k := by omega
      subst hkn
      have hw := Wr.from_ HB1.out hst.out.2
      have HE : Hid (RefAt wr X h n R) := Lib.hid (HD.out wr hst.out.1 hw)
      have HW := Lib.hid hw
      clear hst HD hw
      go_wp2
      go_ret
      exact ⟨rfl, HE.out, HW.out⟩
theorem rminus_any {w : World} {X h Y h2 n m : Nat} {f f2 : Fs} (r : RefAt w X h n f) (s : RefAt w Y h2 m f2) (e : Int) (f' : Fs) (he : e = if n = m then 0 else 2) (hf : f' = if n = m then fMinus f f2 else f) :
    Calls Tryd.prog 26 #[.pointer (some ⟨X, 0, none⟩), .pointer (some ⟨Y, 0, none⟩)] w (RJPost w X h n e f') := by
  by_cases hnm : n = m
  · subst hnm
    rw [if_pos rfl] at he hf
    subst he; subst hf
    exact rminus_same r s
  · rw [if_neg hnm] at he hf
    subst he; subst hf
    refine (rminus_width r s hnm).mono ?_
    rintro e w' ⟨rfl, hb⟩
    exact ⟨rfl, r.after hb, .ofBelow hb⟩
end Go.Proofs.YtffphlbbophjfaaDoor.Bs
