/- The document's answers for sets, with loops: List, Next, Clear, Clone, Same. -/
import Derived.Test.YtffphlbbophjfaaDoorBitRef
namespace Go.Proofs.YtffphlbbophjfaaDoor.Bs
open Go.ChangeShapes Go.WideShapes Go.ChangeAt Go.RowKit
set_option linter.unusedVariables false

/- List -/
def RlRel (w : World) (f : Fs) (n : Nat) (v3 v4 : Value) (wr : World) : Prop :=
  ∃ (k m : Nat) (V3 : Value), V3 = v3 ∧ v4 = .int .i64 k ∧ k ≤ n ∧ Hid (m = (lst f k).length) ∧ m ≤ k ∧ Hid (wr.ownsRow w.heap.size 3 1 V3 m (ic (lst f k))) ∧ Hid (Below w.heap.size w wr)
set_option maxHeartbeats 2000000 in
theorem rlist_any {w : World} {X h n : Nat} {f : Fs} (r : RefAt w X h n f) : Calls Tryd.prog 32 #[.pointer (some ⟨X, 0, none⟩)] w (NumsNew w (lst f n)) := by
  have HRF := Lib.hid r
  have hn := r.width
  have HI : Hid (RlRel w f n (.slice none 0 0) (.int .i64 0) w) := Lib.hid ⟨0, 0, _, rfl, rfl, by omega, rfl, by omega, Lib.hid (World.ownsRow_nil _ _ _ _), Lib.hid (Below.refl _ _)⟩
  clear r
  go_enter Tryd.func32, Tryd.ntmps32
  go_wp2
  go_loopw [3, 4] (fun v3 v4 wr => RlRel w f n v3 v4 wr) (fun _ v _ => n - (intOf v).toNat)
  case atStart => exact HI.out
  case round =>
    obtain ⟨k, m, V3, rfl, rfl, hk, hm, hmk, ho, hbel⟩ := hrel
    clear HI
    obtain ⟨A, c, c0, hcell⟩ := (HRF.out.after hbel.out).head
    have HSZ := hbel.out.size
    by_cases hlt : k < n
    · obtain ⟨ad, rfl, c1⟩ := hcell k hlt
      have hi : (k : Int) < (n : Int) := by omega
      clear hcell
      cases hf : f k with
      | false =>
        rw [hf] at c1
        have HN : Hid (RlRel w f n V3 (.int .i64 ((k : Int) + 1)) wr) := Lib.hid (by
          have e : lst f (k + 1) = lst f k := by rw [lst, hf]; rfl
          exact ⟨k + 1, m, V3, rfl, by simp, by omega, by rw [e]; exact hm, by omega, by rw [e]; exact ho, hbel⟩)
        clear hf
        go_wp2
        go_roundw
        case rel => exact HN.out
        case measure => simp [intOf]; omega
      | true =>
        rw [hf] at c1
        have HN : Hid (∀ v' w', Hid (w'.ownsRow w.heap.size 3 1 v' (m + 1) (ic (lst f k ++ [(k : Int)]))) → Hid ((wr.alloc (.cells #[.int .i64 (k : Int)] 3)).grownBy w' V3.ownBlock) → RlRel w f n v' (.int .i64 ((k : Int) + 1)) w') := Lib.hid fun v' w' h5 hg => by
          have e : lst f (k + 1) = lst f k ++ [(k : Int)] := by rw [lst, hf]; rfl
          exact ⟨k + 1, m + 1, v', rfl, by simp, by omega, by rw [e]; show _ = _; rw [List.length_append, ← hm.out]; rfl, by omega, by rw [e]; exact h5, Lib.hid ((hbel.out.alloc HSZ _).grown hg.out (by simp; omega) (fun g hv => (ho.out.lt g hv).1))⟩
        clear hf
        go_wp2_with (at_builtin; refine wpList_append_num rfl (.tmp 21) (.tmp 23) 44 3 rfl Tryd.underlying44 info_int w.heap.size V3 m (lst f k) (k : Int) rfl rfl ho (by omega) HSZ ?_; intro v3' w2 ho3' hg3' hat3')
        go_roundw
        case rel => exact HN.out _ _ ho3' hg3'
        case measure => simp [intOf]; omega
    · have hkn : n = k := by omega
      subst hkn
      obtain ⟨A6, c6, hv6, hc6, hr6⟩ := own_form ho.out
      subst hv6
      have HRD := Lib.hid hr6
      clear hcell hr6
      go_wp2
      go_ret
      exact ⟨A6, m, c6, rfl, hm, hc6, HRD.out, hbel.out⟩
/- Next -/
theorem rnext_any {w : World} {X h n : Nat} {f : Fs} (r : RefAt w X h n f) (i : Int) : Calls Tryd.prog 35 #[.pointer (some ⟨X, 0, none⟩), .int .i64 i] w fun e w' => e = .returned (.int .i64 (nxt f n i.toNat)) ∧ w = w' := by
  obtain ⟨A, c, c0, hcell⟩ := r.head
  have HC := Lib.hid hcell
  have hn := r.width
  obtain ⟨m, hm⟩ : ∃ m, m = i.toNat := ⟨_, rfl⟩
  have hmx : (if 0 < i then i else 0) = (m : Int) := by split <;> omega
  rw [← hm]
  clear hcell r hm
  go_enter Tryd.func35, Tryd.ntmps35
  go_wp2
  go_loopw [5] (fun v wr => ∃ k : Nat, v = .int .i64 k ∧ Hid (nxt f n m = nxt f n k) ∧ w = wr) (fun v _ => n - (intOf v).toNat)
  case atStart => exact ⟨m, rfl, rfl, rfl⟩
  case round =>
    obtain ⟨k, rfl, hx, rfl⟩ := hrel
    by_cases hlt : k < n
    · obtain ⟨ad, rfl, c1⟩ := HC.out k hlt
      have hi : (k : Int) < (n : Int) := by omega
      cases hf : f k with
      | false =>
        rw [hf] at c1
        have HN : Hid (nxt f n m = nxt f n (k + 1)) := Lib.hid (by rw [hx.out, nxt_skip (b := k + 1) (by omega) fun j h1 h2 => by
          have : j = k := by omega
          subst this; exact hf])
        clear hf hx
        go_wp2
        go_roundw
        case rel => exact ⟨k + 1, by go_num, HN, trivial⟩
        case measure => simp [intOf]; omega
      | true =>
        rw [hf] at c1
        have HN : Hid (nxt f n m = (k : Int)) := Lib.hid (by rw [hx.out, nxt_some (Nat.le_refl _) hlt hf fun j h1 h2 => by omega])
        clear hf hx
        go_wp2
        go_ret
        exact ⟨ret_i HN.out.symm, rfl⟩
    · have HN : Hid (nxt f n m = -1) := Lib.hid (by rw [hx.out, nxt_none fun j h1 h2 => by omega])
      have hi : ¬ (k : Int) < (n : Int) := by omega
      clear hx
      go_wp2
      go_ret
      exact ⟨ret_i HN.out.symm, rfl⟩
/- Clear -/
def RClear (w : World) (X n : Nat) (r : Ending) (w' : World) : Prop := r = .returned (.tuple #[]) ∧ ∃ h, w.heap.size ≤ h ∧ RefAt w' X h n fEmpty ∧ Wr 50 X w w'
theorem rclear_any {w : World} {X h n : Nat} {f : Fs} (r : RefAt w X h n f) : Calls Tryd.prog 28 #[.pointer (some ⟨X, 0, none⟩)] w (RClear w X n) := by
  obtain ⟨A, c, rest, h1, h2, h3⟩ := r.obj
  have hn := r.width
  have c0 : w.cell? ⟨X, 0, none⟩ = some (.slice A n c) := by simpa using h2.cell 0
  have hmk := run_mk Tryd.underlying48 info_bool (by omega) rfl n n (by omega) (by omega)
  have k1 : Below w.heap.size w (w.alloc (.cells (List.replicate n (.bool false)).toArray 4)) := keep_alloc (Below.refl _ _) _
  have fz : ∀ i, (w.alloc (.cells (List.replicate n (.bool false)).toArray 4)).frozen? ⟨X, i, none⟩ = false := (h2.after k1).frozen
  have c1 : (w.alloc (.cells (List.replicate n (.bool false)).toArray 4)).cell? ⟨X, 0, none⟩ = some (.slice A n c) := by simpa using (h2.after k1).cell 0
  have fz0 := fz 0
  have H2 := Lib.hid h2
  have K1 := Lib.hid k1
  have er : (List.replicate n (Value.bool false)).toArray = Array.replicate n (Value.bool false) := by simp
  rw [er] at c1 fz0
  have H1 := Lib.hid h1
  have HER := Lib.hid er
  clear r h3 h2 k1 fz er
  go_enter Tryd.func28, Tryd.ntmps28
  go_wp2
  go_end0
  have hw2 : Wr 50 X w ((w.alloc (.cells (Array.replicate n (.bool false)) 4)).setCell ⟨X, 0, none⟩ (.slice (some ⟨w.heap.size, 0, none⟩) n n)) := by
    rw [← HER.out]; exact (Wr.ofBelow K1.out).set_ H2.out 0 _
  have hx := (H2.out.after K1.out).set_ 0 (.slice (some ⟨w.heap.size, 0, none⟩) n n)
  have hr : Blk ((w.alloc (.cells (List.replicate n (.bool false)).toArray 4)).setCell ⟨X, 0, none⟩ (.slice (some ⟨w.heap.size, 0, none⟩) n n)) w.heap.size 4 (List.replicate n (.bool false)) :=
    (Blk.new w 4 _).far (by have := H2.out.lt; show w.heap.size ≠ X; omega) _
  rw [HER.out] at hx hr
  refine ⟨rfl, w.heap.size, Nat.le_refl _, ⟨hn, hr.lt, wd_empty n, some ⟨w.heap.size, 0, none⟩, n, [], Nat.le_refl _, by simpa using hx, fun _ => ⟨rfl, ?_⟩⟩, hw2⟩
  rw [List.append_nil, bc_empty]
  exact hr
/- Clone -/
theorem own_bools {w : World} {base n : Nat} {v : Value} {f : Fs} (ho : w.ownsRow base 4 1 v (0 + n) ([] ++ bc f n)) : ∃ G cap, v = .slice G n cap ∧ Hid (n ≤ cap) ∧ Hid (0 < n → ∃ g rest, G = some ⟨g, 0, none⟩ ∧ base ≤ g ∧ Blk w g 4 (bc f n ++ rest)) := by
  rcases ho.2 with ⟨rfl, h0⟩ | ⟨g, cap, cur, rfl, hg, hb, hc, hm, hs, ht⟩
  · have h0 : n = 0 := by omega
    subst h0
    exact ⟨none, 0, rfl, Lib.hid (Nat.le_refl _), Lib.hid fun h => by omega⟩
  · have hl2 : bc f n ++ cur.toList.drop n = cur.toList := by
      simp only [Nat.zero_add, Nat.mul_one, List.nil_append] at ht
      rw [← ht, List.take_append_drop]
    exact ⟨_, cap, by rw [Nat.zero_add], Lib.hid (by omega), Lib.hid fun _ => ⟨g, cur.toList.drop n, rfl, hg, by rw [hl2]; simpa [Blk] using hb⟩⟩
theorem rclone_any {w : World} {X h n : Nat} {f : Fs} (r : RefAt w X h n f) : Calls Tryd.prog 30 #[.pointer (some ⟨X, 0, none⟩)] w (RNew w n f fun p => p) := by
  obtain ⟨A, c, rest, h1, h2, h3⟩ := r.obj
  have hn := r.width
  have hwd := Lib.hid r.wd
  have c0 : w.cell? ⟨X, 0, none⟩ = some (.slice A n c) := by simpa using h2.cell 0
  have c1 : (w.alloc (.cells #[] 4)).cell? ⟨X, 0, none⟩ = some (.slice A n c) := by simpa using (h2.alloc (.cells #[] 4)).cell 0
  have hR : Rd w (· < w.heap.size) A (bc f n) := fun hpos => by
    rw [bc_length] at hpos
    obtain ⟨rfl, hb⟩ := h3 hpos
    refine ⟨_, rfl, hb.lt, fun j u hu => ?_⟩
    have e : (⟨h, 0, none⟩ : Addr).add j = ⟨h, j, none⟩ := by
      unfold Addr.add; split
      · subst_vars; rfl
      · simp
    rw [e, hb.cell, List.getElem?_append_left (by exact (List.getElem?_eq_some_iff.1 hu).1)]
    exact hu
  have HX := Lib.hid (hR.keep (w' := w.alloc (.cells #[] 4)) fun b hb => Below.heap_alloc w _ b hb)
  have hl : Hid ((bc f n).length = n * 1) := by show _ = _; rw [bc_length, Nat.mul_one]
  clear r h1 h2 h3 hR
  go_enter Tryd.func30, Tryd.ntmps30
  go_wp2_with (at_builtin; refine wpList_append_rd rfl (.tmp 3) (.tmp 7) 48 rfl w.heap.size 4 _ 1 1 Tryd.underlying48 info_bool rfl (by omega) (by omega) _ 0 [] rfl (own_empty (Nat.le_refl _)) _ A n c (bc f n) rfl hl.out HX.out (bc_one f n) (by omega) (by simp) ?_; intro v' w1 hown hbel; obtain ⟨G, cap, hv, HC, HG⟩ := own_bools hown.out; subst hv)
  have hb1 := Lib.hid ((keep_alloc (Below.refl w.heap.size w) _).trans hbel.out)
  clear hown hbel
  go_ret
  have hx := Blk.new w1 50 [.slice G n cap]
  have k1 := keep_alloc (Below.refl w1.heap.size w1) (.cells #[.slice G n cap] 50)
  by_cases h0 : 0 < n
  · obtain ⟨g, rest2, rfl, hg, hb⟩ := HG.out h0
    have hr := hb.after k1
    exact ⟨w1.heap.size, g, by simp, hb1.out.size, hg, ⟨hn, by simpa using hr.lt, hwd.out, some ⟨g, 0, none⟩, cap, _, HC.out, by simpa using hx, fun _ => ⟨rfl, by simpa using hr⟩⟩, by simpa using keep_trans hb1.out k1⟩
  · exact ⟨w1.heap.size, w1.heap.size, by simp, hb1.out.size, hb1.out.size, ⟨hn, by simp, hwd.out, G, cap, [], HC.out, by simpa using hx, fun h => absurd h h0⟩, by simpa using keep_trans hb1.out k1⟩
end Go.Proofs.YtffphlbbophjfaaDoor.Bs
