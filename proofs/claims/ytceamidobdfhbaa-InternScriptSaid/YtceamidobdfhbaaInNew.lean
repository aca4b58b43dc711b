/- Package intern's calls: what each answers of a table as it lies, and what it changes; proved by walking their texts, and by the library's contracts. Conditions: the table lies as TabAt says; a name has at most as many bytes as a string can have. -/
import Derived.Test.YtceamidobdfhbaaInSort
import Derived.Test.YtceamidobdfhbaaShelf
import Derived.Carry
namespace Go.Proofs.Ytceamidobdfhbaa.It
open Go.ChangeShapes Go.WideShapes Go.ChangeAt Go.RowKit Go.Maps
open Lx Sh
set_option linter.unusedVariables false
set_option linter.unusedSimpArgs false

/-! ### New -/
theorem newE_take (L : List Nm) : ∀ (l : List Nm) (i : Nat), newE L (l.take i) = 0 → newE L l = newE (L ++ l.take i) (l.drop i) := by
  intro l
  induction l generalizing L with
  | nil => intro i h; simp
  | cons x r ih =>
    intro i h
    cases i with
    | zero => simp
    | succ i =>
      rw [List.take_succ_cons] at h ⊢
      rw [List.drop_succ_cons]
      have e1 : ∀ r : List Nm, newE L (x :: r) = if addE L x = 0 then newE (L ++ [x]) r else addE L x := fun _ => rfl
      rw [e1] at h ⊢
      by_cases h0 : addE L x = 0
      · rw [if_pos h0] at h ⊢
        have := ih (L ++ [x]) i h
        rw [this, List.append_assoc]; rfl
      · rw [if_neg h0] at h; exact absurd h h0
theorem newE_more (L l : List Nm) (i : Nat) (x : Nm) (hx : l[i]? = some x) (h : newE L (l.take i) = 0) (h0 : addE (L ++ l.take i) x = 0) : newE L (l.take (i + 1)) = 0 := by
  have e : (l.take (i + 1)).take i = l.take i := by rw [List.take_take]; congr 1; omega
  have hl : i < l.length := (List.getElem?_eq_some_iff.1 hx).1
  have hd : (l.take (i + 1)).drop i = [x] := by
    rw [List.take_add_one, hx, List.drop_append, List.length_take, Nat.min_eq_left (by omega), Nat.sub_self, List.drop_of_length_le (by rw [List.length_take]; omega)]
    rfl
  rw [newE_take L (l.take (i + 1)) i (by rw [e]; exact h), e, hd]
  simp [newE, h0]
theorem newE_stop (L l : List Nm) (i : Nat) (x : Nm) (hx : l[i]? = some x) (h : newE L (l.take i) = 0) (h0 : addE (L ++ l.take i) x ≠ 0) : newE L l = addE (L ++ l.take i) x := by
  have hl : i < l.length := (List.getElem?_eq_some_iff.1 hx).1
  rw [newE_take L l i h, List.drop_eq_getElem_cons hl]
  have e : l[i] = x := by
    have := List.getElem?_eq_getElem hl
    rw [hx] at this; exact (Option.some.inj this).symm
  rw [e, newE, if_neg h0]
/-- what New answers: the table of the names, or none and the first error -/
def NewPost (w : World) (l : List Nm) (e : Ending) (w' : World) : Prop :=
  (newE [] l = 0 ∧ ∃ T, e = .returned (.tuple #[.pointer (some ⟨T, 0, none⟩), .int .i64 0]) ∧ NewTab w l T w') ∨ (newE [] l ≠ 0 ∧ e = .returned (.tuple #[.pointer none, .int .i64 (newE [] l : Nat)]) ∧ Hid (Below w.heap.size w w'))
theorem add_ok {w : World} {X : Nat → Prop} {T : Nat} {L : List Nm} (h : TabAt w X T L) (x : Nm) (hx : x.length ≤ maxLen) (h0 : addE L x = 0) :
    Calls Try.prog 10 #[.pointer (some ⟨T, 0, none⟩), .string ⟨x.toArray⟩] w fun e w' => e = .returned (.tuple #[.int .i64 (L.length : Nat), .int .i64 0]) ∧ Hid (TabAt w' (Grow X w w') T (L ++ [x])) ∧ Hid (Ch X w w') := by
  refine (add_any h x hx).mono ?_
  rintro e w' ⟨rfl, h1, h2⟩
  unfold addL at h1
  rw [if_pos h0] at h1
  refine ⟨?_, h1, h2⟩
  unfold addN; rw [if_pos h0, h0]; rfl
theorem add_not {w : World} {X : Nat → Prop} {T : Nat} {L : List Nm} (h : TabAt w X T L) (x : Nm) (hx : x.length ≤ maxLen) (k : Nat) (hk : addE L x = k) (h0 : k ≠ 0) :
    Calls Try.prog 10 #[.pointer (some ⟨T, 0, none⟩), .string ⟨x.toArray⟩] w fun e w' => e = .returned (.tuple #[.int .i64 0, .int .i64 (k : Nat)]) ∧ Hid (TabAt w' (Grow X w w') T L) ∧ Hid (Ch X w w') := by
  subst hk
  refine (add_any h x hx).mono ?_
  rintro e w' ⟨rfl, h1, h2⟩
  unfold addL at h1
  rw [if_neg h0] at h1
  refine ⟨?_, h1, h2⟩
  unfold addN; rw [if_neg h0]; rfl
theorem fresh_grow {w w1 w2 : World} {T : Nat} {L : List Nm} (hb : w.heap.size ≤ w1.heap.size) (h : TabAt w2 (Grow (Fresh w w1) w1 w2) T L) (hc : Ch (Fresh w w1) w1 w2) : TabAt w2 (Fresh w w2) T L :=
  h.more (fun k hk => by
    have := hc.size
    rcases hk with hk | hk
    · exact ⟨hk.1, by have := hk.2; omega⟩
    · exact ⟨by omega, hk.2⟩) (fun k hk => hk.2)
theorem fresh_below {w w1 w2 : World} (hb : Below w.heap.size w w1) (hc : Ch (Fresh w w1) w1 w2) : Below w.heap.size w w2 :=
  hb.trans (hc.below hb.size (fun k hk => hk.1))
set_option maxRecDepth 100000 in
set_option maxHeartbeats 1000000 in
theorem new_any {w : World} {A : Option Addr} {n c : Nat} {l : List Nm} (hn : Hid (n = l.length)) (hN : n ≤ 1000000) (hx : Rd w (· < w.heap.size) A (cs strC l)) (hs : ∀ x ∈ l, x.length ≤ maxLen) :
    Calls Try.prog 9 #[.slice A n c] w (NewPost w l) := by
  have HX := Lib.hid hx
  have HS := Lib.hid hs
  have h0 : MapAt (w.alloc (.map #[] 0)) w.heap.size [] := MapAt.made w
  have H0 := Lib.hid h0
  clear hx hs h0
  go_enter Try.func9, Try.ntmps9
  have hmm := @run_makeMap Try.prog
  go_wp2_with (first
    | (go_at_call 28; refine (table_any w.heap.size none 0 0 (w.alloc (.map #[] 0))).mono ?_; rintro e w1 ⟨rfl, hk1, hb1, hs1⟩
       have N1 : Hid (NewTab w [] (w.heap.size + 1 + 1) w1) := Lib.hid (tab_made good_nil H0.out (Nat.le_refl _) (World.ownsRow_nil _ _ _ _) (one_box _ _) (by simp) (by have := hk1.out; rw [World.size_alloc] at this; exact this) hb1)
       clear hk1 hb1 hs1))
  generalize w.heap.size + 1 + 1 = T at N1 ⊢
  clear hmm
  go_loopw [14] (fun v wr => ∃ i : Nat, v = .int .i64 (i : Int) ∧ i ≤ n ∧ Hid (newE [] (l.take i) = 0) ∧ Hid (NewTab w (l.take i) T wr)) (fun v _ => n - (intOf v).toNat)
  case atStart => exact ⟨0, rfl, by omega, Lib.hid rfl, N1⟩
  case round =>
    obtain ⟨i, rfl, hi, HE, HN⟩ := hrel
    by_cases hlt : i < n
    · obtain ⟨x, hxi⟩ := at_in l hn hlt
      have HNB := HN.out.2
      obtain ⟨ad, rfl, hS, h0, hj⟩ := rd_at 1 (fun _ => rfl) (by omega) (HX.out.below HNB.out) hxi
      rw [Nat.mul_one] at h0
      have a0 : wr.cell? (ad.add i) = some (.string ⟨x.toArray⟩) := h0
      have hi1 : (i : Int) < (n : Int) := by omega
      have HXI := Lib.hid hxi
      have hxl : x.length ≤ maxLen := HS.out x (List.mem_of_getElem? hxi)
      clear h0 hj hxi
      by_cases hE : addE (l.take i) x = 0
      · have HEE := Lib.hid hE
        have HT : TabAt wr (Fresh w wr) T (l.take i) := HN.out.1
        have CA := Lib.hid (add_ok HT x hxl hE)
        clear hE HT
        go_wp2_with (go_at_call 10; with_reducible refine CA.out.mono ?_; rintro e w2 ⟨rfl, ht2, hc2⟩)
        go_roundw
        case rel =>
          refine ⟨i + 1, by go_num, by omega, Lib.hid (newE_more _ l i x HXI.out HE.out HEE.out), Lib.hid ⟨Lib.hid ?_, Lib.hid (fresh_below HNB.out hc2.out)⟩⟩
          rw [List.take_add_one, HXI.out]
          exact fresh_grow HNB.out.size ht2.out hc2.out
        case measure => simp [intOf]; omega
      · obtain ⟨k, hk⟩ : ∃ k, addE (l.take i) x = k := ⟨_, rfl⟩
        have hk0 : k ≠ 0 := by rw [← hk]; exact hE
        have HT : TabAt wr (Fresh w wr) T (l.take i) := HN.out.1
        have CA := Lib.hid (add_not HT x hxl k hk hk0)
        have hst : newE [] l = k := by rw [← hk]; exact newE_stop _ l i x HXI.out HE.out hE
        have HST := Lib.hid hst
        have hkb : ((k : Int) == 0) = false := beq_eq_false_iff_ne.2 (by omega)
        have hkn : ((k : Int) != 0) = true := by simp [bne, hkb]
        clear hE HT hk hst
        go_wp2_with (go_at_call 10; with_reducible refine CA.out.mono ?_; rintro e w2 ⟨rfl, ht2, hc2⟩)
        go_ret2
        refine .inr ⟨by rw [HST.out]; exact hk0, by rw [HST.out]; rfl, Lib.hid (fresh_below HNB.out hc2.out)⟩
    · have hin : i = n := by omega
      have hnl : ¬ ((i : Int) < (n : Int)) := by omega
      have ht : l.take i = l := List.take_of_length_le (by rw [hin, hn.out]; exact Nat.le_refl _)
      rw [ht] at HE HN
      go_wp2
      go_ret2
      exact .inl ⟨HE.out, T, rfl, HN.out⟩
end Go.Proofs.Ytceamidobdfhbaa.It
