/- Package intern's calls: what each answers of a table as it lies, and what it changes; proved by walking their texts, and by the library's contracts. Conditions: the table lies as TabAt says; a name has at most as many bytes as a string can have. -/
import Derived.Test.YtceamidobdfhbaaInBothMath
import Derived.Test.YtceamidobdfhbaaShelf
import Derived.Carry
namespace Go.Proofs.Ytceamidobdfhbaa.It
open Go.ChangeShapes Go.WideShapes Go.ChangeAt Go.RowKit Go.Maps
open Lx Sh
set_option linter.unusedVariables false
set_option linter.unusedSimpArgs false

/-- a table of the names L, and a row of the names K apart from it, both in new memory -/
def RowTab (w wr : World) (T : Nat) (v : Value) (L K : List Nm) : Prop := ∃ X, TabAt wr X T L ∧ (∀ k, X k → w.heap.size ≤ k) ∧ wr.ownsRow w.heap.size 9 1 v K.length (cs strC K) ∧ ∀ k, v.ownBlock = some k → ¬ X k
theorem RowTab.after {w wr w2 : World} {T : Nat} {v : Value} {L K : List Nm} (h : RowTab w wr T v L K) (hb : Below wr.heap.size wr w2) : RowTab w w2 T v L K := by
  obtain ⟨X, h1, h2, h3, h4⟩ := h; exact ⟨X, h1.after hb, h2, own_after h3 hb, h4⟩
theorem RowTab.rd {w wr : World} {T n c : Nat} {A : Option Addr} {L K : List Nm} (h : RowTab w wr T (.slice A n c) L K) : Rd wr (· < wr.heap.size) A (cs strC K) := by
  obtain ⟨X, h1, h2, h3, h4⟩ := h
  exact (own_rd h3).more (fun i hi => hi.2)
theorem RowTab.tab {w wr : World} {T : Nat} {v : Value} {L K : List Nm} (h : RowTab w wr T v L K) : ∃ X, TabAt wr X T L := by
  obtain ⟨X, h1, h2, h3, h4⟩ := h; exact ⟨X, h1⟩
theorem RowTab.step {w wr w' : World} {X : Nat → Prop} {T : Nat} {v : Value} {M K : List Nm} (hb : Below w.heap.size w wr) (hX : ∀ k, X k → w.heap.size ≤ k) (hrow : wr.ownsRow w.heap.size 9 1 v K.length (cs strC K)) (hap : ∀ k, v.ownBlock = some k → ¬ X k)
    (ht : TabAt w' (Grow X wr w') T M) (hc : Ch X wr w') : RowTab w w' T v M K ∧ Below w.heap.size w w' := by
  refine ⟨⟨_, ht, grow_from hb hX, hc.own hrow hap, fun k hk hg => ?_⟩, below_ch hb hX hc⟩
  rcases hg with hg | hg
  · exact hap k hk hg
  · have := (hrow.lt k hk).2
    have := hg.1
    omega
theorem rt_ok {w wr : World} {T : Nat} {v : Value} {L K : List Nm} (h : RowTab w wr T v L K) (hb : Below w.heap.size w wr) (x : Nm) (hx : x.length ≤ maxLen) (N : Nat) (hN : N = L.length) (h0 : addE L x = 0) :
    Calls Try.prog 10 #[.pointer (some ⟨T, 0, none⟩), .string ⟨x.toArray⟩] wr fun e w' => e = .returned (.tuple #[.int .i64 (N : Nat), .int .i64 0]) ∧ Hid (RowTab w w' T v (L ++ [x]) K) ∧ Hid (Below w.heap.size w w') := by
  subst hN
  obtain ⟨X, h1, h2, h3, h4⟩ := h
  refine (add_ok h1 x hx h0).mono ?_
  rintro e w' ⟨he, ht, hc⟩
  have := RowTab.step hb h2 h3 h4 ht.out hc.out
  exact ⟨he, Lib.hid this.1, Lib.hid this.2⟩
theorem rt_not {w wr : World} {T : Nat} {v : Value} {L K : List Nm} (h : RowTab w wr T v L K) (hb : Below w.heap.size w wr) (x : Nm) (hx : x.length ≤ maxLen) (k : Nat) (hk : addE L x = k) (h0 : k ≠ 0) :
    Calls Try.prog 10 #[.pointer (some ⟨T, 0, none⟩), .string ⟨x.toArray⟩] wr fun e w' => e = .returned (.tuple #[.int .i64 0, .int .i64 (k : Nat)]) ∧ Hid (RowTab w w' T v L K) ∧ Hid (Below w.heap.size w w') := by
  obtain ⟨X, h1, h2, h3, h4⟩ := h
  refine (add_not h1 x hx k hk h0).mono ?_
  rintro e w' ⟨he, ht, hc⟩
  have := RowTab.step hb h2 h3 h4 ht.out hc.out
  exact ⟨he, Lib.hid this.1, Lib.hid this.2⟩
theorem rt_append {w w6 w7 : World} {o : Obj} {T N : Nat} {v v7 : Value} {L M : List Nm} {x : Nm} (h : RowTab w w6 T v M L) (hN : N = L.length) (hb : Below w.heap.size w w6) (ho : w7.ownsRow w.heap.size 9 1 v7 (N + 1) (cs strC L ++ strC x)) (hg : (w6.alloc o).grownBy w7 v.ownBlock)
    (hv : v7.ownBlock = v.ownBlock ∨ v7.ownBlock = some (w6.alloc o).heap.size) : RowTab w w7 T v7 M (L ++ [x]) ∧ Below w.heap.size w w7 := by
  subst hN
  obtain ⟨X, h1, h2, h3, h4⟩ := h
  have c1 : Ch (fun k => v.ownBlock = some k) w6 w7 := ((Ch.refl _ w6).alloc o).trans (Ch.of_grown hg (fun k e => e.symm))
  refine ⟨⟨X, h1.far c1 (fun k hk e => h4 k e hk), h2, ?_, fun k hk => ?_⟩, below_ch hb (fun k e => (h3.lt k e).1) c1⟩
  · rw [List.length_append, List.length_singleton]
    have e : cs strC (L ++ [x]) = cs strC L ++ strC x := by simp [cs]
    rw [e]; exact ho
  · rcases hv with e | e
    · exact h4 k (by rw [← e]; exact hk)
    · rw [e, World.size_alloc] at hk
      injection hk with hk
      intro hx
      have := h1.lt k hx
      omega
theorem mem_step {L : List Nm} {k : Nat} {x y : Nm} (hy : L[k]? = some y) : decide (x ∈ L.take (k + 1)) = (decide (x ∈ L.take k) || (y == x)) := by
  rw [List.take_add_one, hy, Bool.eq_iff_iff]
  simp only [Option.toList_some, decide_eq_true_eq, List.mem_append, List.mem_singleton, Bool.or_eq_true, beq_iff_eq]
  constructor
  · rintro (h | h)
    · exact .inl h
    · exact .inr h.symm
  · rintro (h | h)
    · exact .inl h
    · exact .inr h.symm
set_option maxRecDepth 100000 in
set_option maxHeartbeats 2000000 in
theorem both_in (w : World) (A : Option Addr) (n c : Nat) (l : List Nm) (hn : Hid (n = l.length)) (hN : n ≤ 150) (hr : Rd w (· < w.heap.size) A (cs strC l)) (hs : ∀ x ∈ l, x.length ≤ maxLen) :
    Calls Try.prog 6 #[.slice A n c] w (BPost w true) := by
  have HR := Lib.hid hr
  have HS := Lib.hid hs
  have h150 : ¬ ((150 : Int) < (n : Int)) := by omega
  clear hr hs
  go_enter Try.func6, Try.ntmps6
  go_wp2_with (first
    | (go_at_call 13; refine (lives_any _).mono ?_; rintro e w1 ⟨rfl, hb1⟩; have B1 := Lib.hid hb1; clear hb1)
    | (go_at_call 9; refine (new_none _).mono ?_; rintro e w3 ⟨T, rfl, ht3, B3⟩))
  have O3 : Hid (RowTab w1 w3 T (.slice none 0 0) [] []) := Lib.hid ⟨_, ht3.out, fun k hk => hk.1, World.ownsRow_nil _ _ _ _, fun k hk => by cases hk⟩
  clear ht3
  go_loopw [5, 6] (fun v5 v6 wr => ∃ (i N cN : Nat) (D : Option Addr), v6 = .int .i64 (i : Int) ∧ v5 = .slice D N cN ∧ i ≤ n ∧ Hid (N = (adds [] (l.take i)).length) ∧ Hid (RowTab w1 wr T (.slice D N cN) (adds [] (l.take i)) (adds [] (l.take i))) ∧ Hid (Below w1.heap.size w1 wr)) (fun _ v _ => n - (intOf v).toNat)
  case atStart => exact ⟨0, 0, 0, none, rfl, rfl, by omega, Lib.hid rfl, O3, B3⟩
  case round =>
    obtain ⟨i, N, cN, D, rfl, rfl, hi, HNL, HT, HB⟩ := hrel
    have HBW := Lib.hid (B1.out.trans (HB.out.mono B1.out.size))
    by_cases hlt : i < n
    · have hi1 : (i : Int) < (n : Int) := by omega
      obtain ⟨x, hxi⟩ := at_in l hn hlt
      have HXI := Lib.hid hxi
      have hxl : x.length ≤ maxLen := HS.out x (List.mem_of_getElem? hxi)
      have HNX := Lib.hid (adds_take [] l i x hxi)
      have hNn : N ≤ 150 := by
        have := adds_len [] (l.take i)
        rw [← HNL.out, List.length_take] at this
        simp at this
        have := hn.out
        omega
      generalize adds [] (l.take i) = L at HNL HT HNX
      clear hxi
      obtain ⟨wa, rfl⟩ : ∃ wa, wa = wr := ⟨wr, rfl⟩
      go_wp2_with (fail)
      go_loopw [7, 8] (fun v7 v8 wr => ∃ (k : Nat) (q : Bool), v8 = .int .i64 (k : Int) ∧ v7 = .bool q ∧ k ≤ N ∧ Hid (q = decide (x ∈ L.take k)) ∧ Hid (Below wa.heap.size wa wr)) (fun _ v _ => N - (intOf v).toNat)
      case atStart => exact ⟨0, false, rfl, rfl, by omega, Lib.hid (by simp), Lib.hid (Below.refl _ _)⟩
      case round =>
        obtain ⟨k, q, rfl, rfl, hk, HQ, HB2⟩ := hrel
        by_cases hlt2 : k < N
        · have hk1 : (k : Int) < (N : Int) := by omega
          have hNc : Hid (N = L.length) := HNL
          obtain ⟨y, hy⟩ := at_in L hNc hlt2
          have HY := Lib.hid hy
          obtain ⟨dd, e, -, d0, -⟩ := rd_at 1 (fun _ => rfl) (by omega) (HT.out.after HB2.out).rd hy
          obtain ⟨aa, e', -, g0, -⟩ := rd_at 1 (fun _ => rfl) (by omega) ((HR.out.below HBW.out).below (HB2.out.mono HBW.out.size)) HXI.out
          subst e
          subst e'
          rw [Nat.mul_one] at d0 g0
          have c0 : wr.cell? (dd.add k) = some (.string ⟨y.toArray⟩) := d0
          have c1 : wr.cell? (aa.add i) = some (.string ⟨x.toArray⟩) := g0
          have hS : decide (x ∈ L.take (k + 1)) = (q || (y == x)) := by rw [HQ.out]; exact mem_step hy
          have HSS := Lib.hid hS
          have hqy : ((⟨y.toArray⟩ : ByteArray).toList == (⟨x.toArray⟩ : ByteArray).toList) = (y == x) := toList_arr y x
          clear d0 g0 hS hy
          cases q
          · go_wp2
            go_quiet (fail)
            go_wp2
            refine ⟨⟨k + 1, (y == x), by go_num, rfl, by omega, Lib.hid ?_, Lib.hid (below_drewN HB2.out _)⟩, by simp [intOf]; omega⟩
            exact (by have h := HSS.out; rw [Bool.false_or] at h; exact h.symm)
          · go_wp2
            go_quiet (fail)
            go_wp2
            refine ⟨⟨k + 1, true, by go_num, rfl, by omega, Lib.hid ?_, Lib.hid (below_drewN HB2.out _)⟩, by simp [intOf]; omega⟩
            exact (by have h := HSS.out; rw [Bool.true_or] at h; exact h.symm)
        · have hk1 : ¬ ((k : Int) < (N : Int)) := by omega
          have et : L.take k = L := List.take_of_length_le (by rw [← HNL.out]; omega)
          rw [et] at HQ
          have HT2 := Lib.hid (HT.out.after HB2.out)
          have HBW2 := Lib.hid (keep_trans HBW.out HB2.out)
          have HB3 := Lib.hid (keep_trans HB.out HB2.out)
          obtain ⟨aa, e', hS, g0, -⟩ := rd_at 1 (fun _ => rfl) (by omega) HR.out HXI.out
          subst e'
          rw [Nat.mul_one] at g0
          have HA0 : Hid (∀ W, Below w1.heap.size w1 W → W.cell? (aa.add i) = some (.string ⟨x.toArray⟩)) := Lib.hid (fun W hW => (World.cell?_of_block ((keep_trans B1.out hW).block _ (by rw [block_of_add]; exact hS))).trans g0)
          have c1 : wr.cell? (aa.add i) = some (.string ⟨x.toArray⟩) := HA0.out _ HB3.out
          clear g0 hS et
          rcases add_cases L x with ⟨hE0, hE1, hE2, hE3⟩ | ⟨hE0, hE1⟩ | ⟨hE0, hE1, hE2⟩ | ⟨hE0, hE1, hE2, hE3⟩
          · have CA := Lib.hid (rt_ok HT2.out HB3.out x hxl N HNL.out hE0)
            have HE1 := Lib.hid hE1
            have HE0 := Lib.hid hE0
            obtain rfl : q = false := by rw [HQ.out]; exact decide_eq_false hE2
            clear hE0 hE1 hE2 hE3
            go_wp2_with (first
              | (go_at_call 10; (with_reducible refine CA.out.mono ?_); rintro e w5 ⟨rfl, ht5, hb5⟩; have c2 := HA0.out _ hb5.out)
              | (go_at_call 26; refine (refname_any _ _).mono ?_; rintro e w6 ⟨rfl, hb6⟩; rw [show nameB (⟨x.toArray⟩ : ByteArray).data.toList = true from HE1.out]; have HB6 := Lib.hid (keep_trans hb5.out hb6); have HT6 := Lib.hid (ht5.out.after hb6); have c3 := HA0.out _ HB6.out
                 have R6 : Hid (w6.ownsRow w1.heap.size 9 1 (.slice D N cN) N (cs strC L)) := Lib.hid (by obtain ⟨X6, -, -, h63, -⟩ := HT6.out; rw [HNL.out]; exact HNL.out ▸ h63)
                 have hb6s : w1.heap.size ≤ w6.heap.size := HB6.out.size
                 clear hb6)
              | (at_builtin; refine wpList_append_ch rfl (.tmp 90) (.tmp 95) 26 rfl w1.heap.size 9 _ 1 16 Try.underlying26 info_Str rfl (by omega) (by omega) (.slice D N cN) N (cs strC L) rfl (R6.out.alloc _) (fun _ => True) (some ⟨w6.heap.size, 0, none⟩) 1 1 (strC x) rfl rfl ((lit_at w6 _ _ _ (strC x) rfl rfl).more (fun _ _ => trivial)) (str_one x) (by omega) (by simp; omega) ?_; intro v7 w7 hown7 hg7 hv7
                 have RT7 := Lib.hid (rt_append HT6.out HNL.out HB6.out hown7.out hg7.out hv7.out)
                 obtain ⟨D7, c7, e7, -, -⟩ := own_form hown7.out
                 subst e7
                 clear hown7 hg7 hv7))
            have eX : adds [] (l.take (i + 1)) = L ++ [x] := by rw [HNX.out]; unfold addL; rw [if_pos HE0.out]
            have EX := Lib.hid eX
            have HM : Hid (N + 1 = (L ++ [x]).length) := Lib.hid (by rw [List.length_append, List.length_singleton, ← HNL.out])
            obtain ⟨M, eM⟩ : ∃ M, M = L ++ [x] := ⟨_, rfl⟩
            rw [← eM] at EX HM RT7
            have HMs : Hid (∀ y ∈ M, y.length ≤ maxLen) := Lib.hid (by
              obtain ⟨X7, h71, -⟩ := RT7.out.1
              intro y hy
              have := name_short (h71.good.2.1 y hy)
              have := maxLen_big
              omega)
            clear eX eM
            go_loopw [11] (fun v wr => ∃ p : Nat, v = .int .i64 (p : Int) ∧ p ≤ N + 1 ∧ Hid (Below w7.heap.size w7 wr)) (fun v _ => N + 1 - (intOf v).toNat)
            case atStart => exact ⟨0, rfl, by omega, Lib.hid (Below.refl _ _)⟩
            case round =>
              obtain ⟨p, rfl, hp, HB7⟩ := hrel
              by_cases hlt3 : p < N + 1
              · have hp1 : (p : Int) < (N : Int) + 1 := by omega
                obtain ⟨y, hy⟩ := at_in M HM hlt3
                have RT8 := Lib.hid (RT7.out.1.after HB7.out)
                obtain ⟨dd, e, hSd, d0, -⟩ := rd_at 1 (fun _ => rfl) (by omega) RT8.out.rd hy
                subst e
                rw [Nat.mul_one] at d0
                have hyl : (⟨y.toArray⟩ : ByteArray).size ≤ maxLen := by rw [Lib.size_eq]; exact HMs.out y (List.mem_of_getElem? hy)
                obtain ⟨X8, h8⟩ := RT8.out.tab
                have C1 := Lib.hid (num_in h8 ⟨y.toArray⟩ hyl p hy)
                have C2 : Hid (∀ W, Below wr.heap.size wr W → Calls Try.prog 12 #[.pointer (some ⟨T, 0, none⟩), .int .i64 (p : Nat)] W (NamPost W ⟨y.toArray⟩ true)) := Lib.hid (fun W hW => name_in (h8.after hW) p y hy)
                have D0 : Hid (∀ W, Below wr.heap.size wr W → W.cell? (dd.add p) = some (.string ⟨y.toArray⟩)) := Lib.hid (fun W hW => (World.cell?_of_block (hW.block _ (by rw [block_of_add]; exact hSd))).trans d0)
                have d1 : wr.cell? (dd.add p) = some (.string ⟨y.toArray⟩) := d0
                clear h8 hy d0 hSd
                go_wp2_with (first
                  | (go_at_call 11; (with_reducible refine C1.out.mono ?_); rintro e w8 ⟨rfl, hb8⟩)
                  | (go_at_call 12; (with_reducible refine (C2.out _ hb8.out).mono ?_); rintro e w9 ⟨rfl, hb9⟩; have HB9 := Lib.hid (keep_trans hb8.out hb9.out); have d2 := D0.out _ HB9.out))
                exact ⟨⟨p + 1, by go_num, by omega, Lib.hid (keep_trans HB7.out HB9.out)⟩, by simp [intOf]; omega⟩
              · have hp1 : ¬ ((p : Int) < (N : Int) + 1) := by omega
                go_wp2
                refine ⟨⟨i + 1, N + 1, c7, D7, by go_num, rfl, by omega, Lib.hid (by rw [EX.out]; exact HM.out), Lib.hid (by rw [EX.out]; exact RT7.out.1.after HB7.out), Lib.hid (RT7.out.2.trans (HB7.out.mono RT7.out.2.size))⟩, by simp [intOf]; omega⟩
          · have CA := Lib.hid (rt_not HT2.out HB3.out x hxl 7 hE0 (by omega))
            have HE1 := Lib.hid hE1
            have HE0 := Lib.hid hE0
            clear hE0 hE1
            go_wp2_with (first
              | (go_at_call 10; (with_reducible refine CA.out.mono ?_); rintro e w5 ⟨rfl, ht5, hb5⟩; have c2 := HA0.out _ hb5.out)
              | (go_at_call 26; refine (refname_any _ _).mono ?_; rintro e w6 ⟨rfl, hb6⟩; rw [show nameB (⟨x.toArray⟩ : ByteArray).data.toList = false from HE1.out]; have HB6 := Lib.hid hb6; clear hb6))
            have eX : adds [] (l.take (i + 1)) = L := by rw [HNX.out]; unfold addL; rw [if_neg (by rw [HE0.out]; omega)]
            refine ⟨⟨i + 1, N, cN, D, by go_num, rfl, by omega, Lib.hid (by rw [eX]; exact HNL.out), Lib.hid ?_, Lib.hid (keep_trans hb5.out HB6.out)⟩, by simp [intOf]; omega⟩
            rw [eX]
            exact ht5.out.after HB6.out
          · have CA := Lib.hid (rt_not HT2.out HB3.out x hxl 6 hE0 (by omega))
            have HE1 := Lib.hid hE1
            have HE0 := Lib.hid hE0
            obtain rfl : q = true := by rw [HQ.out]; exact decide_eq_true hE2
            clear hE0 hE1 hE2
            go_wp2_with (first
              | (go_at_call 10; (with_reducible refine CA.out.mono ?_); rintro e w5 ⟨rfl, ht5, hb5⟩; have c2 := HA0.out _ hb5.out)
              | (go_at_call 26; refine (refname_any _ _).mono ?_; rintro e w6 ⟨rfl, hb6⟩; rw [show nameB (⟨x.toArray⟩ : ByteArray).data.toList = true from HE1.out]; have HB6 := Lib.hid hb6; clear hb6))
            have eX : adds [] (l.take (i + 1)) = L := by rw [HNX.out]; unfold addL; rw [if_neg (by rw [HE0.out]; omega)]
            refine ⟨⟨i + 1, N, cN, D, by go_num, rfl, by omega, Lib.hid (by rw [eX]; exact HNL.out), Lib.hid ?_, Lib.hid (keep_trans hb5.out HB6.out)⟩, by simp [intOf]; omega⟩
            rw [eX]
            exact ht5.out.after HB6.out
          · exact absurd hE3 (by rw [← HNL.out]; omega)
    · have hi1 : ¬ ((i : Int) < (n : Int)) := by omega
      have et : l.take i = l := List.take_of_length_le (by rw [← hn.out]; omega)
      rw [et] at HNL HT
      have hNn : N ≤ 150 := by
        have := adds_len [] l
        rw [← HNL.out] at this
        simp at this
        have := hn.out
        omega
      generalize adds [] l = L at HNL HT
      obtain ⟨wa, rfl⟩ : ∃ wa, wa = wr := ⟨wr, rfl⟩
      obtain ⟨X, hX, hXw, hrow, hap⟩ := HT.out
      have HX := Lib.hid hX
      have HG := Lib.hid hX.good.1
      have hSL : Hid (N = (srt L).length) := Lib.hid (by rw [srt_len]; exact HNL.out)
      have CS : Hid (Calls Try.prog 24 #[.pointer (some ⟨T, 0, none⟩)] wa (RowN wa N (srt L))) := Lib.hid ((sorted_any hX).mono (fun e w' h => row_n h hSL.out.symm))
      have CL : Hid (∀ W, Below wa.heap.size wa W → Calls Try.prog 14 #[.pointer (some ⟨T, 0, none⟩)] W (IntPost W (N : Nat))) := Lib.hid (fun W hW => by rw [HNL.out]; exact len_any (hX.after hW))
      have CT : Hid (∀ W, Below wa.heap.size wa W → Calls Try.prog 23 #[.pointer (some ⟨T, 0, none⟩)] W (RowN W N L)) := Lib.hid (fun W hW => (all_any (hX.after hW)).mono (fun e w' h => row_n h HNL.out.symm))
      clear hX hXw hrow hap et
      go_wp2_with (first
        | (go_at_call 24; (with_reducible refine CS.out.mono ?_); rintro e ws ⟨AS, cS, rfl, -, hoS, hbS⟩; have BB : Hid (Below wa.heap.size wa ws) := hbS)
        | (go_at_call 14; (with_reducible refine (CL.out _ BB.out).mono ?_); rintro e wc ⟨rfl, hbR⟩; have BS := hbR; have BB := Lib.hid (keep_trans BB.out hbR.out))
        | (go_at_call 23; (with_reducible refine (CT.out _ BB.out).mono ?_); rintro e wc ⟨AR, cR, rfl, -, hoR, hbR⟩; have BS := Lib.hid (keep_trans BS.out hbR.out); have BB := Lib.hid (keep_trans BB.out hbR.out))
        | (go_at_call 22; refine (same_str _ _ _ N cR cN L HNL (by omega) (row_read hoR.out (Below.refl _ _)) (HT.out.after BB.out).rd).mono ?_; rintro e wc ⟨rfl, hbR⟩; have BS := Lib.hid (keep_trans BS.out hbR); have BB := Lib.hid (keep_trans BB.out hbR); clear hbR))
      obtain ⟨wz, rfl⟩ : ∃ wz, wz = wc := ⟨wc, rfl⟩
      go_loopw [17] (fun v wr => ∃ p : Nat, v = .int .i64 (p : Int) ∧ p ≤ N ∧ Hid (Below wz.heap.size wz wr)) (fun v _ => N - (intOf v).toNat)
      case atStart => exact ⟨0, rfl, by omega, Lib.hid (Below.refl _ _)⟩
      case round =>
        obtain ⟨p, rfl, hp, HB7⟩ := hrel
        have BB7 := Lib.hid (keep_trans BB.out HB7.out)
        by_cases hlt3 : p < N
        · have hp1 : (p : Int) < (N : Int) := by omega
          obtain ⟨y, hy⟩ := at_in (srt L) hSL hlt3
          have hyL : y ∈ L := srt_mem.1 (List.mem_of_getElem? hy)
          obtain ⟨sd, e, hSd, d0, -⟩ := rd_at 1 (fun _ => rfl) (by omega) (row_read hoS.out (keep_trans BS.out HB7.out)) hy
          have HSR := Lib.hid (row_read hoS.out (keep_trans BS.out HB7.out))
          subst e
          rw [Nat.mul_one] at d0
          have D0 : Hid (∀ W, Below wr.heap.size wr W → W.cell? (sd.add p) = some (.string ⟨y.toArray⟩)) := Lib.hid (fun W hW => (World.cell?_of_block (hW.block _ (by rw [block_of_add]; exact hSd))).trans d0)
          have d1 : wr.cell? (sd.add p) = some (.string ⟨y.toArray⟩) := d0
          have C1 := Lib.hid (num_at (HX.out.after BB7.out) y hyL)
          by_cases hp0 : p = 0
          · have c1 : decide ((0 : Int) < (p : Int)) = false := decide_eq_false (by omega)
            have c1n : decide (0 < p) = false := decide_eq_false (by omega)
            clear d0 hy hyL hSd hp0
            go_wp2_with (go_at_call 11; (with_reducible refine C1.out.mono ?_); rintro e w8 ⟨i8, rfl, hb8⟩; have d2 := D0.out _ hb8.out)
            go_quiet (fail)
            go_wp2
            exact ⟨⟨p + 1, by go_num, by omega, Lib.hid (below_drewN (keep_trans HB7.out hb8.out) _)⟩, by simp [intOf]; omega⟩
          · obtain ⟨P, eP⟩ : ∃ P, p = P + 1 := ⟨p - 1, by omega⟩
            obtain ⟨z, hz⟩ := at_in (srt L) (k := P) hSL (by omega)
            obtain ⟨sd', e', -, g0, -⟩ := rd_at 1 (fun _ => rfl) (by omega) HSR.out hz
            injection e' with e'
            subst e'
            rw [Nat.mul_one] at g0
            have G0 : Hid (∀ W, Below wr.heap.size wr W → W.cell? (sd.add P) = some (.string ⟨z.toArray⟩)) := Lib.hid (fun W hW => (World.cell?_of_block (hW.block _ (by rw [block_of_add]; exact hSd))).trans g0)
            have hless : Op.bytesLess z y = true := srt_less HG.out (by rw [← eP]; exact hy) hz
            have hless2 : Op.bytesLess (⟨z.toArray⟩ : ByteArray).toList (⟨y.toArray⟩ : ByteArray).toList = true := by rw [ByteArray.toList_eq, ByteArray.toList_eq]; exact hless
            have c1 : decide ((0 : Int) < (p : Int)) = true := decide_eq_true (by omega)
            have c1n : decide (0 < p) = true := decide_eq_true (by omega)
            have c2 : (p : Int) - 1 = (P : Int) := by omega
            have c3 : IntKind.i64.wrap (P : Int) = (P : Int) := IntWalk.i64_in _ (by omega)
            have c4 : (P : Int) < (N : Int) := by omega
            clear d0 hy hyL hSd hz g0 eP
            go_wp2_with (go_at_call 11; (with_reducible refine C1.out.mono ?_); rintro e w8 ⟨i8, rfl, hb8⟩; have d2 := D0.out _ hb8.out; have g2 := G0.out _ hb8.out)
            go_quiet (fail)
            go_wp2
            exact ⟨⟨p + 1, by go_num, by omega, Lib.hid (below_drewN (keep_trans HB7.out hb8.out) _)⟩, by simp [intOf]; omega⟩
        · have hp1 : ¬ ((p : Int) < (N : Int)) := by omega
          go_wp2
          go_ret
          exact ⟨rfl, keep_trans HBW.out BB7.out⟩
set_option maxRecDepth 100000 in
set_option maxHeartbeats 1000000 in
theorem both_all (w : World) (A : Option Addr) (n c : Nat) (l : List Nm) (hn : Hid (n = l.length)) (hr : Rd w (· < w.heap.size) A (cs strC l)) (hs : ∀ x ∈ l, x.length ≤ maxLen) :
    Calls Try.prog 6 #[.slice A n c] w (BPost w true) := by
  by_cases hN : n ≤ 150
  · exact both_in w A n c l hn hN hr hs
  · have h150 : (150 : Int) < (n : Int) := by omega
    clear hr hs hN
    go_enter Try.func6, Try.ntmps6
    go_wp2_with (go_at_call 13; refine (lives_any _).mono ?_; rintro e w1 ⟨rfl, hb1⟩; have B1 := Lib.hid hb1; clear hb1)
    go_ret
    exact ⟨rfl, B1.out⟩
end Go.Proofs.Ytceamidobdfhbaa.It
