/- LexPlaces: each token stands in the text at its place, as it is. Conditions: the library's variables hold what start-up lays. -/
import Derived.Test.YtgcphhialllieaaDoorLexPlacesMath
import Derived.Test.YtgcphhialllieaaDoorLexBackWalk
import Derived.Deep.RegionHeld3
namespace Go.Proofs.YtgcphhialllieaaDoor.Lx
open Go.ChangeShapes Go.WideShapes Go.ChangeAt Go.RowKit
set_option linter.unusedVariables false

theorem nlp_snoc : ∀ (a : List UInt8) (k : Nat) (c : UInt8), nlp k (a ++ [c]) = nlp k a ++ (if kindOf c = 3 then [k + a.length + 1] else []) := by
  intro a
  induction a with
  | nil => intro k c; simp [nlp]
  | cons d r ih =>
    intro k c
    simp only [List.cons_append, nlp, ih (k + 1) c, List.length_cons]
    have e : k + 1 + r.length + 1 = k + (r.length + 1) + 1 := by omega
    rw [e]
    split <;> simp
theorem k3b (c : UInt8) (h : c.toNat = 10) : kindOf c = 3 := by
  unfold kindOf
  rw [if_neg (by omega), if_pos h]
theorem st_take (s : ByteArray) (k : Nat) (h : k < s.size) : st (s.data.toList.take (k + 1)) = st (s.data.toList.take k) ++ (if s[k].toNat = 10 then [k + 1] else []) := by
  have e : s.data.toList.take (k + 1) = s.data.toList.take k ++ [s[k]] := Tk.take_snoc s k h
  have hl : (s.data.toList.take k).length = k := by rw [List.length_take]; have := Lib.size_eq s; omega
  rw [e]
  unfold st
  rw [nlp_snoc, hl]
  by_cases h10 : s[k].toNat = 10
  · rw [if_pos (k3b _ h10), if_pos h10]; simp
  · rw [if_neg (fun h3 => h10 (by rw [k3 h3]; rfl)), if_neg h10]; simp
def icl (l : List Nat) : List Value := l.map fun (n : Nat) => Value.int .i64 (n : Int)
theorem icl_length (l : List Nat) : (icl l).length = l.length := by simp [icl]
theorem icl_one (l : List Nat) : ∀ v ∈ icl l, v.oneCell' = true := by intro v hv; simp [icl] at hv; obtain ⟨a, _, rfl⟩ := hv; rfl
theorem own_lit1 (w : World) (n : Nat) (e : TypeId) (u : Value) (hu : u.oneCell' = true) (hn : n ≤ w.heap.size) : (w.alloc (.cells #[u] e)).ownsRow n e 1 (.slice (some ⟨w.heap.size, 0, none⟩) 1 1) 1 [u] :=
  ⟨by simp, .inr ⟨w.heap.size, 1, #[u], rfl, hn, heap_alloc_new w _, by omega, by simp [maxLen], by simp, by simp⟩⟩
theorem info_int : (Tryd.prog.info? 3).map (fun i => (i.zero, i.size, i.bytes)) = some (some (.int .i64 0), 1, 8) := by kernel_rfl
def StRel (w2 : World) (s : ByteArray) (v5 v6 : Value) (wr : World) : Prop :=
  ∃ (i k c : Nat) (A : Option Addr), v5 = .slice A k c ∧ v6 = .int .i64 i ∧ i ≤ s.size ∧ k ≤ i + 1 ∧ Hid (k = (st (s.data.toList.take i)).length) ∧ Hid (wr.ownsRow w2.heap.size 3 1 (.slice A k c) k (icl (st (s.data.toList.take i)))) ∧ Hid (Below w2.heap.size w2 wr)

def PlRel (W : World) (L : List UInt8) (l : List Tok) (v7 v8 v9 v10 : Value) (wr : World) : Prop :=
  ∃ (i ln0 cl0 : Nat) (sm : Bool), v7 = .int .i64 ln0 ∧ v8 = .int .i64 cl0 ∧ v9 = .bool sm ∧ v10 = .int .i64 i ∧ i ≤ l.length ∧ Hid (Placed L ln0 cl0 sm (l.drop i)) ∧ Hid (sm = true → ∃ j t, i = j + 1 ∧ l[j]? = some t ∧ t.line = ln0) ∧ Hid (Below W.heap.size W wr)
theorem icl_at {L : List Nat} {m x : Nat} (h : L[m]? = some x) : (icl L)[m]? = some (.int .i64 (x : Int)) := by simp [icl, h]
theorem Rd.int {w : World} {S : Nat → Prop} {A : Option Addr} {L : List Nat} (h : Rd w S A (icl L)) {m x : Nat} (hm : L[m]? = some x) : ∃ ad, A = some ad ∧ S (ad.add m).block ∧ w.cell? (ad.add m) = some (.int .i64 (x : Int)) := by
  have hlt : m < L.length := by
    rcases Nat.lt_or_ge m L.length with h | h
    · exact h
    · rw [List.getElem?_eq_none h] at hm; cases hm
  obtain ⟨ad, e, hS, hc⟩ := h (by rw [icl_length]; omega)
  exact ⟨ad, e, by rw [block_of_add]; exact hS, hc m _ (icl_at hm)⟩
theorem ext_eq {s : ByteArray} {a : Nat} {x : List UInt8} (h : (s.data.toList.drop a).take x.length = x) (hl : a + x.length ≤ s.size) : s.extract a (a + x.length) = ⟨x.toArray⟩ := by
  apply ByteArray.ext
  apply Array.ext'
  simp [ByteArray.data_extract]
  rw [← h]
  simp
set_option maxRecDepth 100000 in
set_option maxHeartbeats 4000000 in
theorem places_ok (s : ByteArray) (hs : s.size ≤ 3000) (w : World) (hE : Tk.Env w) (l : List Tok) (h1 : lex s.data.toList 1 1 false = .ok l) (hl : l.length ≤ 6000) (hp : Placed s.data.toList 0 0 false l) :
    Calls Tryd.prog 5 #[.string s] w fun e w' => e = .returned (.bool true) ∧ Below w.heap.size w w' := by
  have H := Lib.hid (lives_any w hE)
  have C1 := Lib.hid (fun w' (h : Below w.heap.size w w') => all_ok2 (s := s) (by rw [lexAll_small (by omega)]; exact h1) w' (hE.on h))
  have HP := Lib.hid hp
  have hs2 : ¬ (3000 : Int) < (s.size : Int) := by omega
  clear hE h1 hp
  go_enter Tryd.func5, Tryd.ntmps5
  go_wp2_with (first
    | (go_at_call 10; refine H.out.mono ?_; rintro e w1 ⟨rfl, hb⟩; have HB := Lib.hid hb; clear hb)
    | (go_at_call 9; ((with_reducible refine (C1.out _ HB.out).mono ?_); rintro e w2 ⟨A1, c1, rfl, hcap1, hr, hb⟩; have R1 := Lib.hid hr.old; have HB2 := Lib.hid (keep_trans HB.out hb); clear hb hr))
    | fail)
  have HI : Hid (StRel w2 s (.slice (some ⟨w2.heap.size + 1, 0, none⟩) 1 1) (.int .i64 ((0 : Nat) : Int)) ((w2.alloc (.cells #[.int .i64 0, .int .i64 0, .int .i64 0] 25)).alloc (.cells #[.int .i64 0] 3))) := Lib.hid ⟨0, 1, 1, _, rfl, rfl, by omega, by omega, rfl, by
    have := own_lit1 (w2.alloc (.cells #[.int .i64 0, .int .i64 0, .int .i64 0] 25)) w2.heap.size 3 (.int .i64 0) rfl (by simp)
    rw [World.size_alloc] at this
    show World.ownsRow _ _ _ _ _ _ _
    exact this, two_box _ _ _⟩
  go_loopw [5, 6] (fun v5 v6 wr => StRel w2 s v5 v6 wr) (fun _ v _ => s.size - (intOf v).toNat)
  case atStart => exact HI.out
  case round =>
    obtain ⟨i, k, c, A, rfl, rfl, hi, hki, hk, hO, hB⟩ := hrel
    by_cases hlt : i < s.size
    · have hn := st_take s i hlt
      have HN := Lib.hid hn
      have hii : (i : Int) < (s.size : Int) := by omega
      by_cases h10 : s[i].toNat = 10
      · have ht : ((s[i].toNat : Int) == 10) = true := by rw [beq_iff_eq]; omega
        have HX := Lib.hid h10
        clear hn h10
        go_wp2_with (at_builtin; refine wpList_append_rd rfl (.tmp 50) (.tmp 53) 38 rfl w2.heap.size 3 _ 1 8 Tryd.underlying38 info_int rfl (by omega) (by omega) (.slice A k c) k (icl (st (s.data.toList.take i))) rfl (hO.out.alloc _) (fun _ => True) _ 1 1 [.int .i64 ((i : Int) + 1)] rfl rfl (rd_lit1 _ _ _) (by simp [Value.oneCell']) (by omega) (by have := hB.out.size; simp; omega) ?_; intro v' w1 hown hbel; obtain ⟨A', c', rfl, -, -⟩ := own_form hown.out)
        go_roundw
        case rel => exact ⟨i + 1, k + 1, c', A', rfl, by go_num, by omega, by omega, by show _ = _; rw [HN.out, if_pos HX.out, List.length_append, ← hk.out]; rfl, by rw [HN.out, if_pos HX.out]; have := hown.out; show World.ownsRow _ _ _ _ _ _ _; simpa [icl] using this, (hB.out.alloc hB.out.size _).trans hbel.out⟩
        case measure => simp [intOf]; omega
      · have ht : ((s[i].toNat : Int) == 10) = false := by rw [beq_eq_false_iff_ne]; omega
        have HX := Lib.hid h10
        clear hn h10
        go_wp2
        go_roundw
        case rel => exact ⟨i + 1, k, c, A, rfl, by go_num, by omega, by omega, by show _ = _; rw [HN.out, if_neg HX.out, List.append_nil]; exact hk.out, by rw [HN.out, if_neg HX.out, List.append_nil]; exact hO, hB⟩
        case measure => simp [intOf]; omega
    · obtain rfl : i = s.size := by omega
      have hii : ¬ (s.size : Int) < (s.size : Int) := by omega
      have eL : s.data.toList.take s.size = s.data.toList := List.take_of_length_le (by rw [← Lib.size_eq s]; exact Nat.le_refl _)
      rw [eL] at hk hO
      obtain ⟨A', c', e', hkc, hrd⟩ := own_form hO.out
      injection e' with e1 e2 e3
      subst e1
      subst e3
      have RS := Lib.hid hrd.old
      have HKL := Lib.hid hk.out
      have hk1 : k ≤ 3001 := by omega
      clear hrd hO eL hk
      go_wp2
      have R2 := Lib.hid (R1.out.later hB.out)
      have HI2 : Hid (PlRel wr s.data.toList l (.int .i64 ((0 : Nat) : Int)) (.int .i64 ((0 : Nat) : Int)) (.bool false) (.int .i64 ((0 : Nat) : Int)) wr) := Lib.hid ⟨0, 0, 0, false, rfl, rfl, rfl, rfl, by omega, by rw [List.drop_zero]; exact HP, by show _ → _; simp, Below.refl _ _⟩
      go_loopw [7, 8, 9, 10] (fun v7 v8 v9 v10 wr2 => PlRel wr s.data.toList l v7 v8 v9 v10 wr2) (fun _ _ _ v _ => l.length - (intOf v).toNat)
      case atStart => exact HI2.out
      case round =>
        obtain ⟨i, ln0, cl0, sm, rfl, rfl, rfl, rfl, hi, hPl, hPr, hB2⟩ := hrel
        by_cases hlt : i < l.length
        · obtain ⟨t, ht⟩ := tok_at l (n := l.length) rfl hlt
          have hdr : l.drop i = t :: l.drop (i + 1) := by
            rw [List.drop_eq_getElem_cons hlt]
            rw [List.getElem?_eq_getElem hlt] at ht
            rw [Option.some.inj ht]
          have hpl := hPl.out
          rw [hdr] at hpl
          obtain ⟨ln, cl, s0, e1, e2, p1, p2, p3, p4, p5, p6, p7⟩ := hpl
          obtain ⟨ad, hA, hS, ⟨a0, a1, a2, a3, a4⟩⟩ := (R2.out.below2 hB2.out).tok ht
          obtain ⟨sd, hA5, hS5, b0⟩ := RS.out.int p3
          have hmk : ln - 1 < k := by
            rw [HKL.out]
            rcases Nat.lt_or_ge (ln - 1) (st s.data.toList).length with h | h
            · exact h
            · rw [List.getElem?_eq_none h] at p3; cases p3
          have KS : ∀ o, (wr.alloc o).cell? (sd.add (ln - 1)) = some (.int .i64 (s0 : Int)) := fun o => ((World.cell?_of_block (Below.heap_alloc wr o _ (Nat.lt_of_lt_of_le hS5 hB2.out.size))).trans (World.cell?_of_block (hB2.out.block _ hS5))).trans b0
          subst hA
          subst hA5
          obtain ⟨m, hm⟩ : ∃ m, m = ln - 1 := ⟨_, rfl⟩
          rw [← hm] at KS hmk
          obtain ⟨b, hb⟩ : ∃ b, b = s0 + cl := ⟨_, rfl⟩
          obtain ⟨a, ha⟩ : ∃ a, a = s0 + cl - 1 := ⟨_, rfl⟩
          have hsc : s0 + cl ≤ 3001 := by
            have hz := Lib.size_eq s
            rcases p7 with ⟨_, _, h, _⟩ | ⟨_, _, h, _⟩ <;> omega
          rw [← ha] at p7
          have q1 : (ln : Int) - 1 = (m : Int) := by omega
          have q2 : IntKind.i64.wrap (m : Int) = (m : Int) := IntWalk.i64_in _ (by omega)
          have q3 : (s0 : Int) + (cl : Int) = (b : Int) := by omega
          have q4 : IntKind.i64.wrap (b : Int) = (b : Int) := IntWalk.i64_in _ (by omega)
          have q5 : (b : Int) - 1 = (a : Int) := by omega
          have q6 : IntKind.i64.wrap (a : Int) = (a : Int) := IntWalk.i64_in _ (by omega)
          have q7 : (m : Int) < (k : Int) := by omega
          have q8 : decide ((ln : Int) < 1) = false := by rw [decide_eq_false_iff_not]; omega
          have q9 : decide ((k : Int) < (ln : Int)) = false := by rw [decide_eq_false_iff_not]; omega
          have q10 : decide ((cl : Int) < 1) = false := by rw [decide_eq_false_iff_not]; omega
          have q11 : decide ((ln : Int) < (ln0 : Int)) = false := by rw [decide_eq_false_iff_not]; omega
          have q12 : decide (k < ln) = false := by rw [decide_eq_false_iff_not]; omega
          have q13 : decide (ln < ln0) = false := by rw [decide_eq_false_iff_not]; omega
          have hii : (i : Int) < (l.length : Int) := by omega
          have HM := Lib.hid hm
          have HBB := Lib.hid hb
          have HAA := Lib.hid ha
          have HT := Lib.hid ht
          obtain ⟨kd, tx, nm, tl, tcl⟩ := t
          dsimp only at e1 e2 a0 a1 a2 a3 a4 p7
          subst e1
          subst e2
          clear hm hb ha hdr b0 hS hS5 p3 ht
          rcases p7 with ⟨rfl, rfl, p8, p9, rfl, p10⟩ | ⟨hk4, hne, p8, p9, p10⟩
          · obtain rfl := p6 rfl
            have HP10 := Lib.hid p10
            obtain ⟨j, u, hj, hu, hul⟩ := hPr.out rfl
            obtain ⟨ad', e', hS', ⟨-, -, -, c3, -⟩⟩ := (R2.out.below2 hB2.out).tok hu
            injection e' with e'
            subst e'
            rw [hul] at c3
            have KP : ∀ o, (wr.alloc o).cell? ⟨(ad.add (j * 5)).block, (ad.add (j * 5)).off + 3, none⟩ = some (.int .i64 (ln : Int)) := fun o => (World.cell?_of_block (Below.heap_alloc wr o _ (by show (ad.add (j * 5)).block < _; rw [block_of_add]; exact Nat.lt_of_lt_of_le hS' hB2.out.size))).trans c3
            have r1 : (i : Int) - 1 = (j : Int) := by omega
            have r2 : IntKind.i64.wrap (j : Int) = (j : Int) := IntWalk.i64_in _ (by omega)
            have r3 : (j : Int) < (l.length : Int) := by omega
            have p5b := p5 rfl
            have r4 : decide ((cl : Int) ≤ (cl0 : Int)) = false := by rw [decide_eq_false_iff_not]; omega
            have r4n : decide (cl ≤ cl0) = false := by rw [decide_eq_false_iff_not]; omega
            have HJ := Lib.hid hj
            clear hj hu hul c3 p10 p4 p5 p6 p5b
            rw [← Lib.size_eq] at p8 p9
            have y1 : decide ((s.size : Int) < (a : Int)) = false := by rw [decide_eq_false_iff_not]; omega
            have y1n : decide (s.size < a) = false := by rw [decide_eq_false_iff_not]; omega
            by_cases has : a < s.size
            · have h10 : s[a].toNat = 10 := by
                have := p9 has
                rw [List.getElem?_eq_getElem (by rw [← Lib.size_eq]; exact has)] at this
                have e : s[a] = s.data.toList[a]'(by rw [← Lib.size_eq]; exact has) := by simp [ByteArray.getElem_eq_getElem_data]
                rw [e, Option.some.inj this]; rfl
              have z1 : (a : Int) < (s.size : Int) := by omega
              have z2 : decide ((a : Int) < (s.size : Int)) = true := by rw [decide_eq_true_iff]; omega
              have z3 : ((s[a].toNat : Int) == 10) = true := by rw [beq_iff_eq]; omega
              clear p8 p9
              go_wp2
              go_quiet (fail)
              go_wp2
              go_quiet (fail)
              go_wp2
              go_quiet (fail)
              go_wp2
              go_roundw
              case rel => exact ⟨i + 1, ln, cl, false, rfl, rfl, rfl, by go_num, by omega, HP10, Lib.hid (fun h => by cases h), Lib.hid (by repeat first | exact hB2.out.alloc hB2.out.size _ | refine below_drewN ?_ _ | refine below_drew ?_)⟩
              case measure => simp [intOf]; omega
            · have z1 : ¬ (a : Int) < (s.size : Int) := by omega
              have z2 : decide ((a : Int) < (s.size : Int)) = false := by rw [decide_eq_false_iff_not]; omega
              clear p8 p9
              go_wp2
              go_quiet (fail)
              go_wp2
              go_quiet (fail)
              go_wp2
              go_quiet (fail)
              go_wp2
              go_roundw
              case rel => exact ⟨i + 1, ln, cl, false, rfl, rfl, rfl, by go_num, by omega, HP10, Lib.hid (fun h => by cases h), Lib.hid (by repeat first | exact hB2.out.alloc hB2.out.size _ | refine below_drewN ?_ _ | refine below_drew ?_)⟩
              case measure => simp [intOf]; omega
          · have hk4b : (kd == 4) = false := beq_eq_false_iff_ne.2 hk4
            have HP10 := Lib.hid p10
            obtain ⟨e, he⟩ : ∃ e, e = a + tx.length := ⟨_, rfl⟩
            rw [← Lib.size_eq] at p8
            have hex : s.extract a e = ⟨tx.toArray⟩ := by rw [he]; exact ext_eq p9 p8
            have htx : 0 < tx.length := List.length_pos_iff.2 hne
            have x1 : (a : Int) + (tx.length : Int) = (e : Int) := by omega
            have x2 : IntKind.i64.wrap (e : Int) = (e : Int) := IntWalk.i64_in _ (by omega)
            have x3 : decide ((s.size : Int) < (e : Int)) = false := by rw [decide_eq_false_iff_not]; omega
            have x3n : decide (s.size < e) = false := by rw [decide_eq_false_iff_not]; omega
            have x4 : ((tx.length : Int) == 0) = false := by rw [beq_eq_false_iff_ne]; omega
            have x5 : (a : Int) ≤ (e : Int) := by omega
            have x6 : (e : Int) ≤ (s.size : Int) := by omega
            have x7 : a ≤ e := by omega
            have x8 : e ≤ s.size := by omega
            have HEE := Lib.hid he
            clear he p8 p9 hne
            cases sm with
            | true =>
              obtain rfl := p6 rfl
              obtain ⟨j, u, hj, hu, hul⟩ := hPr.out rfl
              obtain ⟨ad', e', hS', ⟨-, -, -, c3, -⟩⟩ := (R2.out.below2 hB2.out).tok hu
              injection e' with e'
              subst e'
              rw [hul] at c3
              have KP : ∀ o, (wr.alloc o).cell? ⟨(ad.add (j * 5)).block, (ad.add (j * 5)).off + 3, none⟩ = some (.int .i64 (ln : Int)) := fun o => (World.cell?_of_block (Below.heap_alloc wr o _ (by show (ad.add (j * 5)).block < _; rw [block_of_add]; exact Nat.lt_of_lt_of_le hS' hB2.out.size))).trans c3
              have r1 : (i : Int) - 1 = (j : Int) := by omega
              have r2 : IntKind.i64.wrap (j : Int) = (j : Int) := IntWalk.i64_in _ (by omega)
              have r3 : (j : Int) < (l.length : Int) := by omega
              have p5b := p5 rfl
              have r4 : decide ((cl : Int) ≤ (cl0 : Int)) = false := by rw [decide_eq_false_iff_not]; omega
              have r4n : decide (cl ≤ cl0) = false := by rw [decide_eq_false_iff_not]; omega
              have HJ := Lib.hid hj
              clear hj hu hul c3 p10 p4 p5 p6 p5b
              go_wp2
              go_quiet (fail)
              go_wp2
              go_quiet (fail)
              go_wp2
              go_quiet (fail)
              go_wp2
              go_roundw
              case rel => exact ⟨i + 1, ln, cl, true, rfl, rfl, rfl, by go_num, by omega, HP10, Lib.hid (fun _ => ⟨i, _, rfl, HT.out, rfl⟩), Lib.hid (by repeat first | exact hB2.out.alloc hB2.out.size _ | refine below_drewN ?_ _ | refine below_drew ?_)⟩
              case measure => simp [intOf]; omega
            | false =>
              by_cases hln : ln = ln0
              · subst hln
                have p5b := p5 rfl
                have r4 : decide ((cl : Int) ≤ (cl0 : Int)) = false := by rw [decide_eq_false_iff_not]; omega
                have r4n : decide (cl ≤ cl0) = false := by rw [decide_eq_false_iff_not]; omega
                clear p10 p4 p5 p6 p5b
                go_wp2
                go_quiet (fail)
                go_wp2
                go_quiet (fail)
                go_wp2
                go_quiet (fail)
                go_wp2
                go_roundw
                case rel => exact ⟨i + 1, ln, cl, true, rfl, rfl, rfl, by go_num, by omega, HP10, Lib.hid (fun _ => ⟨i, _, rfl, HT.out, rfl⟩), Lib.hid (by repeat first | exact hB2.out.alloc hB2.out.size _ | refine below_drewN ?_ _ | refine below_drew ?_)⟩
                case measure => simp [intOf]; omega
              · have r4 : ((ln : Int) == (ln0 : Int)) = false := by rw [beq_eq_false_iff_ne]; omega
                have r5 : (ln == ln0) = false := by rw [beq_eq_false_iff_ne]; omega
                clear p10 p4 p5 p6
                go_wp2
                go_quiet (fail)
                go_wp2
                go_quiet (fail)
                go_wp2
                go_quiet (fail)
                go_wp2
                go_roundw
                case rel => exact ⟨i + 1, ln, cl, true, rfl, rfl, rfl, by go_num, by omega, HP10, Lib.hid (fun _ => ⟨i, _, rfl, HT.out, rfl⟩), Lib.hid (by repeat first | exact hB2.out.alloc hB2.out.size _ | refine below_drewN ?_ _ | refine below_drew ?_)⟩
                case measure => simp [intOf]; omega
        · obtain rfl : i = l.length := by omega
          have hpz := hPl.out
          rw [List.drop_eq_nil_of_le (Nat.le_refl _)] at hpz
          obtain rfl : sm = false := hpz
          have hii : ¬ (l.length : Int) < (l.length : Int) := by omega
          go_wp2
          go_ret
          exact ⟨rfl, keep_trans HB2.out (hB.out.trans (hB2.out.mono hB.out.size))⟩

set_option maxRecDepth 100000 in
set_option maxHeartbeats 1000000 in
theorem places_long (s : ByteArray) (h : 3000 < s.size) (w : World) (hE : Tk.Env w) : Calls Tryd.prog 5 #[.string s] w fun e w' => e = .returned (.bool true) ∧ Below w.heap.size w w' := by
  have H := Lib.hid (lives_any w hE)
  clear hE
  have hs2 : (3000 : Int) < (s.size : Int) := by omega
  clear h
  go_enter Tryd.func5, Tryd.ntmps5
  go_wp2_with (go_at_call 10; refine H.out.mono ?_; rintro e w1 ⟨rfl, hb⟩)
  go_ret
  exact ⟨rfl, hb⟩
set_option maxRecDepth 100000 in
set_option maxHeartbeats 1000000 in
theorem places_bad (s : ByteArray) (hs : s.size ≤ 3000) (w : World) (hE : Tk.Env w) (er l k : Nat) (h1 : lex s.data.toList 1 1 false = .bad er l k) :
    Calls Tryd.prog 5 #[.string s] w fun e w' => e = .returned (.bool true) ∧ Below w.heap.size w w' := by
  have H := Lib.hid (lives_any w hE)
  have C1 := Lib.hid (fun w' (h : Below w.heap.size w w') => all_bad (s := s) (by rw [lexAll_small (by omega)]; exact h1) w' (hE.on h))
  have herr := lexAll_err (s := s) (by rw [lexAll_small (by omega)]; exact h1)
  have he : ((er : Int) == 0) = false := by have := herr.1; rw [beq_eq_false_iff_ne]; omega
  have hl1 : (1 : Int) ≤ (l : Int) := by omega
  have hk1 : (1 : Int) ≤ (k : Int) := by omega
  have hl2 : decide ((1 : Int) ≤ (l : Int)) = true := by rw [decide_eq_true_iff]; omega
  have hk2 : decide ((1 : Int) ≤ (k : Int)) = true := by rw [decide_eq_true_iff]; omega
  have hs2 : ¬ (3000 : Int) < (s.size : Int) := by omega
  clear hE h1 herr
  go_enter Tryd.func5, Tryd.ntmps5
  go_wp2_with (first
    | (go_at_call 10; refine H.out.mono ?_; rintro e w1 ⟨rfl, hb⟩; have HB := Lib.hid hb; clear hb)
    | (go_at_call 9; ((with_reducible refine (C1.out _ HB.out).mono ?_); rintro e w2 ⟨rfl, hb⟩; have HB2 := Lib.hid (keep_trans HB.out hb); clear hb))
    | fail)
  go_ret
  exact ⟨rfl, keep_trans HB2.out (one_box _ _)⟩
theorem places_all (s : ByteArray) (w : World) (hE : Tk.Env w) : Calls Tryd.prog 5 #[.string s] w fun e w' => e = .returned (.bool true) ∧ Below w.heap.size w w' := by
  by_cases h : 3000 < s.size
  · exact places_long s h w hE
  · have hs : s.size ≤ 3000 := by omega
    have hz := Lib.size_eq s
    cases h1 : lex s.data.toList 1 1 false with
    | bad er l c => exact places_bad s hs w hE er l c h1
    | ok l =>
      have q1 := lex_count _ _ _ _ _ h1
      simp at q1
      rw [hz] at hs
      simp at hs
      exact places_ok s (by rw [hz]; simpa using hs) w hE l h1 (by omega) (all_placed h1)
end Go.Proofs.YtgcphhialllieaaDoor.Lx
