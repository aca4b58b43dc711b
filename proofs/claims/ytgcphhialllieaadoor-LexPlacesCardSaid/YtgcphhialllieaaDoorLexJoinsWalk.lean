/- The law on two texts with a line's end between, walked. Conditions: the library's variables hold what start-up lays. -/
import Derived.Test.YtgcphhialllieaaDoorLexLives
import Derived.Test.YtgcphhialllieaaDoorLexLaws
namespace Go.Proofs.YtgcphhialllieaaDoor.Lx
open Go.ChangeShapes Go.WideShapes Go.ChangeAt Go.RowKit
set_option linter.unusedVariables false

theorem lex_err : ∀ (bs : List UInt8) (line col : Nat) (sm : Bool) (e l c : Nat), 1 ≤ line → 1 ≤ col → lex bs line col sm = .bad e l c → (e = 3 ∨ e = 7) ∧ 1 ≤ l ∧ 1 ≤ c := by
  intro bs
  have hcons : ∀ {t : Tok} {r : Res} {e l c : Nat}, r.cons t = .bad e l c → r = .bad e l c := by
    intro t r e l c h
    cases r with
    | bad e' l' c' => exact h
    | ok q => cases h
  induction bs using lex_induct with
  | nil => intro line col sm e l c _ _ h; rw [lex_nil] at h; cases h
  | nl c r hk ih =>
    intro line col sm e l c' h1 h2 h
    rw [lex_nl hk] at h
    cases sm with
    | true => rw [if_pos rfl] at h; exact ih _ _ _ _ _ _ (by omega) (by omega) (hcons h)
    | false => rw [if_neg (by decide)] at h; exact ih _ _ _ _ _ _ (by omega) (by omega) h
  | bl c r hk ih => intro line col sm e l c' h1 h2 h; rw [lex_bl hk] at h; exact ih _ _ _ _ _ _ h1 (by omega) h
  | hash c r hk ih => intro line col sm e l c' h1 h2 h; rw [lex_hash hk] at h; exact ih _ _ _ _ _ _ h1 (by omega) h
  | word c r hk ih =>
    intro line col sm e l c' h1 h2 h
    rw [lex_let hk] at h
    split at h
    · injection h with e1 e2 e3; omega
    · exact ih _ _ _ _ _ _ h1 (by omega) (hcons h)
  | num c r hk ih =>
    intro line col sm e l c' h1 h2 h
    rw [lex_dig hk] at h
    split at h
    · injection h with e1 e2 e3; omega
    · split at h
      · injection h with e1 e2 e3; omega
      · split at h
        · injection h with e1 e2 e3; omega
        · exact ih _ _ _ _ _ _ h1 (by omega) (hcons h)
  | bad c r hk =>
    intro line col sm e l c' h1 h2 h
    rw [lex_bad (bs := c :: r) hk] at h
    injection h with e1 e2 e3; omega
theorem lexAll_err {s : ByteArray} {e l c : Nat} (h : lexAll s = .bad e l c) : (e = 3 ∨ e = 7) ∧ 1 ≤ l ∧ 1 ≤ c := by
  unfold lexAll at h
  split at h
  · injection h with e1 e2 e3; omega
  · exact lex_err _ _ _ _ _ _ _ (by omega) (by omega) h
theorem lexAll_small {s : ByteArray} (h : s.size ≤ 65536) : lexAll s = lex s.data.toList 1 1 false := by unfold lexAll; rw [if_neg (by omega)]

theorem nls_take (s : ByteArray) (k : Nat) (h : k < s.size) : nls (s.data.toList.take (k + 1)) = nls (s.data.toList.take k) + if s[k].toNat = 10 then 1 else 0 := by
  have e : s.data.toList.take (k + 1) = s.data.toList.take k ++ [s[k]] := Tk.take_snoc s k h
  rw [e]
  unfold nls
  rw [List.countP_append, List.countP_singleton]
  have hk : (kindOf s[k] == 3) = decide (s[k].toNat = 10) := by
    rw [Bool.eq_iff_iff, beq_iff_eq, decide_eq_true_iff]
    constructor
    · intro h3; unfold kindOf at h3; split at h3 <;> rename_i a
      · omega
      · split at h3 <;> rename_i b
        · exact b
        · split at h3 <;> (try omega); split at h3 <;> (try omega); split at h3 <;> (try omega); split at h3 <;> omega
    · intro h3; unfold kindOf; rw [if_neg (by omega), if_pos h3]
  rw [hk]
  by_cases h10 : s[k].toNat = 10 <;> simp [h10]

set_option maxRecDepth 100000 in
set_option maxHeartbeats 1000000 in
theorem joins_long (s t : ByteArray) (h : 1500 < s.size ∨ 1500 < t.size) (w : World) (hE : Tk.Env w) : Calls Tryd.prog 7 #[.string s, .string t] w fun e w' => e = .returned (.bool true) ∧ Below w.heap.size w w' := by
  have H := Lib.hid (lives_any w hE)
  clear hE
  by_cases hs : 1500 < s.size
  · have hs2 : (1500 : Int) < (s.size : Int) := by omega
    clear h hs
    go_enter Tryd.func7, Tryd.ntmps7
    go_wp2_with (go_at_call 10; refine H.out.mono ?_; rintro e w1 ⟨rfl, hb⟩)
    go_ret
    exact ⟨rfl, hb⟩
  · have hs2 : ¬ (1500 : Int) < (s.size : Int) := by omega
    have ht2 : (1500 : Int) < (t.size : Int) := by omega
    clear h hs
    go_enter Tryd.func7, Tryd.ntmps7
    go_wp2_with (go_at_call 10; refine H.out.mono ?_; rintro e w1 ⟨rfl, hb⟩)
    go_ret
    exact ⟨rfl, hb⟩

/-- any text: some row, some fault -/
theorem all_gen (s : ByteArray) (w : World) (hE : Tk.Env w) : Calls Tryd.prog 9 #[.string s] w fun e w' => ∃ A n c, ∃ f0 f1 f2 : Int, e = .returned (.tuple #[.slice A n c, .agg #[.int .i64 f0, .int .i64 f1, .int .i64 f2]]) ∧ Below w.heap.size w w' := by
  refine (all_any s w hE).mono ?_
  rintro e w' (⟨er, l, c, _, he, hb⟩ | ⟨t, A, c, _, he, _, _, _, hb⟩)
  · exact ⟨_, _, _, _, _, _, he, hb⟩
  · exact ⟨_, _, _, _, _, _, he, hb⟩
theorem size_app (a b : ByteArray) : (a ++ b).size = a.size + b.size := by simp
theorem join_data (s t : ByteArray) : (s ++ ⟨#[10]⟩ ++ t).data.toList = s.data.toList ++ 10 :: t.data.toList := by simp
theorem join_size (s t : ByteArray) : (s ++ ⟨#[10]⟩ ++ t).size = s.size + 1 + t.size := by rw [size_app, size_app]; rfl
theorem nls_le (l : List UInt8) : nls l ≤ l.length := List.countP_le_length
set_option maxRecDepth 100000 in
set_option maxHeartbeats 1000000 in
theorem joins_bad (s t : ByteArray) (hs : s.size ≤ 1500) (ht : t.size ≤ 1500) (w : World) (hE : Tk.Env w) (er l c : Nat) (h1 : lex s.data.toList 1 1 false = .bad er l c) :
    Calls Tryd.prog 7 #[.string s, .string t] w fun e w' => e = .returned (.bool true) ∧ Below w.heap.size w w' := by
  have H := Lib.hid (lives_any w hE)
  have C1 := Lib.hid (fun w' (h : Below w.heap.size w w') => all_bad (s := s) (by rw [lexAll_small (by omega)]; exact h1) w' (hE.on h))
  have C2 := Lib.hid (fun w' (h : Below w.heap.size w w') => all_gen t w' (hE.on h))
  have C3 := Lib.hid (fun w' (h : Below w.heap.size w w') => all_bad (s := s ++ ⟨#[10]⟩ ++ t) (er := er) (l := l) (c := c) (by rw [lexAll_small (by rw [join_size]; omega), join_data, lex_two, h1]; rfl) w' (hE.on h))
  have he : ((er : Int) == 0) = false := by have := (lexAll_err (s := s) (by rw [lexAll_small (by omega)]; exact h1)).1; rw [beq_eq_false_iff_ne]; omega
  have hs2 : ¬ (1500 : Int) < (s.size : Int) := by omega
  have ht2 : ¬ (1500 : Int) < (t.size : Int) := by omega
  clear hE h1
  go_enter Tryd.func7, Tryd.ntmps7
  go_wp2_with (go_at_call 10; refine H.out.mono ?_; rintro e w1 ⟨rfl, hb⟩; have HB := Lib.hid hb; clear hb)
  go_loop [5, 6] (fun v5 v6 => ∃ k : Nat, v6 = .int .i64 k ∧ k ≤ s.size ∧ v5 = .int .i64 ((1 + nls (s.data.toList.take k) : Nat) : Int)) (fun _ v6 => s.size - (intOf v6).toNat)
  case atStart => exact ⟨0, rfl, Nat.zero_le _, rfl⟩
  case round =>
    obtain ⟨k, rfl, hk, rfl⟩ := hrel
    obtain ⟨q, hq⟩ : ∃ q, q = nls (s.data.toList.take k) := ⟨_, rfl⟩
    have hqk : q ≤ k := by rw [hq]; exact Nat.le_trans List.countP_le_length (List.length_take_le _ _)
    by_cases hlt : k < s.size
    · have hn := nls_take s k hlt
      rw [← hq] at hn
      have HN := Lib.hid hn
      have HQ := Lib.hid hq
      rw [← hq]
      have hi : (k : Int) < (s.size : Int) := by omega
      by_cases h10 : s[k].toNat = 10
      · have ht : ((s[k].toNat : Int) == 10) = true := by rw [beq_iff_eq]; omega
        have HX := Lib.hid h10
        clear hn hq h10
        go_wp2
        go_round
        case rel => exact ⟨k + 1, by go_num, by omega, by rw [HN.out, if_pos HX.out]; go_num⟩
        case measure => simp [intOf]; omega
      · have ht : ((s[k].toNat : Int) == 10) = false := by rw [beq_eq_false_iff_ne]; omega
        have HX := Lib.hid h10
        clear hn hq h10
        go_wp2
        go_round
        case rel => exact ⟨k + 1, by go_num, by omega, by rw [HN.out, if_neg HX.out]; go_num⟩
        case measure => simp [intOf]; omega
    · have hfull : q = nls s.data.toList := by rw [hq, List.take_of_length_le (by rw [← Lib.size_eq]; omega)]
      have HQ := Lib.hid hfull
      rw [← hq]
      clear hq hfull
      have hi : ¬ (k : Int) < (s.size : Int) := by omega
      go_wp2_with (first
        | (go_at_call 9; ((with_reducible refine (C1.out _ HB.out).mono ?_); rintro e w2 ⟨rfl, hb⟩; have HB2 := Lib.hid (keep_trans HB.out hb); clear hb))
        | (go_at_call 9; ((with_reducible refine (C2.out _ (keep_trans HB2.out (one_box _ _))).mono ?_); rintro e w3 ⟨A, n, cc, f0, f1, f2, rfl, hb⟩; have K1 := Lib.hid ((Blk.new w2 25 [.int .i64 er, .int .i64 l, .int .i64 c]).after hb); have HB3 := Lib.hid (keep_trans (keep_trans HB2.out (one_box _ _)) hb); clear hb))
        | (go_at_call 9; ((with_reducible refine (C3.out _ (keep_trans HB3.out (one_box _ _))).mono ?_); rintro e w4 ⟨rfl, hb⟩; have K2 := Lib.hid ((K1.out.alloc _).after hb); have HB4 := Lib.hid (keep_trans (keep_trans HB3.out (one_box _ _)) hb); clear hb; have a0 : ∀ o, (w4.alloc o).cell? ⟨w2.heap.size, 0, none⟩ = some (.int .i64 er) := fun o => (K2.out.alloc o).cell 0; have a1 : ∀ o, (w4.alloc o).cell? ⟨w2.heap.size, 1, none⟩ = some (.int .i64 l) := fun o => (K2.out.alloc o).cell 1; have a2 : ∀ o, (w4.alloc o).cell? ⟨w2.heap.size, 2, none⟩ = some (.int .i64 c) := fun o => (K2.out.alloc o).cell 2)))
      go_ret
      exact ⟨rfl, keep_trans HB4.out (one_box _ _)⟩

set_option maxRecDepth 100000 in
set_option maxHeartbeats 1000000 in
theorem joins_bad2 (s t : ByteArray) (hs : s.size ≤ 1500) (ht : t.size ≤ 1500) (w : World) (hE : Tk.Env w) (a : List Tok) (er l c : Nat) (h1 : lex s.data.toList 1 1 false = .ok a) (h2 : lex t.data.toList 1 1 false = .bad er l c) (hl : l ≤ 100000) :
    Calls Tryd.prog 7 #[.string s, .string t] w fun e w' => e = .returned (.bool true) ∧ Below w.heap.size w w' := by
  have H := Lib.hid (lives_any w hE)
  have C1 := Lib.hid (fun w' (h : Below w.heap.size w w') => all_ok (s := s) (by rw [lexAll_small (by omega)]; exact h1) w' (hE.on h))
  have C2 := Lib.hid (fun w' (h : Below w.heap.size w w') => all_bad (s := t) (by rw [lexAll_small (by omega)]; exact h2) w' (hE.on h))
  have C3 := Lib.hid (fun w' (h : Below w.heap.size w w') => all_bad (s := s ++ ⟨#[10]⟩ ++ t) (er := er) (l := l + (nls s.data.toList + 1)) (c := c) (by rw [lexAll_small (by rw [join_size]; omega), join_data, lex_two, h1, h2]; rfl) w' (hE.on h))
  have he : ((er : Int) == 0) = false := by have := (lexAll_err (s := t) (by rw [lexAll_small (by omega)]; exact h2)).1; rw [beq_eq_false_iff_ne]; omega
  have hs2 : ¬ (1500 : Int) < (s.size : Int) := by omega
  have ht2 : ¬ (1500 : Int) < (t.size : Int) := by omega
  clear hE h1 h2
  go_enter Tryd.func7, Tryd.ntmps7
  go_wp2_with (go_at_call 10; refine H.out.mono ?_; rintro e w1 ⟨rfl, hb⟩; have HB := Lib.hid hb; clear hb)
  go_loop [5, 6] (fun v5 v6 => ∃ k : Nat, v6 = .int .i64 k ∧ k ≤ s.size ∧ v5 = .int .i64 ((1 + nls (s.data.toList.take k) : Nat) : Int)) (fun _ v6 => s.size - (intOf v6).toNat)
  case atStart => exact ⟨0, rfl, Nat.zero_le _, rfl⟩
  case round =>
    obtain ⟨k, rfl, hk, rfl⟩ := hrel
    obtain ⟨q, hq⟩ : ∃ q, q = nls (s.data.toList.take k) := ⟨_, rfl⟩
    have hqk : q ≤ k := by rw [hq]; exact Nat.le_trans List.countP_le_length (List.length_take_le _ _)
    by_cases hlt : k < s.size
    · have hn := nls_take s k hlt
      rw [← hq] at hn
      have HN := Lib.hid hn
      have HQ := Lib.hid hq
      rw [← hq]
      have hi : (k : Int) < (s.size : Int) := by omega
      by_cases h10 : s[k].toNat = 10
      · have ht : ((s[k].toNat : Int) == 10) = true := by rw [beq_iff_eq]; omega
        have HX := Lib.hid h10
        clear hn hq h10
        go_wp2
        go_round
        case rel => exact ⟨k + 1, by go_num, by omega, by rw [HN.out, if_pos HX.out]; go_num⟩
        case measure => simp [intOf]; omega
      · have ht : ((s[k].toNat : Int) == 10) = false := by rw [beq_eq_false_iff_ne]; omega
        have HX := Lib.hid h10
        clear hn hq h10
        go_wp2
        go_round
        case rel => exact ⟨k + 1, by go_num, by omega, by rw [HN.out, if_neg HX.out]; go_num⟩
        case measure => simp [intOf]; omega
    · have hfull : q = nls s.data.toList := by rw [hq, List.take_of_length_le (by rw [← Lib.size_eq]; omega)]
      have HQ := Lib.hid hfull
      rw [← hq]
      clear hq hfull
      have hi : ¬ (k : Int) < (s.size : Int) := by omega
      have HLN : Hid (l + (nls s.data.toList + 1) = l + (1 + q)) := Lib.hid (by rw [HQ.out]; omega)
      rw [HLN.out] at C3
      go_wp2_with (first
        | (go_at_call 9; ((with_reducible refine (C1.out _ HB.out).mono ?_); rintro e w2 ⟨A, cc, rfl, -, -, hb⟩; have HB2 := Lib.hid (keep_trans HB.out hb); clear hb))
        | (go_at_call 9; ((with_reducible refine (C2.out _ (keep_trans HB2.out (one_box _ _))).mono ?_); rintro e w3 ⟨rfl, hb⟩; have K1 := Lib.hid ((Blk.new w2 25 [.int .i64 0, .int .i64 0, .int .i64 0]).after hb); have HB3 := Lib.hid (keep_trans (keep_trans HB2.out (one_box _ _)) hb); clear hb))
        | (go_at_call 9; ((with_reducible refine (C3.out _ (keep_trans HB3.out (one_box _ _))).mono ?_); rintro e w4 ⟨rfl, hb⟩; have K2 := Lib.hid ((K1.out.alloc _).after hb); have K3 := Lib.hid ((Blk.new w3 25 [.int .i64 er, .int .i64 l, .int .i64 c]).after hb); have HB4 := Lib.hid (keep_trans (keep_trans HB3.out (one_box _ _)) hb); clear hb; have a0 : ∀ o, (w4.alloc o).cell? ⟨w2.heap.size, 0, none⟩ = some (.int .i64 0) := fun o => (K2.out.alloc o).cell 0; have b0 : ∀ o, (w4.alloc o).cell? ⟨w3.heap.size, 0, none⟩ = some (.int .i64 er) := fun o => (K3.out.alloc o).cell 0; have b1 : ∀ o, (w4.alloc o).cell? ⟨w3.heap.size, 1, none⟩ = some (.int .i64 l) := fun o => (K3.out.alloc o).cell 1; have b2 : ∀ o, (w4.alloc o).cell? ⟨w3.heap.size, 2, none⟩ = some (.int .i64 c) := fun o => (K3.out.alloc o).cell 2)))
      go_ret
      exact ⟨rfl, keep_trans HB4.out (one_box _ _)⟩

theorem moveT_of (q : Nat) (t : Tok) : moveT (q + 1) t = ⟨t.kind, t.text, t.num, t.line + (1 + (q : Int)), t.col⟩ := by
  unfold moveT
  have : t.line + ((q + 1 : Nat) : Int) = t.line + (1 + (q : Int)) := by omega
  rw [this]
def JnRel (W : World) (a b : List Tok) (q n : Nat) (v13 v14 : Value) (wr : World) : Prop :=
  ∃ (k : Nat) (V13 : Value), V13 = v13 ∧ v14 = .int .i64 k ∧ k ≤ n ∧ Hid (wr.ownsRow W.heap.size 31 5 V13 (a.length + k) (tc (a ++ (b.take k).map (moveT (q + 1))))) ∧ Hid (Below W.heap.size W wr)
set_option maxRecDepth 100000 in
set_option maxHeartbeats 1000000 in
theorem joins_ok (s t : ByteArray) (hs : s.size ≤ 1500) (ht : t.size ≤ 1500) (w : World) (hE : Tk.Env w) (a b : List Tok) (h1 : lex s.data.toList 1 1 false = .ok a) (h2 : lex t.data.toList 1 1 false = .ok b) (hl : ∀ x ∈ b, 0 ≤ x.line ∧ x.line ≤ 100000) (hal : a.length ≤ 10000) (hbl : b.length ≤ 10000) :
    Calls Tryd.prog 7 #[.string s, .string t] w fun e w' => e = .returned (.bool true) ∧ Below w.heap.size w w' := by
  have H := Lib.hid (lives_any w hE)
  have C1 := Lib.hid (fun w' (h : Below w.heap.size w w') => all_ok (s := s) (by rw [lexAll_small (by omega)]; exact h1) w' (hE.on h))
  have C2 := Lib.hid (fun w' (h : Below w.heap.size w w') => all_ok (s := t) (by rw [lexAll_small (by omega)]; exact h2) w' (hE.on h))
  have C3 := Lib.hid (fun w' (h : Below w.heap.size w w') => all_ok (s := s ++ ⟨#[10]⟩ ++ t) (toks := a ++ b.map (moveT (nls s.data.toList + 1))) (by rw [lexAll_small (by rw [join_size]; omega), join_data, lex_two, h1, h2]; rfl) w' (hE.on h))
  have HL := Lib.hid hl
  have hs2 : ¬ (1500 : Int) < (s.size : Int) := by omega
  have ht2 : ¬ (1500 : Int) < (t.size : Int) := by omega
  clear hE h1 h2 hl
  go_enter Tryd.func7, Tryd.ntmps7
  go_wp2_with (go_at_call 10; refine H.out.mono ?_; rintro e w1 ⟨rfl, hb⟩; have HB := Lib.hid hb; clear hb)
  go_loop [5, 6] (fun v5 v6 => ∃ k : Nat, v6 = .int .i64 k ∧ k ≤ s.size ∧ v5 = .int .i64 ((1 + nls (s.data.toList.take k) : Nat) : Int)) (fun _ v6 => s.size - (intOf v6).toNat)
  case atStart => exact ⟨0, rfl, Nat.zero_le _, rfl⟩
  case round =>
    obtain ⟨k, rfl, hk, rfl⟩ := hrel
    obtain ⟨q, hq⟩ : ∃ q, q = nls (s.data.toList.take k) := ⟨_, rfl⟩
    have hqk : q ≤ k := by rw [hq]; exact Nat.le_trans List.countP_le_length (List.length_take_le _ _)
    by_cases hlt : k < s.size
    · have hn := nls_take s k hlt
      rw [← hq] at hn
      have HN := Lib.hid hn
      have HQ := Lib.hid hq
      rw [← hq]
      have hi : (k : Int) < (s.size : Int) := by omega
      by_cases h10 : s[k].toNat = 10
      · have ht : ((s[k].toNat : Int) == 10) = true := by rw [beq_iff_eq]; omega
        have HX := Lib.hid h10
        clear hn hq h10
        go_wp2
        go_round
        case rel => exact ⟨k + 1, by go_num, by omega, by rw [HN.out, if_pos HX.out]; go_num⟩
        case measure => simp [intOf]; omega
      · have ht : ((s[k].toNat : Int) == 10) = false := by rw [beq_eq_false_iff_ne]; omega
        have HX := Lib.hid h10
        clear hn hq h10
        go_wp2
        go_round
        case rel => exact ⟨k + 1, by go_num, by omega, by rw [HN.out, if_neg HX.out]; go_num⟩
        case measure => simp [intOf]; omega
    · have hfull : q = nls s.data.toList := by rw [hq, List.take_of_length_le (by rw [← Lib.size_eq]; omega)]
      have HQ := Lib.hid hfull
      rw [← hq]
      clear hq hfull
      have hi : ¬ (k : Int) < (s.size : Int) := by omega
      rw [← HQ.out] at C3
      go_wp2_with (first
        | (go_at_call 9; ((with_reducible refine (C1.out _ HB.out).mono ?_); rintro e w2 ⟨A1, c1, rfl, -, hr, hb⟩; have R1 := Lib.hid hr.old; have HB2 := Lib.hid (keep_trans HB.out hb); clear hb hr))
        | (go_at_call 9; ((with_reducible refine (C2.out _ (keep_trans HB2.out (one_box _ _))).mono ?_); rintro e w3 ⟨A2, c2, rfl, -, hr, hb⟩; have R2 := Lib.hid hr.old; have G23 := Lib.hid (keep_trans (one_box w2 (.cells #[.int .i64 0, .int .i64 0, .int .i64 0] 25)) hb); have K1 := Lib.hid ((Blk.new w2 25 [.int .i64 0, .int .i64 0, .int .i64 0]).after hb); have HB3 := Lib.hid (keep_trans HB2.out G23.out); clear hb hr))
        | (go_at_call 9; ((with_reducible refine (C3.out _ (keep_trans HB3.out (one_box _ _))).mono ?_); rintro e w4 ⟨A3, c3, rfl, -, hr, hb⟩; have R3 := Lib.hid hr.old; have G34 := Lib.hid (keep_trans (one_box w3 (.cells #[.int .i64 0, .int .i64 0, .int .i64 0] 25)) hb); have K2 := Lib.hid ((K1.out.alloc _).after hb); have K3 := Lib.hid ((Blk.new w3 25 [.int .i64 0, .int .i64 0, .int .i64 0]).after hb); have HB4 := Lib.hid (keep_trans HB3.out G34.out); clear hb hr; have a0 : ∀ o, (w4.alloc o).cell? ⟨w2.heap.size, 0, none⟩ = some (.int .i64 0) := fun o => (K2.out.alloc o).cell 0; have b0 : ∀ o, (w4.alloc o).cell? ⟨w3.heap.size, 0, none⟩ = some (.int .i64 0) := fun o => (K3.out.alloc o).cell 0))
        | (go_at_call 17; refine (own_tok _ A1 a.length c1 a rfl (by omega) (R1.out.later (keep_trans G23.out (keep_trans G34.out (one_box _ _))))).mono ?_; rintro e w5 ⟨A5, c5, rfl, ho, hb⟩; have HO5 := Lib.hid ho; have G45 := Lib.hid hb; clear ho hb))
      generalize hW : w4.alloc (.cells #[.int .i64 0, .int .i64 0, .int .i64 0] 25) = W at G45 HO5
      have X0 : Hid (Blk W w4.heap.size 25 [.int .i64 0, .int .i64 0, .int .i64 0]) := Lib.hid (by rw [← hW]; exact Blk.new w4 _ _)
      have G4W : Hid (Below w4.heap.size w4 W) := Lib.hid (by rw [← hW]; exact one_box _ _)
      have X2 := Lib.hid (R2.out.later (keep_trans G34.out G4W.out))
      have X3 := Lib.hid (R3.out.later G4W.out)
      have HB5 := Lib.hid (keep_trans HB4.out G4W.out)
      have HI : Hid (JnRel W a b q b.length (.slice A5 a.length c5) (.int .i64 ((0 : Nat) : Int)) w5) := Lib.hid ⟨0, _, rfl, rfl, by omega, by simpa using HO5, G45⟩
      clear hW a0 b0
      go_loopw [13, 14] (fun v13 v14 wr => JnRel W a b q b.length v13 v14 wr) (fun _ v _ => b.length - (intOf v).toNat)
      case atStart => exact HI.out
      case round =>
        obtain ⟨j, V13, rfl, rfl, hj, hO, hbel⟩ := hrel
        by_cases hjl : j < b.length
        · obtain ⟨x, hx⟩ := tok_at b (n := b.length) rfl hjl
          obtain ⟨ad, rfl, hS, ⟨a0, a1, a2, a3, a4⟩⟩ := (X2.out.below2 hbel.out).tok hx
          have hxl := HL.out x (List.mem_of_getElem? hx)
          obtain ⟨hxl0, hxl1⟩ := hxl
          have HTK : Hid ((b.take (j + 1)).map (moveT (q + 1)) = (b.take j).map (moveT (q + 1)) ++ [⟨x.kind, x.text, x.num, x.line + (1 + (q : Int)), x.col⟩]) := Lib.hid (by
            rw [← moveT_of, List.take_add_one, hx]; simp)
          obtain ⟨kd, tx, nm, ln, cl⟩ := x
          dsimp only at hxl0 hxl1 a0 a1 a2 a3 a4 HTK
          have HO : Hid (∀ W' : World, Below wr.heap.size wr W' → Hid (W'.ownsRow W.heap.size 31 5 V13 (a.length + j) (tc (a ++ (b.take j).map (moveT (q + 1)))))) := Lib.hid (fun W' h => own_after hO.out h)
          have hji : (j : Int) < (b.length : Int) := by omega
          have hsz := hbel.out.size
          clear hx hi
          go_wp2_with (first
            | (at_builtin; refine wpList_append_rd rfl (.tmp 103) (.tmp 105) 22 rfl W.heap.size 31 _ 5 48 Tryd.underlying22 info_tok rfl (by omega) (by omega) V13 (a.length + j) (tc (a ++ (b.take j).map (moveT (q + 1)))) rfl (HO.out _ (two_box _ _ _)).out _ _ 1 1 (tk ⟨kd, tx, nm, ln + (1 + (q : Int)), cl⟩) rfl rfl (lit_at _ _ _ _ _ (by simp) rfl) (by simp [tk, Value.oneCell']) (by omega) (by simp; omega) ?_; intro v1 w6 hown hb6; have HO6 := Lib.hid hown.out; have G6 := Lib.hid hb6.out; clear hown hb6))
          go_roundw
          case rel => exact ⟨j + 1, _, rfl, by go_num, by omega, by show World.ownsRow _ _ _ _ _ _ _; rw [HTK.out, ← List.append_assoc, tc_append]; simpa [tc, Nat.add_assoc] using HO6.out, ((two_box wr _ _).mono hsz |> hbel.out.trans).trans G6.out⟩
          case measure => simp [intOf]; omega
        · have hjj : j = b.length := by omega
          have hO2 := hO.out
          rw [hjj, List.take_length] at hO2
          obtain ⟨Aw, cw, hv, hcw, hrd⟩ := own_form hO2
          have HRW := Lib.hid hrd.old
          have KF := X0.out.after hbel.out
          have z0 : wr.cell? ⟨w4.heap.size, 0, none⟩ = some (.int .i64 0) := KF.cell 0
          have z1 : wr.cell? ⟨w4.heap.size, 1, none⟩ = some (.int .i64 0) := KF.cell 1
          have z2 : wr.cell? ⟨w4.heap.size, 2, none⟩ = some (.int .i64 0) := KF.cell 2
          have hji : ¬ (j : Int) < (b.length : Int) := by omega
          subst hv
          have HJ := Lib.hid hjj
          clear hO2 hrd KF hO hi hjj
          go_wp2_with (go_at_call 18; refine (same_tok _ _ _ (a.length + b.length) _ _ (a ++ b.map (moveT (q + 1))) (Lib.hid (by simp)) (by omega) (X3.out.later hbel.out) HRW.out).mono ?_; rintro e w7 ⟨rfl, hb7⟩; have G7 := Lib.hid hb7; clear hb7)
          go_ret
          exact ⟨rfl, keep_trans (HB5.out.trans (hbel.out.mono HB5.out.size)) G7.out⟩

theorem cons_ok' {t : Tok} {r : Res} {l : List Tok} (h : r.cons t = .ok l) : ∃ l', r = .ok l' ∧ l = t :: l' := by
  cases r with
  | bad e a b => cases h
  | ok l' => exact ⟨l', rfl, by injection h with h; exact h.symm⟩
def LnOk (n : Nat) : Res → Prop
  | .bad _ l _ => l ≤ n
  | .ok ts => ∀ x ∈ ts, 0 ≤ x.line ∧ x.line ≤ (n : Int)
theorem LnOk.cons {t : Tok} {r : Res} {n : Nat} (ht : 0 ≤ t.line ∧ t.line ≤ (n : Int)) (h : LnOk n r) : LnOk n (r.cons t) := by
  cases r with
  | bad e' l' c' => exact h
  | ok q =>
    intro x hx
    rcases List.mem_cons.1 hx with rfl | hx
    · exact ht
    · exact h x hx
theorem lex_lines : ∀ (bs : List UInt8) (line col : Nat) (sm : Bool), LnOk (line + nls bs) (lex bs line col sm) := by
  intro bs
  induction bs using lex_induct with
  | nil =>
    intro line col sm
    rw [lex_nil]
    cases sm with
    | true => intro x hx; simp only [if_true, List.mem_singleton] at hx; subst hx; simp [endT]; omega
    | false => intro x hx; simp at hx
  | nl c r hk ih =>
    intro line col sm
    rw [lex_nl hk, nls_cons, if_pos hk]
    have := ih (line + 1) 1 false
    have e : line + 1 + nls r = line + (nls r + 1) := by omega
    rw [e] at this
    cases sm with
    | true => rw [if_pos rfl]; exact this.cons (by simp [endT]; omega)
    | false => rw [if_neg (by decide)]; exact this
  | bl c r hk ih => intro line col sm; rw [lex_bl hk, nls_cons, if_neg (by omega)]; exact ih _ _ _
  | hash c r hk ih => intro line col sm; rw [lex_hash hk, nls_cons, if_neg (by omega)]; have := ih line (col + 1 + (r.takeWhile inLine).length) sm; rw [nls_dw in_ne] at this; exact this
  | word c r hk ih =>
    intro line col sm
    rw [lex_let hk]
    have := ih line (col + ((c :: r).takeWhile isMore).length) true
    rw [nls_dw more_ne] at this
    by_cases h24 : 24 < ((c :: r).takeWhile isMore).length
    · rw [if_pos h24]; show line ≤ _; omega
    · rw [if_neg h24]; exact this.cons (by simp [wordT]; omega)
  | num c r hk ih =>
    intro line col sm
    rw [lex_dig hk]
    have := ih line (col + ((c :: r).takeWhile Tk.isDig).length) true
    rw [nls_dw dig_ne] at this
    by_cases h1 : Tk.canon ((c :: r).takeWhile Tk.isDig) = false
    · rw [if_pos h1]; show line ≤ _; omega
    · rw [if_neg h1]
      by_cases h2 : 1099511627776 < Tk.dval ((c :: r).takeWhile Tk.isDig)
      · rw [if_pos h2]; show line ≤ _; omega
      · rw [if_neg h2]
        by_cases h3 : nextK ((c :: r).dropWhile Tk.isDig) = 5 ∨ nextK ((c :: r).dropWhile Tk.isDig) = 7
        · rw [if_pos h3]; show line ≤ _; omega
        · rw [if_neg h3]; exact this.cons (by simp [numT]; omega)
  | bad c r hk => intro line col sm; rw [lex_bad (bs := c :: r) hk]; show line ≤ _; omega
theorem lex_count : ∀ (bs : List UInt8) (line col : Nat) (sm : Bool) (l : List Tok), lex bs line col sm = .ok l → l.length ≤ 2 * bs.length + (if sm then 1 else 0) := by
  intro bs
  induction bs using lex_induct with
  | nil =>
    intro line col sm l h
    rw [lex_nil] at h
    injection h with h
    cases sm with
    | true => rw [if_pos rfl] at h; subst h; simp
    | false => rw [if_neg (by decide)] at h; subst h; simp
  | nl c r hk ih =>
    intro line col sm l h
    rw [lex_nl hk] at h
    cases sm with
    | true =>
      rw [if_pos rfl] at h
      obtain ⟨l', h1, rfl⟩ := cons_ok' h
      have := ih _ _ _ _ h1
      simp at this ⊢
      omega
    | false => rw [if_neg (by decide)] at h; have := ih _ _ _ _ h; simp at this ⊢; omega
  | bl c r hk ih => intro line col sm l h; rw [lex_bl hk] at h; have := ih _ _ _ _ h; simp at this ⊢; omega
  | hash c r hk ih => intro line col sm l h; rw [lex_hash hk] at h; have := ih _ _ _ _ h; have := dropWhile_le (p := inLine) r; simp at *; omega
  | word c r hk ih =>
    intro line col sm l h
    rw [lex_let hk] at h
    split at h
    · cases h
    · obtain ⟨l', h1, rfl⟩ := cons_ok' h
      have := ih _ _ _ _ h1
      have := dropWhile_lt c r (more_let hk)
      simp at *
      omega
  | num c r hk ih =>
    intro line col sm l h
    rw [lex_dig hk] at h
    split at h
    · cases h
    · split at h
      · cases h
      · split at h
        · cases h
        · obtain ⟨l', h1, rfl⟩ := cons_ok' h
          have := ih _ _ _ _ h1
          have := dropWhile_lt c r (dig_num hk)
          simp at *
          omega
  | bad c r hk => intro line col sm l h; rw [lex_bad (bs := c :: r) hk] at h; cases h
theorem joins_all (s t : ByteArray) (w : World) (hE : Tk.Env w) : Calls Tryd.prog 7 #[.string s, .string t] w fun e w' => e = .returned (.bool true) ∧ Below w.heap.size w w' := by
  by_cases h : 1500 < s.size ∨ 1500 < t.size
  · exact joins_long s t h w hE
  · have hs : s.size ≤ 1500 := by omega
    have ht : t.size ≤ 1500 := by omega
    have n1 := nls_le t.data.toList
    have n2 := nls_le s.data.toList
    have z1 := Lib.size_eq s
    have z2 := Lib.size_eq t
    cases h1 : lex s.data.toList 1 1 false with
    | bad er l c => exact joins_bad s t hs ht w hE er l c h1
    | ok a =>
      have q1 := lex_count _ _ _ _ _ h1
      simp at q1
      have q2 := lex_lines t.data.toList 1 1 false
      cases h2 : lex t.data.toList 1 1 false with
      | bad er l c =>
        rw [h2] at q2
        exact joins_bad2 s t hs ht w hE a er l c h1 h2 (by show l ≤ _; have : l ≤ 1 + nls t.data.toList := q2; omega)
      | ok b =>
        rw [h2] at q2
        have q3 := lex_count _ _ _ _ _ h2
        simp at q3
        exact joins_ok s t hs ht w hE a b h1 h2 (fun x hx => ⟨(q2 x hx).1, by have := (q2 x hx).2; omega⟩) (by rw [z1] at hs; simp at hs; omega) (by rw [z2] at ht; simp at ht; omega)
end Go.Proofs.YtgcphhialllieaaDoor.Lx
