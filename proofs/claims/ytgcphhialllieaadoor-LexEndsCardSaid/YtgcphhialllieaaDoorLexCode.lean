/- Package lex's inner calls: of which kind a byte is, what comes next, how far bytes of some kinds go. Conditions: the cursor lies in memory as CurAt says. -/
import Derived.Test.YtgcphhialllieaaDoorLexBase
namespace Go.Proofs.YtgcphhialllieaaDoor.Lx
open Go.ChangeShapes Go.WideShapes Go.ChangeAt Go.RowKit
set_option linter.unusedVariables false

def kindN (n : Nat) : Nat := if n = 32 ∨ n = 9 then 2 else if n = 10 then 3 else if n = 35 then 4
  else if 97 ≤ n ∧ n ≤ 122 then 5 else if 48 ≤ n ∧ n ≤ 57 then 6 else if n = 45 ∨ n = 95 then 7 else 0
theorem ne_f {n : Nat} {k : Int} (h : (n : Int) ≠ k) : ((n : Int) == k) = false := by rw [beq_eq_false_iff_ne]; exact h
theorem quiet_left {P : Program} {f : FuncId} {args : Array Value} {w : World} {n : Nat} {v : Value}
    (h : Calls P f args (w.drewN n) fun e w' => e = .returned v ∧ w.drewN n = w') : Calls P f args (w.drewN n) fun e w'' => e = .returned v ∧ ∃ m, w'' = w.drewN m :=
  h.mono fun _ _ ⟨he, hm⟩ => ⟨he, n, hm.symm⟩
theorem quiet_add_left {P : Program} {f : FuncId} {args : Array Value} {w : World} {a n : Nat} {v : Value}
    (h : Calls P f args (w.drewN (a + n)) fun e w' => e = .returned v ∧ w.drewN (a + n) = w') :
    Calls P f args (w.drewN (a + n)) fun e w'' => e = .returned v ∧ ∃ m, w'' = w.drewN (a + m) :=
  h.mono fun _ _ ⟨he, hm⟩ => ⟨he, n, hm.symm⟩

set_option maxHeartbeats 1000000 in
theorem kindN_any (n : Nat) (w : World) : Calls Tryd.prog 34 #[.int .u8 (n : Int)] w fun e w' => e = .returned (.int .i64 (kindN n)) ∧ w = w' := by
  by_cases a1 : n = 32
  · subst a1; go_enter Tryd.func34, Tryd.ntmps34; go_wp2; go_ret; exact ⟨rfl, rfl⟩
  by_cases a2 : n = 9
  · subst a2; go_enter Tryd.func34, Tryd.ntmps34; go_wp2; go_ret; exact ⟨rfl, rfl⟩
  by_cases a3 : n = 10
  · subst a3; go_enter Tryd.func34, Tryd.ntmps34; go_wp2; go_ret; exact ⟨rfl, rfl⟩
  by_cases a4 : n = 35
  · subst a4; go_enter Tryd.func34, Tryd.ntmps34; go_wp2; go_ret; exact ⟨rfl, rfl⟩
  by_cases a5 : n = 45
  · subst a5; go_enter Tryd.func34, Tryd.ntmps34; go_wp2; go_ret; exact ⟨rfl, rfl⟩
  by_cases a6 : n = 95
  · subst a6; go_enter Tryd.func34, Tryd.ntmps34; go_wp2; go_ret; exact ⟨rfl, rfl⟩
  have b1 : ((n : Int) == 32) = false := ne_f (by omega)
  have b2 : ((n : Int) == 9) = false := ne_f (by omega)
  have b3 : ((n : Int) == 10) = false := ne_f (by omega)
  have b4 : ((n : Int) == 35) = false := ne_f (by omega)
  have b5 : ((n : Int) == 45) = false := ne_f (by omega)
  have b6 : ((n : Int) == 95) = false := ne_f (by omega)
  by_cases l1 : 97 ≤ n
  · by_cases l2 : n ≤ 122
    · have H : Hid (kindN n = 5) := Lib.hid (by unfold kindN; rw [if_neg (by omega), if_neg (by omega), if_neg (by omega), if_pos (by omega)])
      have c1 : (97 : Int) ≤ (n : Int) := by omega
      have c2 : (n : Int) ≤ 122 := by omega
      clear a1 a2 a3 a4 a5 a6
      go_enter Tryd.func34, Tryd.ntmps34
      go_wp2
      go_ret
      exact ⟨by rw [H.out]; rfl, rfl⟩
    · have H : Hid (kindN n = 0) := Lib.hid (by unfold kindN; rw [if_neg (by omega), if_neg (by omega), if_neg (by omega), if_neg (by omega), if_neg (by omega), if_neg (by omega)])
      have c1 : (97 : Int) ≤ (n : Int) := by omega
      have c2 : ¬ (n : Int) ≤ 122 := by omega
      have c3 : (48 : Int) ≤ (n : Int) := by omega
      have c4 : ¬ (n : Int) ≤ 57 := by omega
      clear a1 a2 a3 a4 a5 a6
      go_enter Tryd.func34, Tryd.ntmps34
      go_wp2
      go_ret
      exact ⟨by rw [H.out]; rfl, rfl⟩
  · have c1 : ¬ (97 : Int) ≤ (n : Int) := by omega
    by_cases d1 : 48 ≤ n
    · have c3 : (48 : Int) ≤ (n : Int) := by omega
      by_cases d2 : n ≤ 57
      · have H : Hid (kindN n = 6) := Lib.hid (by unfold kindN; rw [if_neg (by omega), if_neg (by omega), if_neg (by omega), if_neg (by omega), if_pos (by omega)])
        have c4 : (n : Int) ≤ 57 := by omega
        clear a1 a2 a3 a4 a5 a6
        go_enter Tryd.func34, Tryd.ntmps34
        go_wp2
        go_ret
        exact ⟨by rw [H.out]; rfl, rfl⟩
      · have H : Hid (kindN n = 0) := Lib.hid (by unfold kindN; rw [if_neg (by omega), if_neg (by omega), if_neg (by omega), if_neg (by omega), if_neg (by omega), if_neg (by omega)])
        have c4 : ¬ (n : Int) ≤ 57 := by omega
        clear a1 a2 a3 a4 a5 a6
        go_enter Tryd.func34, Tryd.ntmps34
        go_wp2
        go_ret
        exact ⟨by rw [H.out]; rfl, rfl⟩
    · have H : Hid (kindN n = 0) := Lib.hid (by unfold kindN; rw [if_neg (by omega), if_neg (by omega), if_neg (by omega), if_neg (by omega), if_neg (by omega), if_neg (by omega)])
      have c3 : ¬ (48 : Int) ≤ (n : Int) := by omega
      clear a1 a2 a3 a4 a5 a6
      go_enter Tryd.func34, Tryd.ntmps34
      go_wp2
      go_ret
      exact ⟨by rw [H.out]; rfl, rfl⟩
theorem kind_any (c : UInt8) (w : World) : Calls Tryd.prog 34 #[.int .u8 (c.toNat : Int)] w fun e w' => e = .returned (.int .i64 (kindOf c)) ∧ w = w' := kindN_any c.toNat w

/-- the cursor's cells -/
def curL (s : ByteArray) (pos line first : Nat) (v : Value) (e l c : Int) : List Value := [.string s, .int .i64 pos, .int .i64 line, .int .i64 first, v, .int .i64 e, .int .i64 l, .int .i64 c]
/-- the cursor's object is block B; its row of tokens is the call's own, from block n0 on -/
structure CurAt (w : World) (n0 B : Nat) (s : ByteArray) (pos line first : Nat) (toks : List Tok) : Prop where
  lo : n0 ≤ B
  posLe : pos ≤ s.size
  firstLe : first ≤ pos
  size : s.size ≤ 65536
  lineLe : line ≤ pos + 1
  count : toks.length + (if someT toks then 1 else 0) ≤ 2 * pos
  obj : ∃ v, Blk w B 45 (curL s pos line first v 0 0 0) ∧ w.ownsRow n0 31 5 v toks.length (tc toks)
theorem CurAt.after {w w' : World} {n0 B : Nat} {s : ByteArray} {pos line first : Nat} {toks : List Tok} (h : CurAt w n0 B s pos line first toks) (hb : Below w.heap.size w w') : CurAt w' n0 B s pos line first toks := by
  obtain ⟨v, h1, h2⟩ := h.obj
  exact ⟨h.lo, h.posLe, h.firstLe, h.size, h.lineLe, h.count, v, h1.after hb, own_after h2 hb⟩
/-- what comes behind the cursor -/
def rest (s : ByteArray) (pos : Nat) : List UInt8 := s.data.toList.drop pos
theorem rest_over {s : ByteArray} {pos : Nat} (h : s.size ≤ pos) : rest s pos = [] := List.drop_eq_nil_of_le (by simpa using h)
theorem rest_at {s : ByteArray} {pos : Nat} (h : pos < s.size) : rest s pos = s[pos] :: rest s (pos + 1) := List.drop_eq_getElem_cons (by simpa using h)
def QuietI (w : World) (n : Int) (e : Ending) (w' : World) : Prop := e = .returned (.int .i64 n) ∧ Below w.heap.size w w'

set_option maxHeartbeats 1000000 in
theorem next_cells (w : World) (B : Nat) (s : ByteArray) (pos : Nat) (hs : s.size ≤ 65536) (hp : pos ≤ s.size) (h0 : w.cell? ⟨B, 0, none⟩ = some (.string s)) (h1 : w.cell? ⟨B, 1, none⟩ = some (.int .i64 pos)) :
    Calls Tryd.prog 20 #[.pointer (some ⟨B, 0, none⟩)] w (QuietI w (nextK (rest s pos))) := by
  by_cases hlt : pos < s.size
  · have H : Hid (nextK (rest s pos) = kindOf s[pos]) := Lib.hid (by rw [rest_at hlt]; rfl)
    have hne : ((pos : Int) == (s.size : Int)) = false := by rw [beq_eq_false_iff_ne]; omega
    have hl : (pos : Int) < (s.size : Int) := by omega
    go_enter Tryd.func20, Tryd.ntmps20
    go_wp2
    go_quiet (fail)
    go_wp2
    go_quiet ((go_at_call 34; exact quiet_add_left (kind_any s[pos] _)))
    go_wp2
    go_ret
    exact ⟨ret_i (by rw [H.out]), below_drewN (below_drewN (Below.refl _ _) _) _⟩
  · have H : Hid (nextK (rest s pos) = 1) := Lib.hid (by rw [rest_over (by omega)]; rfl)
    obtain rfl : pos = s.size := by omega
    go_enter Tryd.func20, Tryd.ntmps20
    go_wp2
    go_quiet (fail)
    go_wp2
    go_ret
    exact ⟨ret_i (by rw [H.out]; rfl), below_drewN (Below.refl _ _) _⟩

/-- the cells of kinds -/
def kc (l : List Nat) : List Value := l.map fun (k : Nat) => Value.int .i64 (k : Int)
theorem kc_length (l : List Nat) : (kc l).length = l.length := by simp [kc]
theorem Rd.kinds {w : World} {S : Nat → Prop} {A : Option Addr} {ks : List Nat} (h : Rd w S A (kc ks)) {j : Nat} (hj : j < ks.length) : ∃ ad, A = some ad ∧ w.cell? (ad.add j) = some (.int .i64 ((ks.getD j 0 : Nat) : Int)) := by
  obtain ⟨ad, e, hb, hc⟩ := h (by rw [kc_length]; omega)
  exact ⟨ad, e, hc j _ (by simp [kc, List.getD_eq_getElem?_getD, List.getElem?_eq_getElem hj])⟩
theorem below_keep {w w' : World} (h : w = w') : Below w.heap.size w w' := by subst h; exact Below.refl _ _

def inKs (ks : List Nat) (k : Nat) : Bool := ks.contains k
def IdxPost (ks : List Nat) (k : Nat) (w : World) (e : Ending) (w' : World) : Prop := (∃ i : Int, e = .returned (.int .i64 i) ∧ inKs ks k = decide (0 ≤ i)) ∧ w = w'
theorem inKs_yes {ks : List Nat} {k j : Nat} (hj : j < ks.length) (h : ks.getD j 0 = k) : inKs ks k = true := by
  unfold inKs
  rw [List.contains_iff_mem]
  rw [List.getD_eq_getElem?_getD, List.getElem?_eq_getElem hj] at h
  exact h ▸ List.getElem_mem hj
theorem inKs_no {ks : List Nat} {k : Nat} (h : ∀ i, i < ks.length → ks.getD i 0 ≠ k) : inKs ks k = false := by
  unfold inKs
  rw [Bool.eq_false_iff]
  intro hc
  rw [List.contains_iff_mem] at hc
  obtain ⟨i, hi, e⟩ := List.mem_iff_getElem.1 hc
  have := h i hi
  rw [List.getD_eq_getElem?_getD, List.getElem?_eq_getElem hi] at this
  exact this e
set_option maxHeartbeats 1000000 in
theorem index_any (ks : List Nat) (k : Nat) (w : World) (A : Option Addr) (n c : Nat) (hn : Hid (n = ks.length)) (hN : n ≤ 100) (hr : Rd w (fun _ => True) A (kc ks)) :
    Calls Tryd.prog 43 #[.slice A n c, .int .i64 (k : Int)] w (IdxPost ks k w) := by
  have HR := Lib.hid hr
  clear hr
  go_enter Tryd.func43, Tryd.ntmps43
  go_wp2
  go_loop [8] (fun v => ∃ j : Nat, v = .int .i64 j ∧ j ≤ n ∧ Hid (∀ i, i < j → ks.getD i 0 ≠ k)) (fun v => n - (intOf v).toNat)
  case atStart => exact ⟨0, rfl, by omega, Lib.hid (fun i h => by omega)⟩
  case round =>
    obtain ⟨j, rfl, hj, HA⟩ := hrel
    by_cases hlt : j < n
    · obtain ⟨ad, rfl, hc⟩ := HR.out.kinds (j := j) (by rw [← hn.out]; exact hlt)
      have hi : (j : Int) < (n : Int) := by omega
      by_cases he : ks.getD j 0 = k
      · have H : Hid (inKs ks k = true) := Lib.hid (inKs_yes (by rw [← hn.out]; exact hlt) he)
        rw [he] at hc
        clear he
        go_wp2
        go_ret
        exact ⟨⟨_, rfl, by rw [H.out]; exact (decide_eq_true (by omega)).symm⟩, rfl⟩
      · obtain ⟨q, hq⟩ : ∃ q, q = ks.getD j 0 := ⟨_, rfl⟩
        rw [← hq] at hc
        have hne : ((k : Int) == (q : Int)) = false := ne_f (by intro e; apply he; rw [← hq]; omega)
        have HQ := Lib.hid hq
        have HE := Lib.hid he
        clear he hq
        go_wp2
        go_round
        case rel => exact ⟨j + 1, by go_num, by omega, Lib.hid (fun i h => by
          rcases Nat.lt_or_ge i j with h' | h'
          · exact HA.out i h'
          · obtain rfl : i = j := by omega
            exact HE.out)⟩
        case measure => simp [intOf]; omega
    · have H : Hid (inKs ks k = false) := Lib.hid (inKs_no (fun i h => HA.out i (by have := hn.out; omega)))
      have hi : ¬ (j : Int) < (n : Int) := by omega
      go_wp2
      go_ret
      exact ⟨⟨_, rfl, by rw [H.out]; rfl⟩, rfl⟩
theorem contains_any (ks : List Nat) (k : Nat) (w : World) (A : Option Addr) (n c : Nat) (hn : Hid (n = ks.length)) (hN : n ≤ 100) (hr : Rd w (fun _ => True) A (kc ks)) :
    Calls Tryd.prog 35 #[.slice A n c, .int .i64 (k : Int)] w fun e w' => e = .returned (.bool (inKs ks k)) ∧ w = w' := by
  have HR := Lib.hid hr
  clear hr
  go_enter Tryd.func35, Tryd.ntmps35
  go_wp2_with (go_at_call 43; refine (index_any ks k _ A n c hn hN HR.out).mono ?_; rintro e w' ⟨⟨i, rfl, hi⟩, rfl⟩; have HI := Lib.hid hi; clear hi)
  go_ret
  exact ⟨ret_b HI.out, rfl⟩

section
variable {w w' : World} {n0 B : Nat} {s : ByteArray} {pos line first : Nat} {toks : List Tok}
theorem CurAt.c0 (h : CurAt w n0 B s pos line first toks) : w.cell? ⟨B, 0, none⟩ = some (.string s) := by obtain ⟨v, h1, _⟩ := h.obj; exact h1.cell 0
theorem CurAt.c1 (h : CurAt w n0 B s pos line first toks) : w.cell? ⟨B, 1, none⟩ = some (.int .i64 (pos : Int)) := by obtain ⟨v, h1, _⟩ := h.obj; exact h1.cell 1
theorem CurAt.c2 (h : CurAt w n0 B s pos line first toks) : w.cell? ⟨B, 2, none⟩ = some (.int .i64 (line : Int)) := by obtain ⟨v, h1, _⟩ := h.obj; exact h1.cell 2
theorem CurAt.c3 (h : CurAt w n0 B s pos line first toks) : w.cell? ⟨B, 3, none⟩ = some (.int .i64 (first : Int)) := by obtain ⟨v, h1, _⟩ := h.obj; exact h1.cell 3
theorem CurAt.fr (h : CurAt w n0 B s pos line first toks) (i : Nat) : w.frozen? ⟨B, i, none⟩ = false := by obtain ⟨v, h1, _⟩ := h.obj; exact h1.frozen i
theorem CurAt.lt (h : CurAt w n0 B s pos line first toks) : B < w.heap.size := by obtain ⟨v, h1, _⟩ := h.obj; exact h1.lt
theorem CurAt.base (h : CurAt w n0 B s pos line first toks) : n0 ≤ w.heap.size := by have := h.lo; have := h.lt; omega
theorem own_not {v : Value} {n : Nat} {xs l : List Value} {t : TypeId} (h : w.ownsRow n0 31 5 v n xs) (hb : Blk w B t l) (ht : t ≠ 31) : v.ownBlock ≠ some B := by
  rcases h.2 with ⟨rfl, _⟩ | ⟨g, cap, cur, rfl, _, hg, _⟩
  · simp [Value.ownBlock]
  · intro e
    simp only [Value.ownBlock, Option.some.injEq] at e
    subst e
    unfold Blk at hb
    rw [hg] at hb
    injection hb with hb
    injection hb with _ hb
    exact ht hb.symm
/-- a number is written into the cursor -/
theorem CurAt.wrote (h : CurAt w n0 B s pos line first toks) {pos' line' first' : Nat} (i : Nat) (u : Value) (hl : ∀ v, (curL s pos line first v 0 0 0).set i u = curL s pos' line' first' v 0 0 0)
    (h1 : pos' ≤ s.size) (h2 : first' ≤ pos') (h3 : line' ≤ pos' + 1) (h4 : pos ≤ pos') : CurAt (w.setCell ⟨B, i, none⟩ u) n0 B s pos' line' first' toks := by
  obtain ⟨v, k1, k2⟩ := h.obj
  have hc := h.count
  refine ⟨h.lo, h1, h2, h.size, h3, by omega, v, ?_, ?_⟩
  · have := k1.set_ i u
    rwa [hl] at this
  · exact ownsRow_setCell_other k2 (own_not k2 k1 (by decide)) u
theorem CurAt.step (h : CurAt w n0 B s pos line first toks) (hp : pos < s.size) {u : Value} (hu : u = .int .i64 ((pos + 1 : Nat) : Int)) : CurAt (w.setCell ⟨B, 1, none⟩ u) n0 B s (pos + 1) line first toks := by
  subst hu
  exact h.wrote 1 _ (fun v => rfl) (by omega) (by have := h.firstLe; omega) (by have := h.lineLe; omega) (by omega)
theorem CurAt.store (h : CurAt w n0 B s pos line first toks) {a : World} (hb : Below n0 a w) (i : Nat) (u : Value) : Below n0 a (w.setCell ⟨B, i, none⟩ u) := hb.setCell h.lo u
end
theorem next_any {w : World} {n0 B : Nat} {s : ByteArray} {pos line first : Nat} {toks : List Tok} (h : CurAt w n0 B s pos line first toks) :
    Calls Tryd.prog 20 #[.pointer (some ⟨B, 0, none⟩)] w (QuietI w (nextK (rest s pos))) := next_cells w B s pos h.size h.posLe h.c0 h.c1

/-- how far bytes of some kinds go -/
def passP (ks : List Nat) (c : UInt8) : Bool := inKs ks (kindOf c)
def runN (ks : List Nat) (s : ByteArray) (pos : Nat) : Nat := ((rest s pos).takeWhile (passP ks)).length
theorem rest_len (s : ByteArray) (pos : Nat) : (rest s pos).length = s.size - pos := by simp [rest]
theorem run_le (ks : List Nat) (s : ByteArray) (pos : Nat) (h : pos ≤ s.size) : pos + runN ks s pos ≤ s.size := by
  have h1 : runN ks s pos ≤ (rest s pos).length := (List.takeWhile_prefix _).length_le
  rw [rest_len] at h1; omega
theorem rest_add (s : ByteArray) (a b : Nat) : rest s (a + b) = (rest s a).drop b := by simp [rest, List.drop_drop]
theorem run_kin {ks : List Nat} (l : List UInt8) : ∀ j, j < (l.takeWhile (passP ks)).length → inKs ks (nextK (l.drop j)) = true := by
  induction l with
  | nil => intro j h; simp at h
  | cons c r ih =>
    intro j h
    by_cases hc : passP ks c = true
    · rw [List.takeWhile_cons_of_pos hc] at h
      cases j with
      | zero => exact hc
      | succ j => exact ih j (by simpa using h)
    · rw [List.takeWhile_cons_of_neg hc] at h; simp at h
theorem run_out {ks : List Nat} (h1 : inKs ks 1 = false) (l : List UInt8) : inKs ks (nextK (l.drop (l.takeWhile (passP ks)).length)) = false := by
  induction l with
  | nil => exact h1
  | cons c r ih =>
    by_cases hc : passP ks c = true
    · rw [List.takeWhile_cons_of_pos hc]; exact ih
    · rw [List.takeWhile_cons_of_neg hc]
      show passP ks c = false
      simpa using hc
theorem drop_run (p : UInt8 → Bool) (l : List UInt8) : l.drop (l.takeWhile p).length = l.dropWhile p := by
  induction l with
  | nil => rfl
  | cons c r ih =>
    by_cases hc : p c = true
    · rw [List.takeWhile_cons_of_pos hc, List.dropWhile_cons_of_pos hc]; exact ih
    · rw [List.takeWhile_cons_of_neg hc, List.dropWhile_cons_of_neg hc]; rfl
theorem take_run (p : UInt8 → Bool) (l : List UInt8) : l.take (l.takeWhile p).length = l.takeWhile p := by
  induction l with
  | nil => rfl
  | cons c r ih =>
    by_cases hc : p c = true
    · rw [List.takeWhile_cons_of_pos hc]; simp [ih]
    · rw [List.takeWhile_cons_of_neg hc]; rfl
def PassPost (ks : List Nat) (w : World) (n0 B : Nat) (s : ByteArray) (pos line first : Nat) (toks : List Tok) (e : Ending) (w' : World) : Prop :=
  e = .returned (.string (s.extract pos (pos + runN ks s pos))) ∧ CurAt w' n0 B s (pos + runN ks s pos) line first toks ∧ Below n0 w w'
def PassRel (ks : List Nat) (w : World) (n0 B gk : Nat) (s : ByteArray) (pos line first : Nat) (toks : List Tok) (k : Nat) (wr : World) : Prop :=
  ∃ j, j ≤ runN ks s pos ∧ k = runN ks s pos - j ∧ CurAt wr n0 B s (pos + j) line first toks ∧ Blk wr gk 48 (kc ks) ∧ Below n0 w wr
theorem kinds_rd {w : World} {gk : Nat} {ks : List Nat} (h : Blk w gk 48 (kc ks)) : Rd w (fun _ => True) (some ⟨gk, 0, none⟩) (kc ks) := h.rd trivial 0

end Go.Proofs.YtgcphhialllieaaDoor.Lx
