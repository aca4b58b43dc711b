/- Put, Take, Has of package bitset: of a set that was made, and of none. -/
import Derived.Test.YtffphlbbophjfaaDoorBitBits
namespace Go.Proofs.YtffphlbbophjfaaDoor.Bs
open Go.ChangeShapes Go.WideShapes Go.ChangeAt Go.RowKit
set_option linter.unusedVariables false

/-- what the walk wants of a set's cells -/
theorem SetAt.cells {w : World} {B g n : Nat} {f : Fs} (h : SetAt w B g n f) (h0 : 0 < n) : ∃ c ws rest, Is ws n f ∧ ws.length ≤ c ∧ Blk w B 67 [.pointer (some ⟨B, 0, none⟩), .int .i64 n, .slice (some ⟨g, 0, none⟩) ws.length c] ∧ Blk w g 61 (uc ws ++ rest) := by
  obtain ⟨A, c, ws, rest, h1, h2, h3, h4⟩ := h.obj
  obtain ⟨rfl, h5⟩ := h4 h0
  exact ⟨c, ws, rest, h1, h2, h3, h5⟩
theorem SetAt.self {w : World} {B g n : Nat} {f : Fs} (h : SetAt w B g n f) : w.cell? ⟨B, 0, none⟩ = some (.pointer (some ⟨B, 0, none⟩)) ∧ w.cell? ⟨B, 1, none⟩ = some (.int .i64 n) := by
  obtain ⟨A, c, ws, rest, h1, h2, h3, h4⟩ := h.obj
  exact ⟨by simpa using h3.cell 0, by simpa using h3.cell 1⟩

theorem quiet_eq {P : Program} {f : FuncId} {args : Array Value} {w : World} {n : Nat} {v : Value} (h : Calls P f args (w.drewN n) fun e w' => e = .returned v ∧ w.drewN n = w') :
    Calls P f args (w.drewN n) fun e w'' => e = .returned v ∧ ∃ m, w'' = w.drewN m := h.mono fun _ _ ⟨he, hm⟩ => ⟨he, n, hm.symm⟩
def FindPost (w : World) (p : Value) (b e : Int) (r : Ending) (w' : World) : Prop := r = .returned (.tuple #[p, .int .u64 b, .int .i64 e]) ∧ Below w.heap.size w w'
theorem find_nil (i : Int) (w : World) : Calls Tryd.prog 39 #[.pointer none, .int .i64 i] w (FindPost w (.pointer none) 0 1) := by
  go_enter Tryd.func39, Tryd.ntmps39
  go_wp2_with (go_at_call 44; refine (made_nil _).mono ?_; rintro e w1 ⟨rfl, rfl⟩)
  go_ret3
  exact ⟨rfl, Below.refl _ _⟩
theorem find_out (i : Int) (w : World) (B n : Nat) (h0 : w.cell? ⟨B, 0, none⟩ = some (.pointer (some ⟨B, 0, none⟩))) (h1 : w.cell? ⟨B, 1, none⟩ = some (.int .i64 n)) (hi : i < 0 ∨ (n : Int) ≤ i) :
    Calls Tryd.prog 39 #[.pointer (some ⟨B, 0, none⟩), .int .i64 i] w (FindPost w (.pointer none) 0 2) := by
  rcases hi with hi | hi
  · go_enter Tryd.func39, Tryd.ntmps39
    go_wp2_with (go_at_call 44; refine (made_set _ B h0).mono ?_; rintro e w1 ⟨rfl, rfl⟩)
    go_ret3
    exact ⟨rfl, Below.refl _ _⟩
  · have hi2 : ¬ i < 0 := by omega
    go_enter Tryd.func39, Tryd.ntmps39
    go_wp2_with (go_at_call 44; refine (made_set _ B h0).mono ?_; rintro e w1 ⟨rfl, rfl⟩)
    go_ret3
    exact ⟨rfl, Below.refl _ _⟩
theorem find_in (i : Nat) (w : World) (B g n len c : Nat) (hn : n ≤ 1048576) (h0 : w.cell? ⟨B, 0, none⟩ = some (.pointer (some ⟨B, 0, none⟩))) (h1 : w.cell? ⟨B, 1, none⟩ = some (.int .i64 n)) (h2 : w.cell? ⟨B, 2, none⟩ = some (.slice (some ⟨g, 0, none⟩) len c)) (hl : len = (n + 63) / 64) (hi : i < n) :
    Calls Tryd.prog 39 #[.pointer (some ⟨B, 0, none⟩), .int .i64 i] w (FindPost w (.pointer (some ⟨g, i / 64, none⟩)) ((2 ^ (i % 64) : Nat) : Int) 0) := by
  have hk : i / 64 < len := by omega
  have hl2 : len ≤ 16384 := by omega
  have hneg : ¬ ((i : Int) < 0) := by omega
  have hlt : ¬ ((n : Int) ≤ (i : Int)) := by omega
  have HL := Lib.hid hl
  clear hl
  go_enter Tryd.func39, Tryd.ntmps39
  go_wp2_with (go_at_call 44; refine (made_set _ B h0).mono ?_; rintro e w1 ⟨rfl, rfl⟩)
  have f1 : IntKind.i64.wrap ((i : Int) / 64) = (i : Int) / 64 := by rw [IntKind.wrap_i64]; omega
  have f2 : ((i : Int) / 64).toNat = i / 64 := by omega
  have f3 : (0 : Int) ≤ (i : Int) / 64 := by omega
  have f4 : (i : Int) / 64 < len := by omega
  go_quiet ((go_at_call 42; exact quiet_eq (bitOf_any i (by omega) (w.drewN _))))
  clear f1 f2 f3 f4
  go_wp2
  go_ret3
  exact ⟨rfl, below_drewN (Below.refl _ _) _⟩

def BoolPost (w : World) (b : Bool) (r : Ending) (w' : World) : Prop := r = .returned (.bool b) ∧ Below w.heap.size w w'
def TellPost (w : World) (b : Bool) (e : Int) (r : Ending) (w' : World) : Prop := r = .returned (.tuple #[.bool b, .int .i64 e]) ∧ Below w.heap.size w w'
theorem put_err (p : Option Addr) (i e : Int) (w : World) (he : (e == 0) = false) (hf : Calls Tryd.prog 39 #[.pointer p, .int .i64 i] w (FindPost w (.pointer none) 0 e)) :
    Calls Tryd.prog 10 #[.pointer p, .int .i64 i] w (TellPost w false e) := by
  go_enter Tryd.func10, Tryd.ntmps10
  go_wp2_with (go_at_call 39; refine hf.mono ?_; rintro e w1 ⟨rfl, hb⟩)
  go_ret2
  exact ⟨rfl, hb⟩
theorem take_err (p : Option Addr) (i e : Int) (w : World) (he : (e == 0) = false) (hf : Calls Tryd.prog 39 #[.pointer p, .int .i64 i] w (FindPost w (.pointer none) 0 e)) :
    Calls Tryd.prog 11 #[.pointer p, .int .i64 i] w (TellPost w false e) := by
  go_enter Tryd.func11, Tryd.ntmps11
  go_wp2_with (go_at_call 39; refine hf.mono ?_; rintro e w1 ⟨rfl, hb⟩)
  go_ret2
  exact ⟨rfl, hb⟩
theorem has_err (p : Option Addr) (i e : Int) (w : World) (he : (e == 0) = false) (hf : Calls Tryd.prog 39 #[.pointer p, .int .i64 i] w (FindPost w (.pointer none) 0 e)) :
    Calls Tryd.prog 17 #[.pointer p, .int .i64 i] w (BoolPost w false) := by
  go_enter Tryd.func17, Tryd.ntmps17
  go_wp2_with (go_at_call 39; refine hf.mono ?_; rintro e w1 ⟨rfl, hb⟩)
  go_ret
  exact ⟨rfl, hb⟩

theorem put_core (p : Option Addr) (i : Int) (a : Addr) (x b y z : Nat) (q : Bool) (w : World) (ka : bits .and .u64 (x : Int) (b : Int) = (y : Int)) (ko : bits .or .u64 (x : Int) (b : Int) = (z : Int)) (hq : ((y : Int) == 0) = !q)
    (hc : ∀ w', Below w.heap.size w w' → w'.cell? a = some (.int .u64 x) ∧ w'.frozen? a = false)
    (hf : Calls Tryd.prog 39 #[.pointer p, .int .i64 i] w (FindPost w (.pointer (some a)) b 0)) :
    Calls Tryd.prog 10 #[.pointer p, .int .i64 i] w (fun r w' => r = .returned (.tuple #[.bool (!q), .int .i64 0]) ∧ ∃ w1, Below w.heap.size w w1 ∧ w' = w1.setCell a (.int .u64 z)) := by
  go_enter Tryd.func10, Tryd.ntmps10
  go_wp2_with (go_at_call 39; refine hf.mono ?_; rintro e w1 ⟨rfl, hb⟩; have hb := Lib.hid hb; obtain ⟨hc1, hc2⟩ := hc w1 hb.out)
  go_ret2
  have hq2 : ((y : Int) != 0) = q := by simp only [bne, hq, Bool.not_not]
  refine ⟨?_, w1, hb.out, rfl⟩
  show Ending.returned (.tuple #[.bool (!((y : Int) != 0)), .int .i64 0]) = _
  rw [hq2]
theorem take_core (p : Option Addr) (i : Int) (a : Addr) (x b y z : Nat) (q : Bool) (w : World) (ka : bits .and .u64 (x : Int) (b : Int) = (y : Int)) (ko : bits .andNot .u64 (x : Int) (b : Int) = (z : Int)) (hq : ((y : Int) == 0) = !q)
    (hc : ∀ w', Below w.heap.size w w' → w'.cell? a = some (.int .u64 x) ∧ w'.frozen? a = false)
    (hf : Calls Tryd.prog 39 #[.pointer p, .int .i64 i] w (FindPost w (.pointer (some a)) b 0)) :
    Calls Tryd.prog 11 #[.pointer p, .int .i64 i] w (fun r w' => r = .returned (.tuple #[.bool q, .int .i64 0]) ∧ ∃ w1, Below w.heap.size w w1 ∧ w' = w1.setCell a (.int .u64 z)) := by
  go_enter Tryd.func11, Tryd.ntmps11
  go_wp2_with (go_at_call 39; refine hf.mono ?_; rintro e w1 ⟨rfl, hb⟩; have hb := Lib.hid hb; obtain ⟨hc1, hc2⟩ := hc w1 hb.out)
  go_ret2
  have hq2 : ((y : Int) != 0) = q := by simp only [bne, hq, Bool.not_not]
  refine ⟨?_, w1, hb.out, rfl⟩
  show Ending.returned (.tuple #[.bool ((y : Int) != 0), .int .i64 0]) = _
  rw [hq2]
theorem has_core (p : Option Addr) (i : Int) (a : Addr) (x b y : Nat) (q : Bool) (w : World) (ka : bits .and .u64 (x : Int) (b : Int) = (y : Int)) (hq : ((y : Int) == 0) = !q)
    (hc : ∀ w', Below w.heap.size w w' → w'.cell? a = some (.int .u64 x) ∧ w'.frozen? a = false)
    (hf : Calls Tryd.prog 39 #[.pointer p, .int .i64 i] w (FindPost w (.pointer (some a)) b 0)) :
    Calls Tryd.prog 17 #[.pointer p, .int .i64 i] w (BoolPost w q) := by
  go_enter Tryd.func17, Tryd.ntmps17
  go_wp2_with (go_at_call 39; refine hf.mono ?_; rintro e w1 ⟨rfl, hb⟩; have hb := Lib.hid hb; obtain ⟨hc1, hc2⟩ := hc w1 hb.out)
  go_ret
  have hq2 : ((y : Int) != 0) = q := by simp only [bne, hq, Bool.not_not]
  exact ⟨ret_b hq2.symm, hb.out⟩

/-- what is written into the row of words -/
theorem SetAt.wrote {w w1 : World} {B g n c : Nat} {f : Fs} {ws : List Nat} {rest : List Value} (hn : n ≤ 1048576) (h0 : 0 < n) {f' : Fs} {k x : Nat} (hi : Is ws n f) (hi' : Is (ws.set k x) n f') (hk : k < ws.length) (hc : ws.length ≤ c)
    (ho : Blk w B 67 [.pointer (some ⟨B, 0, none⟩), .int .i64 n, .slice (some ⟨g, 0, none⟩) ws.length c]) (hb : Blk w g 61 (uc ws ++ rest)) (h1 : Below w.heap.size w w1) :
    SetAt (w1.setCell ⟨g, k, none⟩ (.int .u64 x)) B g n f' ∧ Wr 61 g w (w1.setCell ⟨g, k, none⟩ (.int .u64 x)) := by
  have hw : Wr 61 g w (w1.setCell ⟨g, k, none⟩ (.int .u64 x)) := (Wr.ofBelow h1).set_ hb k _
  have hb1 := hb.after h1
  have hb2 := hb1.set_ k (.int .u64 x)
  rw [uc_set ws rest k x hk] at hb2
  refine ⟨⟨hn, hb2.lt, _, c, ws.set k x, rest, hi', by simpa using hc, ?_, fun _ => ⟨rfl, hb2⟩⟩, hw⟩
  have := hw.blk ho (.inr (by decide))
  simpa using this

def PutPost (t : Bool) (e : Int) (w : World) (B g n : Nat) (f' : Fs) (r : Ending) (w' : World) : Prop := r = .returned (.tuple #[.bool t, .int .i64 e]) ∧ SetAt w' B g n f' ∧ Wr 61 g w w'
theorem find_set {w : World} {B g n : Nat} {f : Fs} (h : SetAt w B g n f) (i : Nat) (hi : i < n) :
    Calls Tryd.prog 39 #[.pointer (some ⟨B, 0, none⟩), .int .i64 i] w (FindPost w (.pointer (some ⟨g, i / 64, none⟩)) ((2 ^ (i % 64) : Nat) : Int) 0) := by
  obtain ⟨c, ws, rest, h1, h2, h3, h4⟩ := h.cells (by omega)
  exact find_in i w B g n ws.length c h.width h.self.1 h.self.2 (by simpa using h3.cell 2) h1.len hi
theorem find_bad {w : World} {B g n : Nat} {f : Fs} (h : SetAt w B g n f) (i : Int) (hi : i < 0 ∨ (n : Int) ≤ i) :
    Calls Tryd.prog 39 #[.pointer (some ⟨B, 0, none⟩), .int .i64 i] w (FindPost w (.pointer none) 0 2) :=
  find_out i w B n h.self.1 h.self.2 hi
theorem zero_eq {f : Fs} {n : Nat} {ws : List Nat} (h : Is ws n f) (i : Nat) : (((ws.getD (i / 64) 0 &&& 2 ^ (i % 64) : Nat) : Int) == 0) = !f i := by
  have := h.has i
  by_cases e : ws.getD (i / 64) 0 &&& 2 ^ (i % 64) = 0
  · rw [e]
    have : f i = false := by
      cases hf : f i with
      | false => rfl
      | true => exact absurd e (this.2 hf)
    simp [this]
  · have h2 := this.1 e
    rw [h2]
    simp only [Bool.not_true]
    exact beq_eq_false_iff_ne.2 (by omega)
theorem put_set {w : World} {B g n : Nat} {f : Fs} (h : SetAt w B g n f) (i : Nat) (hi : i < n) :
    Calls Tryd.prog 10 #[.pointer (some ⟨B, 0, none⟩), .int .i64 i] w (PutPost (!f i) 0 w B g n (fPut f i)) := by
  obtain ⟨c, ws, rest, h1, h2, h3, h4⟩ := h.cells (by omega)
  have hk : i / 64 < ws.length := by rw [h1.len]; omega
  refine (put_core _ _ ⟨g, i / 64, none⟩ (ws.getD (i / 64) 0) (2 ^ (i % 64)) _ _ (f i) w (bits_and_u64_nat _ _ (h1.lt _) (bit_lt i)) (bits_or_u64_nat _ _ (h1.lt _) (bit_lt i)) (zero_eq h1 i) ?_ (find_set h i hi)).mono ?_
  · intro w' hb
    exact ⟨by rw [(h4.after hb).cell, uc_at _ _ _ hk], (h4.after hb).frozen _⟩
  · rintro e w' ⟨rfl, w1, hb, rfl⟩
    obtain ⟨h5, h6⟩ := SetAt.wrote h.width (by omega) h1 (h1.put i hi) hk h2 h3 h4 hb
    exact ⟨rfl, h5, h6⟩
theorem take_set {w : World} {B g n : Nat} {f : Fs} (h : SetAt w B g n f) (i : Nat) (hi : i < n) :
    Calls Tryd.prog 11 #[.pointer (some ⟨B, 0, none⟩), .int .i64 i] w (PutPost (f i) 0 w B g n (fTake f i)) := by
  obtain ⟨c, ws, rest, h1, h2, h3, h4⟩ := h.cells (by omega)
  have hk : i / 64 < ws.length := by rw [h1.len]; omega
  refine (take_core _ _ ⟨g, i / 64, none⟩ (ws.getD (i / 64) 0) (2 ^ (i % 64)) _ _ (f i) w (bits_and_u64_nat _ _ (h1.lt _) (bit_lt i)) (u64_andNot_nat _ _ (h1.lt _) (bit_lt i)) (zero_eq h1 i) ?_ (find_set h i hi)).mono ?_
  · intro w' hb
    exact ⟨by rw [(h4.after hb).cell, uc_at _ _ _ hk], (h4.after hb).frozen _⟩
  · rintro e w' ⟨rfl, w1, hb, rfl⟩
    obtain ⟨h5, h6⟩ := SetAt.wrote h.width (by omega) h1 (h1.take i hi) hk h2 h3 h4 hb
    exact ⟨rfl, h5, h6⟩
/-- a number of whatever size: is it one below the width? -/
theorem has_any {w : World} {B g n : Nat} {f : Fs} (h : SetAt w B g n f) (i : Int) :
    Calls Tryd.prog 17 #[.pointer (some ⟨B, 0, none⟩), .int .i64 i] w (BoolPost w (decide (0 ≤ i) && f i.toNat)) := by
  by_cases hi : 0 ≤ i ∧ i < n
  · obtain ⟨c, ws, rest, h1, h2, h3, h4⟩ := h.cells (by omega)
    obtain ⟨k, rfl⟩ := Int.eq_ofNat_of_zero_le hi.1
    have hk : k / 64 < ws.length := by rw [h1.len]; omega
    have hd : decide (0 ≤ (k : Int)) = true := decide_eq_true (by omega)
    rw [hd, Bool.true_and, Int.toNat_natCast]
    refine has_core _ _ ⟨g, k / 64, none⟩ (ws.getD (k / 64) 0) (2 ^ (k % 64)) _ (f k) w (bits_and_u64_nat _ _ (h1.lt _) (bit_lt k)) (zero_eq h1 k) ?_ (find_set h k (by omega))
    intro w' hb
    exact ⟨by rw [(h4.after hb).cell, uc_at _ _ _ hk], (h4.after hb).frozen _⟩
  · have e : (decide (0 ≤ i) && f i.toNat) = false := by
      by_cases h0 : 0 ≤ i
      · rw [h.wd i.toNat (by omega), Bool.and_false]
      · rw [decide_eq_false h0, Bool.false_and]
    rw [e]
    exact has_err _ i 2 w (by decide) (find_bad h i (by omega))
theorem put_any {w : World} {B g n : Nat} {f : Fs} (h : SetAt w B g n f) (i : Int) (t : Bool) (e : Int) (f' : Fs) (ht : t = if 0 ≤ i ∧ i < n then !f i.toNat else false) (he : e = if 0 ≤ i ∧ i < n then 0 else 2) (hf : f' = if 0 ≤ i ∧ i < n then fPut f i.toNat else f) :
    Calls Tryd.prog 10 #[.pointer (some ⟨B, 0, none⟩), .int .i64 i] w (PutPost t e w B g n f') := by
  subst ht; subst he; subst hf
  by_cases hi : 0 ≤ i ∧ i < n
  · simp only [if_pos hi]
    obtain ⟨k, rfl⟩ := Int.eq_ofNat_of_zero_le hi.1
    exact put_set h k (by omega)
  · simp only [if_neg hi]
    refine (put_err _ i 2 w (by decide) (find_bad h i (by omega))).mono ?_
    rintro e w' ⟨rfl, hb⟩
    exact ⟨rfl, h.after hb, .ofBelow hb⟩
theorem take_any {w : World} {B g n : Nat} {f : Fs} (h : SetAt w B g n f) (i : Int) (t : Bool) (e : Int) (f' : Fs) (ht : t = if 0 ≤ i ∧ i < n then f i.toNat else false) (he : e = if 0 ≤ i ∧ i < n then 0 else 2) (hf : f' = if 0 ≤ i ∧ i < n then fTake f i.toNat else f) :
    Calls Tryd.prog 11 #[.pointer (some ⟨B, 0, none⟩), .int .i64 i] w (PutPost t e w B g n f') := by
  subst ht; subst he; subst hf
  by_cases hi : 0 ≤ i ∧ i < n
  · simp only [if_pos hi]
    obtain ⟨k, rfl⟩ := Int.eq_ofNat_of_zero_le hi.1
    exact take_set h k (by omega)
  · simp only [if_neg hi]
    refine (take_err _ i 2 w (by decide) (find_bad h i (by omega))).mono ?_
    rintro e w' ⟨rfl, hb⟩
    exact ⟨rfl, h.after hb, .ofBelow hb⟩
end Go.Proofs.YtffphlbbophjfaaDoor.Bs
