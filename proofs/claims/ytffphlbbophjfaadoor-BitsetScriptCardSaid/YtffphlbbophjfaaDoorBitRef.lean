/- The document's answers for sets (timetableref03): New, Put, Take, Has, List, Next, Clear, Clone. -/
import Derived.Test.YtffphlbbophjfaaDoorBitKit
import Derived.StillTailTactics
namespace Go.Proofs.YtffphlbbophjfaaDoor.Bs
open Go.ChangeShapes Go.WideShapes Go.ChangeAt Go.RowKit
set_option linter.unusedVariables false

/-- the document's set in memory: object X, its row of bools in block h -/
structure RefAt (w : World) (X h : Nat) (n : Nat) (f : Fs) : Prop where
  width : n ≤ 1048576
  lt : h < w.heap.size
  wd : Wd n f
  obj : ∃ A c rest, n ≤ c ∧ Blk w X 50 [.slice A n c] ∧ (0 < n → A = some ⟨h, 0, none⟩ ∧ Blk w h 4 (bc f n ++ rest))
theorem RefAt.ltX {w : World} {X h n : Nat} {f : Fs} (r : RefAt w X h n f) : X < w.heap.size := by
  obtain ⟨A, c, rest, h1, h2, h3⟩ := r.obj; exact h2.lt
theorem RefAt.after {w w' : World} {X h n : Nat} {f : Fs} (r : RefAt w X h n f) (hb : Below w.heap.size w w') : RefAt w' X h n f := by
  obtain ⟨A, c, rest, h1, h2, h3⟩ := r.obj
  exact ⟨r.width, Nat.lt_of_lt_of_le r.lt hb.size, r.wd, A, c, rest, h1, h2.after hb, fun h0 => ⟨(h3 h0).1, (h3 h0).2.after hb⟩⟩
theorem RefAt.far {w w' : World} {X h n g : Nat} {f : Fs} (r : RefAt w X h n f) (hb : Wr 61 g w w') : RefAt w' X h n f := by
  obtain ⟨A, c, rest, h1, h2, h3⟩ := r.obj
  exact ⟨r.width, Nat.lt_of_lt_of_le r.lt hb.size, r.wd, A, c, rest, h1, hb.blk h2 (.inr (by decide)), fun h0 => ⟨(h3 h0).1, hb.blk (h3 h0).2 (.inr (by decide))⟩⟩
theorem RefAt.row {w w' : World} {X h n g : Nat} {f : Fs} (r : RefAt w X h n f) (hb : Wr 4 g w w') (ne : h ≠ g) : RefAt w' X h n f := by
  obtain ⟨A, c, rest, h1, h2, h3⟩ := r.obj
  exact ⟨r.width, Nat.lt_of_lt_of_le r.lt hb.size, r.wd, A, c, rest, h1, hb.blk h2 (.inr (by decide)), fun h0 => ⟨(h3 h0).1, hb.blk (h3 h0).2 (.inl ne)⟩⟩
theorem RefAt.objs {w w' : World} {X h n g : Nat} {f : Fs} (r : RefAt w X h n f) (hb : Wr 50 g w w') (ne : X ≠ g) : RefAt w' X h n f := by
  obtain ⟨A, c, rest, h1, h2, h3⟩ := r.obj
  exact ⟨r.width, Nat.lt_of_lt_of_le r.lt hb.size, r.wd, A, c, rest, h1, hb.blk h2 (.inl ne), fun h0 => ⟨(h3 h0).1, hb.blk (h3 h0).2 (.inr (by decide))⟩⟩
theorem RefAt.cells {w : World} {X h n : Nat} {f : Fs} (r : RefAt w X h n f) (h0 : 0 < n) : ∃ c rest, n ≤ c ∧ Blk w X 50 [.slice (some ⟨h, 0, none⟩) n c] ∧ Blk w h 4 (bc f n ++ rest) := by
  obtain ⟨A, c, rest, h1, h2, h3⟩ := r.obj
  obtain ⟨rfl, h4⟩ := h3 h0
  exact ⟨c, rest, h1, h2, h4⟩
theorem RefAt.head {w : World} {X h n : Nat} {f : Fs} (r : RefAt w X h n f) : ∃ A c, w.cell? ⟨X, 0, none⟩ = some (.slice A n c) ∧ ∀ k, k < n → ∃ ad, A = some ad ∧ w.cell? (ad.add k) = some (.bool (f k)) := by
  obtain ⟨A, c, rest, h1, h2, h3⟩ := r.obj
  refine ⟨A, c, by simpa using h2.cell 0, fun k hk => ?_⟩
  obtain ⟨rfl, h4⟩ := h3 (by omega)
  refine ⟨_, rfl, ?_⟩
  have e : (⟨h, 0, none⟩ : Addr).add k = ⟨h, k, none⟩ := by
    unfold Addr.add; split
    · subst_vars; rfl
    · simp
  rw [e, h4.cell, bc_at _ _ _ _ hk]

theorem in_yes (w : World) (X n c : Nat) (A : Option Addr) (i : Int) (h0 : w.cell? ⟨X, 0, none⟩ = some (.slice A n c)) (hi : 0 ≤ i) (hn : i < n) : Calls Tryd.prog 46 #[.pointer (some ⟨X, 0, none⟩), .int .i64 i] w fun e w' => e = .returned (.bool true) ∧ w = w' := by
  have d1 : decide (0 ≤ i) = true := decide_eq_true hi
  have d2 : decide (i < (n : Int)) = true := decide_eq_true hn
  go_enter Tryd.func46, Tryd.ntmps46
  go_wp2
  go_ret
  exact ⟨ret_b (by simp), rfl⟩
theorem in_no (w : World) (X n c : Nat) (A : Option Addr) (i : Int) (h0 : w.cell? ⟨X, 0, none⟩ = some (.slice A n c)) (hi : ¬ (0 ≤ i ∧ i < n)) : Calls Tryd.prog 46 #[.pointer (some ⟨X, 0, none⟩), .int .i64 i] w fun e w' => e = .returned (.bool false) ∧ w = w' := by
  by_cases h1 : 0 ≤ i
  · have d1 : decide (0 ≤ i) = true := decide_eq_true h1
    have d2 : decide (i < (n : Int)) = false := decide_eq_false (by omega)
    have h2 : ¬ i < (n : Int) := by omega
    go_enter Tryd.func46, Tryd.ntmps46
    go_wp2
    go_ret
    exact ⟨ret_b (by simp), rfl⟩
  · have d1 : decide (0 ≤ i) = false := decide_eq_false h1
    go_enter Tryd.func46, Tryd.ntmps46
    go_wp2
    go_ret
    exact ⟨ret_b (by simp), rfl⟩
/- New -/
theorem rnew_bad (n : Int) (w : World) (hn : n < 0 ∨ 1048576 < n) : Calls Tryd.prog 18 #[.int .i64 n] w fun e w' => e = .returned (.tuple #[.pointer none, .int .i64 2]) ∧ w = w' := by
  rcases hn with hn | hn
  · go_enter Tryd.func18, Tryd.ntmps18
    go_wp2
    go_ret2
    exact ⟨rfl, rfl⟩
  · have h0 : ¬ n < 0 := by omega
    go_enter Tryd.func18, Tryd.ntmps18
    go_wp2
    go_ret2
    exact ⟨rfl, rfl⟩
def RNew (w : World) (n : Nat) (f : Fs) (v : Value → Value) (r : Ending) (w' : World) : Prop :=
  ∃ X h, r = .returned (v (.pointer (some ⟨X, 0, none⟩))) ∧ w.heap.size ≤ X ∧ w.heap.size ≤ h ∧ RefAt w' X h n f ∧ Below w.heap.size w w'
theorem bc_empty (n : Nat) : bc fEmpty n = List.replicate n (.bool false) := by
  apply List.ext_getElem
  · simp [bc]
  · intro i h1 h2
    simp [bc, fEmpty]
theorem rnew_any (n : Nat) (w : World) (hn : n ≤ 1048576) : Calls Tryd.prog 18 #[.int .i64 n] w (RNew w n fEmpty fun p => .tuple #[p, .int .i64 0]) := by
  have hmk := run_mk Tryd.underlying48 info_bool (by omega) rfl n n (by omega) (by omega)
  have h0 : ¬ (n : Int) < 0 := by omega
  have h1 : ¬ 1048576 < (n : Int) := by omega
  go_enter Tryd.func18, Tryd.ntmps18
  go_wp2
  go_ret2
  have k1 : Below w.heap.size w (w.alloc (.cells (List.replicate n (.bool false)).toArray 4)) := keep_alloc (Below.refl _ _) _
  have hb := Blk.new (w.alloc (.cells (List.replicate n (.bool false)).toArray 4)) 50 [.slice (some ⟨w.heap.size, 0, none⟩) n n]
  have hr := (Blk.new w 4 (List.replicate n (.bool false))).alloc (.cells #[.slice (some ⟨w.heap.size, 0, none⟩) n n] 50)
  refine ⟨w.heap.size + 1, w.heap.size, by simp, by omega, Nat.le_refl _, ⟨hn, by simp; omega, wd_empty n, some ⟨w.heap.size, 0, none⟩, n, [], Nat.le_refl _, by simpa using hb, fun _ => ⟨rfl, ?_⟩⟩, ?_⟩
  · rw [List.append_nil, bc_empty]
    simpa using hr
  · simpa using keep_alloc k1 (.cells #[.slice (some ⟨w.heap.size, 0, none⟩) n n] 50)
/- Put, Take -/
def RPost (t : Bool) (e : Int) (w : World) (X h n : Nat) (f' : Fs) (r : Ending) (w' : World) : Prop := r = .returned (.tuple #[.bool t, .int .i64 e]) ∧ RefAt w' X h n f' ∧ Wr 4 h w w'
theorem RefAt.wrote {w w1 : World} {X h n c k : Nat} {f f' : Fs} {b : Bool} {rest : List Value} (hn : n ≤ 1048576) (hk : k < n) (hw : Wd n f') (hf : ∀ i, i < n → f' i = if i = k then b else f i) (hc : n ≤ c)
    (ho : Blk w X 50 [.slice (some ⟨h, 0, none⟩) n c]) (hb : Blk w h 4 (bc f n ++ rest)) (h1 : Below w.heap.size w w1) :
    RefAt (w1.setCell ⟨h, k, none⟩ (.bool b)) X h n f' ∧ Wr 4 h w (w1.setCell ⟨h, k, none⟩ (.bool b)) := by
  have hw2 : Wr 4 h w (w1.setCell ⟨h, k, none⟩ (.bool b)) := (Wr.ofBelow h1).set_ hb k _
  have hb2 := (hb.after h1).set_ k (.bool b)
  rw [bc_set f f' n k rest b hk hf] at hb2
  exact ⟨⟨hn, hb2.lt, hw, _, c, rest, hc, hw2.blk ho (.inr (by decide)), fun _ => ⟨rfl, hb2⟩⟩, hw2⟩
theorem rput_core (w : World) (X h n c k : Nat) (b : Bool) (h0 : w.cell? ⟨X, 0, none⟩ = some (.slice (some ⟨h, 0, none⟩) n c)) (hk : k < n) (h1 : w.cell? ⟨h, k, none⟩ = some (.bool b)) (h2 : w.frozen? ⟨h, k, none⟩ = false) :
    Calls Tryd.prog 20 #[.pointer (some ⟨X, 0, none⟩), .int .i64 k] w fun e w' => e = .returned (.tuple #[.bool (!b), .int .i64 0]) ∧ w' = w.setCell ⟨h, k, none⟩ (.bool true) := by
  have hi : (k : Int) < (n : Int) := by omega
  go_enter Tryd.func20, Tryd.ntmps20
  go_wp2_with (go_at_call 46; refine (in_yes _ X n c _ k h0 (by omega) hi).mono ?_; rintro e w1 ⟨rfl, rfl⟩)
  go_ret2
  exact ⟨rfl, rfl⟩
theorem rtake_core (w : World) (X h n c k : Nat) (b : Bool) (h0 : w.cell? ⟨X, 0, none⟩ = some (.slice (some ⟨h, 0, none⟩) n c)) (hk : k < n) (h1 : w.cell? ⟨h, k, none⟩ = some (.bool b)) (h2 : w.frozen? ⟨h, k, none⟩ = false) :
    Calls Tryd.prog 21 #[.pointer (some ⟨X, 0, none⟩), .int .i64 k] w fun e w' => e = .returned (.tuple #[.bool b, .int .i64 0]) ∧ w' = w.setCell ⟨h, k, none⟩ (.bool false) := by
  have hi : (k : Int) < (n : Int) := by omega
  go_enter Tryd.func21, Tryd.ntmps21
  go_wp2_with (go_at_call 46; refine (in_yes _ X n c _ k h0 (by omega) hi).mono ?_; rintro e w1 ⟨rfl, rfl⟩)
  go_ret2
  exact ⟨rfl, rfl⟩
theorem rput_no (w : World) (X n c : Nat) (A : Option Addr) (i : Int) (h0 : w.cell? ⟨X, 0, none⟩ = some (.slice A n c)) (hi : ¬ (0 ≤ i ∧ i < n)) :
    Calls Tryd.prog 20 #[.pointer (some ⟨X, 0, none⟩), .int .i64 i] w fun e w' => e = .returned (.tuple #[.bool false, .int .i64 2]) ∧ w = w' := by
  have HI := Lib.hid (in_no w X n c A i h0 hi)
  clear hi
  go_enter Tryd.func20, Tryd.ntmps20
  go_wp2_with (go_at_call 46; refine HI.out.mono ?_; rintro e w1 ⟨rfl, rfl⟩)
  go_ret2
  exact ⟨rfl, rfl⟩
theorem rtake_no (w : World) (X n c : Nat) (A : Option Addr) (i : Int) (h0 : w.cell? ⟨X, 0, none⟩ = some (.slice A n c)) (hi : ¬ (0 ≤ i ∧ i < n)) :
    Calls Tryd.prog 21 #[.pointer (some ⟨X, 0, none⟩), .int .i64 i] w fun e w' => e = .returned (.tuple #[.bool false, .int .i64 2]) ∧ w = w' := by
  have HI := Lib.hid (in_no w X n c A i h0 hi)
  clear hi
  go_enter Tryd.func21, Tryd.ntmps21
  go_wp2_with (go_at_call 46; refine HI.out.mono ?_; rintro e w1 ⟨rfl, rfl⟩)
  go_ret2
  exact ⟨rfl, rfl⟩
theorem rput_any {w : World} {X h n : Nat} {f : Fs} (r : RefAt w X h n f) (i : Int) (t : Bool) (e : Int) (f' : Fs) (ht : t = if 0 ≤ i ∧ i < n then !f i.toNat else false) (he : e = if 0 ≤ i ∧ i < n then 0 else 2) (hf : f' = if 0 ≤ i ∧ i < n then fPut f i.toNat else f) :
    Calls Tryd.prog 20 #[.pointer (some ⟨X, 0, none⟩), .int .i64 i] w (RPost t e w X h n f') := by
  subst ht; subst he; subst hf
  by_cases hi : 0 ≤ i ∧ i < n
  · simp only [if_pos hi]
    obtain ⟨k, rfl⟩ := Int.eq_ofNat_of_zero_le hi.1
    have hk : k < n := by omega
    obtain ⟨c, rest, h1, h2, h3⟩ := r.cells (by omega)
    refine (rput_core w X h n c k (f k) (by simpa using h2.cell 0) hk (by rw [h3.cell, bc_at _ _ _ _ hk]) (h3.frozen _)).mono ?_
    rintro e w' ⟨rfl, rfl⟩
    obtain ⟨h4, h5⟩ := RefAt.wrote (f' := fPut f k) (b := true) r.width hk (fun i hi => by
      have : decide (i = k) = false := decide_eq_false (by omega)
      simp [fPut, this, r.wd i hi]) (fun i _ => by by_cases e : i = k <;> simp [fPut, e]) h1 h2 h3 (Below.refl _ _)
    exact ⟨rfl, h4, h5⟩
  · simp only [if_neg hi]
    obtain ⟨A, c, h1, h2⟩ := r.head
    refine (rput_no w X n c A i h1 hi).mono ?_
    rintro e w' ⟨rfl, rfl⟩
    exact ⟨rfl, r, Wr.refl _ _ _⟩
theorem rtake_any {w : World} {X h n : Nat} {f : Fs} (r : RefAt w X h n f) (i : Int) (t : Bool) (e : Int) (f' : Fs) (ht : t = if 0 ≤ i ∧ i < n then f i.toNat else false) (he : e = if 0 ≤ i ∧ i < n then 0 else 2) (hf : f' = if 0 ≤ i ∧ i < n then fTake f i.toNat else f) :
    Calls Tryd.prog 21 #[.pointer (some ⟨X, 0, none⟩), .int .i64 i] w (RPost t e w X h n f') := by
  subst ht; subst he; subst hf
  by_cases hi : 0 ≤ i ∧ i < n
  · simp only [if_pos hi]
    obtain ⟨k, rfl⟩ := Int.eq_ofNat_of_zero_le hi.1
    have hk : k < n := by omega
    obtain ⟨c, rest, h1, h2, h3⟩ := r.cells (by omega)
    refine (rtake_core w X h n c k (f k) (by simpa using h2.cell 0) hk (by rw [h3.cell, bc_at _ _ _ _ hk]) (h3.frozen _)).mono ?_
    rintro e w' ⟨rfl, rfl⟩
    obtain ⟨h4, h5⟩ := RefAt.wrote (f' := fTake f k) (b := false) r.width hk (fun i hi => by simp [fTake, r.wd i hi]) (fun i _ => by by_cases e : i = k <;> simp [fTake, e]) h1 h2 h3 (Below.refl _ _)
    exact ⟨rfl, h4, h5⟩
  · simp only [if_neg hi]
    obtain ⟨A, c, h1, h2⟩ := r.head
    refine (rtake_no w X n c A i h1 hi).mono ?_
    rintro e w' ⟨rfl, rfl⟩
    exact ⟨rfl, r, Wr.refl _ _ _⟩
/- Has -/
theorem rhas_no (w : World) (X n c : Nat) (A : Option Addr) (i : Int) (h0 : w.cell? ⟨X, 0, none⟩ = some (.slice A n c)) (hi : ¬ (0 ≤ i ∧ i < n)) :
    Calls Tryd.prog 36 #[.pointer (some ⟨X, 0, none⟩), .int .i64 i] w fun e w' => e = .returned (.bool false) ∧ w = w' := by
  have HI := Lib.hid (in_no w X n c A i h0 hi)
  clear hi
  go_enter Tryd.func36, Tryd.ntmps36
  go_wp2_with (go_at_call 46; refine HI.out.mono ?_; rintro e w1 ⟨rfl, rfl⟩)
  go_ret
  exact ⟨rfl, rfl⟩
theorem rhas_yes (w : World) (X n c k : Nat) (ad : Addr) (b : Bool) (h0 : w.cell? ⟨X, 0, none⟩ = some (.slice (some ad) n c)) (hk : k < n) (h1 : w.cell? (ad.add k) = some (.bool b)) :
    Calls Tryd.prog 36 #[.pointer (some ⟨X, 0, none⟩), .int .i64 k] w fun e w' => e = .returned (.bool b) ∧ w = w' := by
  have hi : (k : Int) < (n : Int) := by omega
  go_enter Tryd.func36, Tryd.ntmps36
  go_wp2_with (go_at_call 46; refine (in_yes _ X n c _ k h0 (by omega) hi).mono ?_; rintro e w1 ⟨rfl, rfl⟩)
  go_ret
  exact ⟨rfl, rfl⟩
theorem rhas_any {w : World} {X h n : Nat} {f : Fs} (r : RefAt w X h n f) (i : Int) (q : Bool) (hq : q = (decide (0 ≤ i) && f i.toNat)) :
    Calls Tryd.prog 36 #[.pointer (some ⟨X, 0, none⟩), .int .i64 i] w fun e w' => e = .returned (.bool q) ∧ w = w' := by
  obtain ⟨A, c, h1, h2⟩ := r.head
  by_cases hi : 0 ≤ i ∧ i < n
  · obtain ⟨k, rfl⟩ := Int.eq_ofNat_of_zero_le hi.1
    obtain ⟨ad, rfl, h3⟩ := h2 k (by omega)
    rw [hq, decide_eq_true (by omega), Bool.true_and]
    exact rhas_yes w X n c k ad (f k) h1 (by omega) h3
  · have e : q = false := by
      rw [hq]
      by_cases h0 : 0 ≤ i
      · rw [r.wd i.toNat (by omega), Bool.and_false]
      · rw [decide_eq_false h0, Bool.false_and]
    rw [e]
    exact rhas_no w X n c A i h1 hi
end Go.Proofs.YtffphlbbophjfaaDoor.Bs
