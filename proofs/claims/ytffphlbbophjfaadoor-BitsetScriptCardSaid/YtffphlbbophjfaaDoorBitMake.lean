/- New, Clone, Same of package bitset. -/
import Derived.Test.YtffphlbbophjfaaDoorBitCount
import Derived.Deep.RegionWith
import Derived.Deep.RegionHeld3
import Derived.Laws.Cover3
namespace Go.Proofs.YtffphlbbophjfaaDoor.Bs
open Go.ChangeShapes Go.WideShapes Go.ChangeAt Go.RowKit
set_option linter.unusedVariables false

theorem uc_rep2 (n : Nat) : uc (List.replicate n 0) = List.replicate n (.int .u64 0) := by simp [uc]
def SetPost (w : World) (n : Nat) (v : Value) (r : Ending) (w' : World) : Prop :=
  r = .returned (.pointer (some ⟨w.heap.size, 0, none⟩)) ∧ Blk w' w.heap.size 67 [.pointer (some ⟨w.heap.size, 0, none⟩), .int .i64 n, v] ∧ Below w.heap.size w w'
theorem set_any (w : World) (n : Nat) (A : Option Addr) (len c : Nat) : Calls Tryd.prog 38 #[.int .i64 n, .slice A len c] w (SetPost w n (.slice A len c)) := by
  go_enter Tryd.func38, Tryd.ntmps38
  go_wp2
  go_ret
  exact ⟨rfl, Blk.new w _ [.pointer (some ⟨w.heap.size, 0, none⟩), .int .i64 n, .slice A len c], keep_alloc (Below.refl _ _) _⟩
/-- a new set: it lies in new memory -/
def NewPost (w : World) (n : Nat) (f : Fs) (v : Value → Value) (r : Ending) (w' : World) : Prop :=
  ∃ B g, r = .returned (v (.pointer (some ⟨B, 0, none⟩))) ∧ w.heap.size ≤ B ∧ w.heap.size ≤ g ∧ SetAt w' B g n f ∧ Below w.heap.size w w'
theorem new_bad (n : Int) (w : World) (hn : n < 0 ∨ 1048576 < n) : Calls Tryd.prog 9 #[.int .i64 n] w fun e w' => e = .returned (.tuple #[.pointer none, .int .i64 2]) ∧ w = w' := by
  rcases hn with hn | hn
  · go_enter Tryd.func9, Tryd.ntmps9
    go_wp2
    go_ret2
    exact ⟨rfl, rfl⟩
  · have h0 : ¬ n < 0 := by omega
    go_enter Tryd.func9, Tryd.ntmps9
    go_wp2
    go_ret2
    exact ⟨rfl, rfl⟩
theorem new_any (n : Nat) (w : World) (hn : n ≤ 1048576) : Calls Tryd.prog 9 #[.int .i64 n] w (NewPost w n fEmpty fun p => .tuple #[p, .int .i64 0]) := by
  obtain ⟨k, hk⟩ : ∃ k, k = (n + 63) / 64 := ⟨_, rfl⟩
  have hmk := run_mk Tryd.underlying59 info_u64 (by omega) rfl k k (by omega) (by omega)
  have h0 : ¬ (n : Int) < 0 := by omega
  have h1 : ¬ 1048576 < (n : Int) := by omega
  have e1 : ((n : Int) + 64 - 1) / 64 = (k : Int) := by omega
  have e2 : ((n : Int) + 63) / 64 = (k : Int) := by omega
  have HK := Lib.hid hk
  clear hk
  go_enter Tryd.func9, Tryd.ntmps9
  go_wp2_with (go_at_call 38; refine (set_any _ n _ k k).mono ?_; rintro e w1 ⟨rfl, hb, hbel⟩)
  go_ret2
  refine ⟨_, w.heap.size, rfl, by simp, Nat.le_refl _, ⟨hn, Nat.lt_of_lt_of_le (by simp) hbel.size, _, k, List.replicate k 0, [], by rw [HK.out]; exact Is.empty n, by simp, by simpa using hb, fun _ => ⟨rfl, ?_⟩⟩, ?_⟩
  · rw [uc_rep2, List.append_nil]
    exact (Blk.new w _ _).after hbel
  · exact keep_trans (keep_alloc (Below.refl _ _) _) hbel

/- slices.Equal of words -/
def QPost (w : World) (b : Bool) (r : Ending) (w' : World) : Prop := r = .returned (.bool b) ∧ ∃ m, w' = w.drewN m
theorem drewN_drewN (w : World) (a b : Nat) : (w.drewN a).drewN b = w.drewN (a + b) := by simp [World.drewN, Nat.add_assoc]
theorem equal_core (w : World) (A A' : Option Addr) (len c c' : Nat) (ws vs : List Nat) (q : Bool) (hlen : len ≤ 16384) (hw : ∀ k, k < len → ∃ ad, A = some ad ∧ w.cell? (ad.add k) = some (.int .u64 (ws.getD k 0))) (hv : ∀ k, k < len → ∃ ad, A' = some ad ∧ w.cell? (ad.add k) = some (.int .u64 (vs.getD k 0)))
    (hq : q = true ↔ ∀ k, k < len → ws.getD k 0 = vs.getD k 0) :
    Calls Tryd.prog 45 #[.slice A len c, .slice A' len c'] w (QPost w q) := by
  have HW := Lib.hid hw
  have HV := Lib.hid hv
  have HQ := Lib.hid hq
  clear hw hv hq
  go_enter Tryd.func45, Tryd.ntmps45
  go_wp2
  go_loopw [13] (fun v wr => ∃ (k m : Nat), v = .int .i64 k ∧ k ≤ len ∧ Hid (∀ j, j < k → ws.getD j 0 = vs.getD j 0) ∧ wr = w.drewN m) (fun v _ => len - (intOf v).toNat)
  case atStart => exact ⟨0, 0, rfl, by omega, Lib.hid (fun j hj => by omega), rfl⟩
  case round =>
    obtain ⟨k, m, rfl, hk, hall, rfl⟩ := hrel
    by_cases hlt : k < len
    · obtain ⟨ad, rfl, hc⟩ := HW.out k hlt
      obtain ⟨bd, rfl, hd⟩ := HV.out k hlt
      obtain ⟨x, hx⟩ : ∃ x, x = ws.getD k 0 := ⟨_, rfl⟩
      obtain ⟨y, hy⟩ : ∃ y, y = vs.getD k 0 := ⟨_, rfl⟩
      rw [← hx] at hc
      rw [← hy] at hd
      have f4 : (k : Int) < len := by omega
      by_cases hxy : x = y
      · have e1 : ((x : Int) != (y : Int)) = false := by simp; omega
        have HN : Hid (∀ j, j < k + 1 → ws.getD j 0 = vs.getD j 0) := Lib.hid fun j hj => by
          by_cases e : j = k
          · subst e; rw [← hx, ← hy, hxy]
          · exact hall.out j (by omega)
        clear hxy hx hy hall
        go_wp2
        go_quiet (fail)
        go_wp2
        go_roundw
        case rel => exact ⟨k + 1, _, by go_num, by omega, HN, rfl⟩
        case measure => simp [intOf]; omega
      · have e1 : ((x : Int) != (y : Int)) = true := by simp; omega
        have HR : Hid (q = false) := by
          show _ = _
          cases q with
          | false => rfl
          | true => exact absurd (HQ.out.1 rfl k hlt) (by rw [← hx, ← hy]; exact hxy)
        clear hxy hx hy hall
        go_wp2
        go_quiet (fail)
        go_wp2
        go_ret
        exact ⟨ret_b HR.out, m + _, drewN_drewN _ _ _⟩
    · have HR : Hid (q = true) := Lib.hid (HQ.out.2 fun j hj => hall.out j (by omega))
      clear hall
      go_wp2
      go_ret
      exact ⟨ret_b HR.out, _, rfl⟩
theorem SetAt.read {w : World} {B g n : Nat} {f : Fs} (h : SetAt w B g n f) : ∃ A c ws, Is ws n f ∧ ws.length ≤ c ∧ w.cell? ⟨B, 2, none⟩ = some (.slice A ws.length c) ∧ ∀ k, k < ws.length → ∃ ad, A = some ad ∧ w.cell? (ad.add k) = some (.int .u64 (ws.getD k 0)) := by
  obtain ⟨A, c, ws, rest, h1, h2, h3, h4⟩ := h.obj
  refine ⟨A, c, ws, h1, h2, by simpa using h3.cell 2, fun k hk => ?_⟩
  obtain ⟨rfl, hb⟩ := h4 (by have := h1.len; omega)
  refine ⟨_, rfl, ?_⟩
  have e : (⟨g, 0, none⟩ : Addr).add k = ⟨g, k, none⟩ := by
    unfold Addr.add; split
    · subst_vars; rfl
    · simp
  rw [e, hb.cell, uc_at _ _ _ hk]
theorem words_same {ws vs : List Nat} {n : Nat} {f g : Fs} (h : Is ws n f) (k : Is vs n g) : same f g n = true ↔ ∀ j, j < ws.length → ws.getD j 0 = vs.getD j 0 := by
  rw [← h.same k]
  constructor
  · rintro rfl j _; rfl
  · intro hj
    apply List.ext_getElem (by rw [h.len, k.len])
    intro i h1 h2
    simpa [List.getD_eq_getElem?_getD, h1, h2] using hj i h1
/- Same -/
theorem same_width (B C n m : Nat) (w : World) (h0 : w.cell? ⟨B, 0, none⟩ = some (.pointer (some ⟨B, 0, none⟩))) (h1 : w.cell? ⟨B, 1, none⟩ = some (.int .i64 n)) (k0 : w.cell? ⟨C, 0, none⟩ = some (.pointer (some ⟨C, 0, none⟩))) (k1 : w.cell? ⟨C, 1, none⟩ = some (.int .i64 m)) (ne : ((n : Int) == (m : Int)) = false) :
    Calls Tryd.prog 16 #[.pointer (some ⟨B, 0, none⟩), .pointer (some ⟨C, 0, none⟩)] w (BoolPost w false) := by
  have C1 := Lib.hid (made_set w B h0)
  have C2 := Lib.hid (made_set w C k0)
  go_enter Tryd.func16, Tryd.ntmps16
  go_wp2_with (first
    | (go_at_call 44; (with_reducible refine C1.out.mono ?_); rintro e w1 ⟨rfl, rfl⟩)
    | (go_at_call 44; (with_reducible refine C2.out.mono ?_); rintro e w1 ⟨rfl, rfl⟩))
  go_quiet (fail)
  go_wp2
  go_ret
  exact ⟨rfl, below_drewN (Below.refl _ _) _⟩
theorem same_core (B C n len c c' : Nat) (A A' : Option Addr) (q : Bool) (w : World) (h0 : w.cell? ⟨B, 0, none⟩ = some (.pointer (some ⟨B, 0, none⟩))) (h1 : w.cell? ⟨B, 1, none⟩ = some (.int .i64 n)) (h2 : w.cell? ⟨B, 2, none⟩ = some (.slice A len c)) (k0 : w.cell? ⟨C, 0, none⟩ = some (.pointer (some ⟨C, 0, none⟩))) (k1 : w.cell? ⟨C, 1, none⟩ = some (.int .i64 n)) (k2 : w.cell? ⟨C, 2, none⟩ = some (.slice A' len c'))
    (hE : ∀ m, Calls Tryd.prog 45 #[.slice A len c, .slice A' len c'] (w.drewN m) (QPost (w.drewN m) q)) :
    Calls Tryd.prog 16 #[.pointer (some ⟨B, 0, none⟩), .pointer (some ⟨C, 0, none⟩)] w (BoolPost w q) := by
  have C1 := Lib.hid (made_set w B h0)
  have C2 := Lib.hid (made_set w C k0)
  have C3 : Hid (∀ m, Calls Tryd.prog 45 #[.slice A len c, .slice A' len c'] (w.drewN m) fun e w'' => e = .returned (.bool q) ∧ ∃ j, w'' = w.drewN j) :=
    Lib.hid fun m => (hE m).mono fun e w' ⟨h1, j, h2⟩ => ⟨h1, m + j, by rw [h2, drewN_drewN]⟩
  clear hE
  have e1 : ((n : Int) == (n : Int)) = true := by simp
  go_enter Tryd.func16, Tryd.ntmps16
  go_wp2_with (first
    | (go_at_call 44; (with_reducible refine C1.out.mono ?_); rintro e w1 ⟨rfl, rfl⟩)
    | (go_at_call 44; (with_reducible refine C2.out.mono ?_); rintro e w1 ⟨rfl, rfl⟩))
  go_quiet ((go_at_call 45; exact C3.out _))
  go_wp2
  go_ret
  exact ⟨rfl, below_drewN (Below.refl _ _) _⟩
theorem same_any {w : World} {B g n C g' m : Nat} {f f2 : Fs} (h : SetAt w B g n f) (k : SetAt w C g' m f2) (q : Bool) (hq : q = (decide (n = m) && same f f2 n)) :
    Calls Tryd.prog 16 #[.pointer (some ⟨B, 0, none⟩), .pointer (some ⟨C, 0, none⟩)] w (BoolPost w q) := by
  by_cases hnm : n = m
  · subst hnm
    rw [decide_eq_true rfl, Bool.true_and] at hq
    obtain ⟨A, c, ws, h1, h2, h3, h4⟩ := h.read
    obtain ⟨A', c', vs, k1, k2, k3, k4⟩ := k.read
    have hl : vs.length = ws.length := by rw [h1.len, k1.len]
    rw [hl] at k3 k4
    refine same_core B C n ws.length c c' A A' q w h.self.1 h.self.2 h3 k.self.1 k.self.2 k3 (fun m => ?_)
    refine equal_core (w.drewN m) A A' ws.length c c' ws vs q (h1.lenle h.width) h4 k4 ?_
    rw [hq]; exact words_same h1 k1
  · rw [hq, decide_eq_false hnm, Bool.false_and]
    exact same_width B C n m w h.self.1 h.self.2 k.self.1 k.self.2 (by simp; omega)
theorem same_nils (w : World) : Calls Tryd.prog 16 #[.pointer none, .pointer none] w (BoolPost w true) := by
  go_enter Tryd.func16, Tryd.ntmps16
  go_wp2_with (go_at_call 44; refine (made_nil _).mono ?_; rintro e w1 ⟨rfl, rfl⟩)
  go_ret
  exact ⟨rfl, Below.refl _ _⟩
theorem same_nil2 {w : World} {B g n : Nat} {f : Fs} (h : SetAt w B g n f) : Calls Tryd.prog 16 #[.pointer (some ⟨B, 0, none⟩), .pointer none] w (BoolPost w false) := by
  have C1 := Lib.hid (made_set w B h.self.1)
  have C2 := Lib.hid (made_nil w)
  clear h
  go_enter Tryd.func16, Tryd.ntmps16
  go_wp2_with (first
    | (go_at_call 44; (with_reducible refine C1.out.mono ?_); rintro e w1 ⟨rfl, rfl⟩)
    | (go_at_call 44; (with_reducible refine C2.out.mono ?_); rintro e w1 ⟨rfl, rfl⟩))
  go_ret
  exact ⟨rfl, Below.refl _ _⟩

/- Clone -/
theorem ceq_none (w : World) (l c : Nat) (a : Option Addr) : (binOp .eql 59 (.slice a l c) (.slice none 0 0)).run Tryd.prog w = .ok (.bool a.isNone) w := by
  simp only [binOp]
  simp [run_equal_slice_nil w _ _ a l c Tryd.underlying59]
def SlPost (w : World) (ws : List Nat) (r : Ending) (w' : World) : Prop :=
  ∃ A c, r = .returned (.slice A ws.length c) ∧ ws.length ≤ c ∧ (0 < ws.length → ∃ g rest, A = some ⟨g, 0, none⟩ ∧ w.heap.size ≤ g ∧ Blk w' g 61 (uc ws ++ rest)) ∧ Below w.heap.size w w'
theorem sclone_any (w : World) (A : Option Addr) (n c : Nat) (ws : List Nat) (hn : Hid (n = ws.length)) (hN : n ≤ 16384) (hx : Rd w (· < w.heap.size) A (uc ws)) (hnil : A = none → n = 0) :
    Calls Tryd.prog 49 #[.slice A n c] w (SlPost w ws) := by
  have hx' : Rd (w.alloc (.cells #[] 61)) (· < w.heap.size) A (uc ws) := hx.keep fun b hb => Below.heap_alloc w _ b hb
  have HX := Lib.hid hx'
  have hl : Hid ((uc ws).length = n * 1) := by show _ = _; rw [uc_length, hn.out, Nat.mul_one]
  clear hx hx'
  cases A with
  | none =>
    have h0 := hnil rfl
    have HW : Hid (ws = []) := Lib.hid (List.eq_nil_of_length_eq_zero (by rw [← hn.out]; exact h0))
    have HN := Lib.hid h0
    have heq := fun w => ceq_none w n c none
    simp only [Option.isNone_none] at heq
    clear hnil h0
    go_enter Tryd.func49, Tryd.ntmps49
    go_wp2
    go_ret
    rw [HW.out]
    exact ⟨none, 0, rfl, Nat.le_refl _, fun h => absurd h (by simp), Below.refl _ _⟩
  | some ad =>
    have heq := fun w => ceq_none w n c (some ad)
    simp only [Option.isNone_some] at heq
    clear hnil
    go_enter Tryd.func49, Tryd.ntmps49
    go_wp2_with (at_builtin; refine wpList_append_rd rfl (.tmp 5) (.tmp 6) 59 rfl w.heap.size 61 _ 1 8 Tryd.underlying59 info_u64 rfl (by omega) (by omega) _ 0 [] rfl (own_empty (Nat.le_refl _)) _ (some ad) n c (uc ws) rfl hl.out HX.out (uc_one ws) (by omega) (by simp) ?_; intro v' w1 hown hbel)
    rcases hown.out with ⟨h1, ⟨rfl, h2⟩ | ⟨g, cap, cur, rfl, hg, hb, hc, hm, hs, ht⟩⟩
    · have h0 : ws.length = 0 := by rw [← hn.out]; omega
      go_ret
      exact ⟨none, 0, by rw [h0]; rfl, by omega, fun h => by omega, (keep_alloc (Below.refl _ _) _).trans hbel.out⟩
    · have hl2 : uc ws ++ cur.toList.drop ws.length = cur.toList := by
        simp only [Nat.zero_add, Nat.mul_one, List.nil_append] at ht
        rw [← ht, hn.out, List.take_append_drop]
      have HB : Hid (Blk w1 g 61 (uc ws ++ cur.toList.drop ws.length)) := Lib.hid (by rw [hl2]; simpa [Blk] using hb)
      go_ret
      exact ⟨_, cap, by rw [← hn.out]; simp, by rw [← hn.out]; omega, fun _ => ⟨g, _, rfl, hg, HB.out⟩, (keep_alloc (Below.refl _ _) _).trans hbel.out⟩

theorem clone_nil (w : World) : Calls Tryd.prog 29 #[.pointer none] w fun e w' => e = .returned (.pointer none) ∧ w = w' := by
  go_enter Tryd.func29, Tryd.ntmps29
  go_wp2_with (go_at_call 44; refine (made_nil _).mono ?_; rintro e w1 ⟨rfl, rfl⟩)
  go_ret
  exact ⟨rfl, rfl⟩
theorem clone_done {w w1 w2 : World} {n q d : Nat} {f : Fs} {ws : List Nat} {A : Option Addr} (h1 : Is ws n f) (hn : n ≤ 1048576) (hd : ws.length ≤ d) (hg : 0 < ws.length → ∃ g rest, A = some ⟨g, 0, none⟩ ∧ (w.drewN q).heap.size ≤ g ∧ Blk w1 g 61 (uc ws ++ rest))
    (hb : Below (w.drewN q).heap.size (w.drewN q) w1) (hb2 : Blk w2 w1.heap.size 67 [.pointer (some ⟨w1.heap.size, 0, none⟩), .int .i64 n, .slice A ws.length d]) (hbel : Below w1.heap.size w1 w2) :
    NewPost w n f (fun p => p) (.returned (.pointer (some ⟨w1.heap.size, 0, none⟩))) w2 := by
  have hb' : Below w.heap.size w w1 := (below_drewN (Below.refl _ _) q).trans hb
  have hsz : w.heap.size ≤ w1.heap.size := hb'.size
  by_cases h0 : 0 < n
  · obtain ⟨g, rest, rfl, hg1, hg2⟩ := hg (by rw [h1.len]; omega)
    have hg3 := hg2.after hbel
    exact ⟨_, g, rfl, hsz, hg1, ⟨hn, hg3.lt, _, d, ws, rest, h1, hd, hb2, fun _ => ⟨rfl, hg3⟩⟩, keep_trans hb' hbel⟩
  · exact ⟨_, w1.heap.size, rfl, hsz, hsz, ⟨hn, hb2.lt, _, d, ws, [], h1, hd, hb2, fun h => absurd h h0⟩, keep_trans hb' hbel⟩
set_option maxHeartbeats 2000000 in
theorem clone_any {w : World} {B g n : Nat} {f : Fs} (h : SetAt w B g n f) : Calls Tryd.prog 29 #[.pointer (some ⟨B, 0, none⟩)] w (NewPost w n f fun p => p) := by
  obtain ⟨A, c, ws, rest, h1, h2, h3, h4⟩ := h.obj
  obtain ⟨len, hlen⟩ : ∃ len, len = ws.length := ⟨_, rfl⟩
  have hl2 : len ≤ 16384 := by rw [hlen]; exact h1.lenle h.width
  have c0 : w.cell? ⟨B, 0, none⟩ = some (.pointer (some ⟨B, 0, none⟩)) := by simpa using h3.cell 0
  have c1 : w.cell? ⟨B, 1, none⟩ = some (.int .i64 n) := by simpa using h3.cell 1
  have c2 : w.cell? ⟨B, 2, none⟩ = some (.slice A len c) := by rw [hlen]; simpa using h3.cell 2
  have hB := h.ltB
  have hR : Rd w (· < w.heap.size) A (uc ws) := fun hpos => by
    obtain ⟨rfl, hb⟩ := h4 (by rw [uc_length] at hpos; have := h1.len; omega)
    refine ⟨_, rfl, hb.lt, fun j u hu => ?_⟩
    have e : (⟨g, 0, none⟩ : Addr).add j = ⟨g, j, none⟩ := by
      unfold Addr.add; split
      · subst_vars; rfl
      · simp
    rw [e, hb.cell, List.getElem?_append_left (by exact (List.getElem?_eq_some_iff.1 hu).1)]
    exact hu
  have hnil : A = none → len = 0 := fun e => by
    rcases Nat.eq_zero_or_pos n with h0 | h0
    · rw [hlen, h1.len, h0]
    · rw [(h4 h0).1] at e; cases e
  have C1 := Lib.hid (made_set w B c0)
  have C2 : Hid (∀ q, Calls Tryd.prog 49 #[.slice A len c] (w.drewN q) (SlPost (w.drewN q) ws)) := Lib.hid fun q => sclone_any (w.drewN q) A len c ws (Lib.hid hlen) hl2 hR hnil
  have H1 := Lib.hid h1
  have HK : Hid (∀ q w', Below (w.drewN q).heap.size (w.drewN q) w' → w'.cell? ⟨B, 1, none⟩ = some (.int .i64 n)) := Lib.hid fun q w' hb => (World.cell?_of_block (hb.block B hB)).trans c1
  have HW := Lib.hid h.width
  have HLN := Lib.hid hlen
  clear h h1 h2 h3 h4 hR hnil hlen
  go_enter Tryd.func29, Tryd.ntmps29
  go_wp2_with (go_at_call 44; refine C1.out.mono ?_; rintro e w1 ⟨rfl, rfl⟩)
  go_region_with (first
    | (go_at_call 49; refine (C2.out _).mono ?_; rintro e w1 ⟨A1, d1, rfl, hd1, hg1, hb1⟩; have c1b := HK.out _ _ hb1; have hd1 := Lib.hid hd1; have hg1 := Lib.hid hg1; have hb1 := Lib.hid hb1)
    | (go_at_call 38; refine (set_any _ n _ _ _).mono ?_; rintro e w2 ⟨rfl, hb2, hbel2⟩))
  all_goals
    have HD := Lib.hid (clone_done H1.out HW.out hd1.out hg1.out hb1.out hb2 hbel2)
    clear hb2 hbel2
    go_wp2
    go_ret
    exact HD.out
end Go.Proofs.YtffphlbbophjfaaDoor.Bs
