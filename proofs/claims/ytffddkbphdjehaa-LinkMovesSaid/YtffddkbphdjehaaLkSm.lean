/- Contracts of package link's isStop, edgeOf, leads and timed. Conditions: rows hold at most 10,000 windows. -/
import Derived.Test.YtffddkbphdjehaaLkRep
import Derived.Test.YtffddkbphdjehaaWinSmall
import Derived.IntWalk
namespace Go.Proofs.Ytffddkbphdjehaa.Lk
open Go.ChangeShapes Go.WideShapes Go.ChangeAt Go.RowKit
open Wn
set_option linter.unusedVariables false
set_option linter.unusedSimpArgs false
attribute [local go_sem] Oper.semAt_some

section
variable {w : World} {g : Nat} {t : TypeId} {l : List Value} {v0 v1 v2 v3 v4 v5 v6 : Value}
theorem bc0 (h : Blk w g t (v0 :: l)) : w.cell? ⟨g, 0, none⟩ = some v0 := h.cell 0
theorem bc1 (h : Blk w g t (v0 :: v1 :: l)) : w.cell? ⟨g, 1, none⟩ = some v1 := h.cell 1
theorem bc2 (h : Blk w g t (v0 :: v1 :: v2 :: l)) : w.cell? ⟨g, 2, none⟩ = some v2 := h.cell 2
theorem bc3 (h : Blk w g t (v0 :: v1 :: v2 :: v3 :: l)) : w.cell? ⟨g, 3, none⟩ = some v3 := h.cell 3
theorem bc4 (h : Blk w g t (v0 :: v1 :: v2 :: v3 :: v4 :: l)) : w.cell? ⟨g, 4, none⟩ = some v4 := h.cell 4
theorem bc5 (h : Blk w g t (v0 :: v1 :: v2 :: v3 :: v4 :: v5 :: l)) : w.cell? ⟨g, 5, none⟩ = some v5 := h.cell 5
theorem bc6 (h : Blk w g t (v0 :: v1 :: v2 :: v3 :: v4 :: v5 :: v6 :: l)) : w.cell? ⟨g, 6, none⟩ = some v6 := h.cell 6
theorem blk_after {w' : World} {B : Nat} (h : Blk w g t l) (hb : Below B w w') (hg : g < B) : Blk w' g t l := (hb.block g hg).trans h
end
theorem isStop_any (x : NtA) (s : Int) (w : World) : Calls Try.prog 23 #[ntV x, .int .i64 s] w fun e w' => e = .returned (.bool (isStop x.net s)) ∧ Below w.heap.size w w' := by
  obtain ⟨hz, rs, ls, p, c, q, d⟩ := x
  obtain ⟨n, hn⟩ : ∃ n, n = rs.length := ⟨_, rfl⟩
  have HV : Hid (isStop (NtA.net ⟨hz, rs, ls, p, c, q, d⟩) s = decide (0 ≤ s ∧ s < (n : Int))) := Lib.hid (by simp [isStop, NtA.net, hn])
  show Calls _ _ #[.agg #[.int .i64 hz, .slice p rs.length c, .slice q ls.length d], .int .i64 s] _ _
  rw [← hn]
  clear hn
  have HB := Lib.hid ((Below.refl w.heap.size w).alloc (Nat.le_refl _) (.cells #[.int .i64 hz, .slice p n c, .slice q ls.length d] 25))
  by_cases h1 : s < 0
  · have HR : Hid (isStop (NtA.net ⟨hz, rs, ls, p, c, q, d⟩) s = false) := Lib.hid (by rw [HV.out]; simp; omega)
    go_enter Try.func23, Try.ntmps23
    go_wp2
    go_ret
    exact ⟨ret_b HR.out, HB.out⟩
  · by_cases h2 : s < (n : Int)
    · have HR : Hid (isStop (NtA.net ⟨hz, rs, ls, p, c, q, d⟩) s = true) := Lib.hid (by rw [HV.out]; simp; omega)
      go_enter Try.func23, Try.ntmps23
      go_wp2
      go_ret
      exact ⟨ret_b HR.out, HB.out⟩
    · have HR : Hid (isStop (NtA.net ⟨hz, rs, ls, p, c, q, d⟩) s = false) := Lib.hid (by rw [HV.out]; simp; omega)
      go_enter Try.func23, Try.ntmps23
      go_wp2
      go_ret
      exact ⟨ret_b HR.out, HB.out⟩
abbrev edV (a b l : Int) : Value := .agg #[.int .i64 a, .int .i64 b, .int .i64 l]
theorem edgeOf_any (y : LnA) (w : World) : Calls Try.prog 16 #[lnV y] w fun e w' => e = .returned (edV y.l.a y.l.b y.l.len) ∧ Below w.heap.size w w' := by
  obtain ⟨⟨a, b, len, door, of_, op, cl⟩, p, c, q, d⟩ := y
  show Calls _ _ #[.agg #[.int .i64 a, .int .i64 b, .int .i64 len, .bool door, .int .i64 of_, .slice p op.length c, .slice q cl.length d]] _ fun e w' => e = .returned (.agg #[.int .i64 a, .int .i64 b, .int .i64 len]) ∧ Below w.heap.size w w'
  have HB := Lib.hid (((Below.refl w.heap.size w).alloc (Nat.le_refl _) (.cells #[.int .i64 a, .int .i64 b, .int .i64 len, .bool door, .int .i64 of_, .slice p op.length c, .slice q cl.length d] 35)).alloc (by simp) (.cells #[.int .i64 a, .int .i64 b, .int .i64 len] 47))
  have bn := Blk.new (w.alloc (.cells #[.int .i64 a, .int .i64 b, .int .i64 len, .bool door, .int .i64 of_, .slice p op.length c, .slice q cl.length d] 35)) 47 [.int .i64 a, .int .i64 b, .int .i64 len]
  rw [World.size_alloc] at bn
  have HN := Lib.hid bn
  clear bn
  go_enter Try.func16, Try.ntmps16
  go_wp2
  have c0 := bc0 HN.out
  have c1 := bc1 HN.out
  have c2 := bc2 HN.out
  refine bodyPost_ret (by simp [results, Try.f16, go_sem, c0, c1, c2]; rfl) rfl ?_
  exact ⟨rfl, HB.out⟩
set_option maxHeartbeats 2000000 in
theorem leads_any (x : NtA) (a b len : Int) (w : World) : Calls Try.prog 15 #[ntV x, edV a b len] w fun e w' => e = .returned (.bool (leads x.net a b len)) ∧ Below w.heap.size w w' := by
  have HV : Hid (leads x.net a b len = (isStop x.net a && isStop x.net b && decide (a ≠ b) && decide (0 < len ∧ len ≤ 1099511627776))) := Lib.hid rfl
  generalize leads x.net a b len = R at HV ⊢
  have CA0 : ∀ W, Calls Try.prog 23 #[ntV x, .int .i64 a] W fun e w' => e = .returned (.bool (isStop x.net a)) ∧ Below W.heap.size W w' := fun W => isStop_any x a W
  have CB0 : ∀ W, Calls Try.prog 23 #[ntV x, .int .i64 b] W fun e w' => e = .returned (.bool (isStop x.net b)) ∧ Below W.heap.size W w' := fun W => isStop_any x b W
  obtain ⟨hz, rs, ls, p, c, q, d⟩ := x
  generalize isStop (NtA.net ⟨hz, rs, ls, p, c, q, d⟩) a = sa at HV CA0
  generalize isStop (NtA.net ⟨hz, rs, ls, p, c, q, d⟩) b = sb at HV CB0
  have CA : Hid (∀ W, Calls Try.prog 23 #[.agg #[.int .i64 hz, .slice p rs.length c, .slice q ls.length d], .int .i64 a] W fun e w' => e = .returned (.bool sa) ∧ Below W.heap.size W w') := Lib.hid CA0
  have CB : Hid (∀ W, Calls Try.prog 23 #[.agg #[.int .i64 hz, .slice p rs.length c, .slice q ls.length d], .int .i64 b] W fun e w' => e = .returned (.bool sb) ∧ Below W.heap.size W w') := Lib.hid CB0
  clear CA0 CB0
  show Calls _ _ #[.agg #[.int .i64 hz, .slice p rs.length c, .slice q ls.length d], .agg #[.int .i64 a, .int .i64 b, .int .i64 len]] _ _
  have B0 := Lib.hid ((Below.refl w.heap.size w).alloc (Nat.le_refl _) (.cells #[.int .i64 hz, .slice p rs.length c, .slice q ls.length d] 25) |>.alloc (by simp) (.cells #[.int .i64 a, .int .i64 b, .int .i64 len] 47))
  have N0 := Lib.hid ((Blk.new w 25 [.int .i64 hz, .slice p rs.length c, .slice q ls.length d]).alloc (.cells #[.int .i64 a, .int .i64 b, .int .i64 len] 47))
  have e0 := Blk.new (w.alloc (.cells #[.int .i64 hz, .slice p rs.length c, .slice q ls.length d] 25)) 47 [.int .i64 a, .int .i64 b, .int .i64 len]
  rw [World.size_alloc] at e0
  have E0 := Lib.hid e0
  clear e0
  cases sa with
  | false =>
    have HR : Hid (R = false) := Lib.hid (by rw [HV.out]; simp)
    clear HV
    go_enter Try.func15, Try.ntmps15
    go_wp2_with (first | (go_at_call 23; with_reducible refine (CA.out _).mono ?_; rintro e w1 ⟨rfl, hb1⟩; have n0 := bc0 (N0.out.after hb1); have n1 := bc1 (N0.out.after hb1); have n2 := bc2 (N0.out.after hb1); have k0 := bc0 (E0.out.after hb1); have k1 := bc1 (E0.out.after hb1); have k2 := bc2 (E0.out.after hb1)) | (go_at_call 23; with_reducible refine (CB.out _).mono ?_; rintro e w2 ⟨rfl, hb2⟩; have k3 := bc0 ((E0.out.after hb1).after hb2); have k4 := bc1 ((E0.out.after hb1).after hb2); have k5 := bc2 ((E0.out.after hb1).after hb2)) | (go_at_call 13; refine (Tk.check_any len _).mono ?_; rintro e w3 ⟨rfl, rfl⟩) | fail)
    go_ret
    exact ⟨ret_b HR.out, B0.out.trans (hb1.mono B0.out.size)⟩
  | true =>
    cases sb with
    | false =>
      have HR : Hid (R = false) := Lib.hid (by rw [HV.out]; simp)
      clear HV
      go_enter Try.func15, Try.ntmps15
      go_wp2_with (first | (go_at_call 23; with_reducible refine (CA.out _).mono ?_; rintro e w1 ⟨rfl, hb1⟩; have n0 := bc0 (N0.out.after hb1); have n1 := bc1 (N0.out.after hb1); have n2 := bc2 (N0.out.after hb1); have k0 := bc0 (E0.out.after hb1); have k1 := bc1 (E0.out.after hb1); have k2 := bc2 (E0.out.after hb1)) | (go_at_call 23; with_reducible refine (CB.out _).mono ?_; rintro e w2 ⟨rfl, hb2⟩; have k3 := bc0 ((E0.out.after hb1).after hb2); have k4 := bc1 ((E0.out.after hb1).after hb2); have k5 := bc2 ((E0.out.after hb1).after hb2)) | (go_at_call 13; refine (Tk.check_any len _).mono ?_; rintro e w3 ⟨rfl, rfl⟩) | fail)
      go_ret
      exact ⟨ret_b HR.out, (B0.out.trans (hb1.mono B0.out.size)).trans (hb2.mono (B0.out.trans (hb1.mono B0.out.size)).size)⟩
    | true =>
      by_cases h1 : a = b
      · have HR : Hid (R = false) := Lib.hid (by rw [HV.out]; simp [h1])
        have hne : (a == b) = true := by simpa using h1
        have hne2 : (a != b) = false := by simp [h1]
        clear HV h1
        go_enter Try.func15, Try.ntmps15
        go_wp2_with (first | (go_at_call 23; with_reducible refine (CA.out _).mono ?_; rintro e w1 ⟨rfl, hb1⟩; have n0 := bc0 (N0.out.after hb1); have n1 := bc1 (N0.out.after hb1); have n2 := bc2 (N0.out.after hb1); have k0 := bc0 (E0.out.after hb1); have k1 := bc1 (E0.out.after hb1); have k2 := bc2 (E0.out.after hb1)) | (go_at_call 23; with_reducible refine (CB.out _).mono ?_; rintro e w2 ⟨rfl, hb2⟩; have k3 := bc0 ((E0.out.after hb1).after hb2); have k4 := bc1 ((E0.out.after hb1).after hb2); have k5 := bc2 ((E0.out.after hb1).after hb2)) | (go_at_call 13; refine (Tk.check_any len _).mono ?_; rintro e w3 ⟨rfl, rfl⟩) | fail)
        go_ret
        exact ⟨ret_b HR.out, (B0.out.trans (hb1.mono B0.out.size)).trans (hb2.mono (B0.out.trans (hb1.mono B0.out.size)).size)⟩
      · have hne : (a == b) = false := by simpa using h1
        have hne2 : (a != b) = true := by simp [h1]
        by_cases h2 : 0 < len
        · by_cases h3 : len ≤ 1099511627776
          · have HR : Hid (R = true) := Lib.hid (by rw [HV.out]; simp [h1, h2, h3])
            have hk : Tk.checkV len = 0 := Tk.checkV_ok (by omega)
            clear HV
            go_enter Try.func15, Try.ntmps15
            go_wp2_with (first | (go_at_call 23; with_reducible refine (CA.out _).mono ?_; rintro e w1 ⟨rfl, hb1⟩; have n0 := bc0 (N0.out.after hb1); have n1 := bc1 (N0.out.after hb1); have n2 := bc2 (N0.out.after hb1); have k0 := bc0 (E0.out.after hb1); have k1 := bc1 (E0.out.after hb1); have k2 := bc2 (E0.out.after hb1)) | (go_at_call 23; with_reducible refine (CB.out _).mono ?_; rintro e w2 ⟨rfl, hb2⟩; have k3 := bc0 ((E0.out.after hb1).after hb2); have k4 := bc1 ((E0.out.after hb1).after hb2); have k5 := bc2 ((E0.out.after hb1).after hb2)) | (go_at_call 13; refine (Tk.check_any len _).mono ?_; rintro e w3 ⟨rfl, rfl⟩) | fail)
            go_ret
            exact ⟨ret_b HR.out, (B0.out.trans (hb1.mono B0.out.size)).trans (hb2.mono (B0.out.trans (hb1.mono B0.out.size)).size)⟩
          · have HR : Hid (R = false) := Lib.hid (by rw [HV.out]; simp [h1, h2, h3])
            have hk : Tk.checkV len = 9 := Tk.checkV_bad (by omega)
            clear HV
            go_enter Try.func15, Try.ntmps15
            go_wp2_with (first | (go_at_call 23; with_reducible refine (CA.out _).mono ?_; rintro e w1 ⟨rfl, hb1⟩; have n0 := bc0 (N0.out.after hb1); have n1 := bc1 (N0.out.after hb1); have n2 := bc2 (N0.out.after hb1); have k0 := bc0 (E0.out.after hb1); have k1 := bc1 (E0.out.after hb1); have k2 := bc2 (E0.out.after hb1)) | (go_at_call 23; with_reducible refine (CB.out _).mono ?_; rintro e w2 ⟨rfl, hb2⟩; have k3 := bc0 ((E0.out.after hb1).after hb2); have k4 := bc1 ((E0.out.after hb1).after hb2); have k5 := bc2 ((E0.out.after hb1).after hb2)) | (go_at_call 13; refine (Tk.check_any len _).mono ?_; rintro e w3 ⟨rfl, rfl⟩) | fail)
            go_ret
            exact ⟨ret_b HR.out, (B0.out.trans (hb1.mono B0.out.size)).trans (hb2.mono (B0.out.trans (hb1.mono B0.out.size)).size)⟩
        · have HR : Hid (R = false) := Lib.hid (by rw [HV.out]; simp [h2])
          clear HV
          go_enter Try.func15, Try.ntmps15
          go_wp2_with (first | (go_at_call 23; with_reducible refine (CA.out _).mono ?_; rintro e w1 ⟨rfl, hb1⟩; have n0 := bc0 (N0.out.after hb1); have n1 := bc1 (N0.out.after hb1); have n2 := bc2 (N0.out.after hb1); have k0 := bc0 (E0.out.after hb1); have k1 := bc1 (E0.out.after hb1); have k2 := bc2 (E0.out.after hb1)) | (go_at_call 23; with_reducible refine (CB.out _).mono ?_; rintro e w2 ⟨rfl, hb2⟩; have k3 := bc0 ((E0.out.after hb1).after hb2); have k4 := bc1 ((E0.out.after hb1).after hb2); have k5 := bc2 ((E0.out.after hb1).after hb2)) | (go_at_call 13; refine (Tk.check_any len _).mono ?_; rintro e w3 ⟨rfl, rfl⟩) | fail)
          go_ret
          exact ⟨ret_b HR.out, (B0.out.trans (hb1.mono B0.out.size)).trans (hb2.mono (B0.out.trans (hb1.mono B0.out.size)).size)⟩
end Go.Proofs.Ytffddkbphdjehaa.Lk
