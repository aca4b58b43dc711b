/- Contracts of package link's wayOf, First and May. Conditions: rows hold at most 10,000 things. -/
import Derived.Test.YtffddkbphdjehaaLkWy
import Derived.Test.YtffddkbphdjehaaLkCk
import Derived.Test.YtffddkbphdjehaaLkAdd
namespace Go.Proofs.Ytffddkbphdjehaa.Lk
open Go.ChangeShapes Go.WideShapes Go.ChangeAt Go.RowKit Go.Sort
open Wn
set_option linter.unusedVariables false
set_option linter.unusedSimpArgs false
attribute [local go_sem] Oper.semAt_some

section
variable {w w1 : World} {g g' B : Nat} {t t' : TypeId} {l : List Value} {u0 u1 u2 u3 u4 u5 v0 v1 v2 v3 v4 v5 : Value}
theorem set6 (h : Blk w1 g t [u0, u1, u2, u3, u4, u5]) : Blk ((((((w1.setCell ⟨g, 0, none⟩ v0).setCell ⟨g, 1, none⟩ v1).setCell ⟨g, 2, none⟩ v2).setCell ⟨g, 3, none⟩ v3).setCell ⟨g, 4, none⟩ v4).setCell ⟨g, 5, none⟩ v5) g t [v0, v1, v2, v3, v4, v5] := by
  have := (((((h.set_ 0 v0).set_ 1 v1).set_ 2 v2).set_ 3 v3).set_ 4 v4).set_ 5 v5
  simpa using this
theorem far6 (h : Blk w1 g' t' l) (hg : g' ≠ g) : Blk ((((((w1.setCell ⟨g, 0, none⟩ v0).setCell ⟨g, 1, none⟩ v1).setCell ⟨g, 2, none⟩ v2).setCell ⟨g, 3, none⟩ v3).setCell ⟨g, 4, none⟩ v4).setCell ⟨g, 5, none⟩ v5) g' t' l :=
  (((((h.far (p := ⟨g, 0, none⟩) hg v0).far (p := ⟨g, 1, none⟩) hg v1).far (p := ⟨g, 2, none⟩) hg v2).far (p := ⟨g, 3, none⟩) hg v3).far (p := ⟨g, 4, none⟩) hg v4).far (p := ⟨g, 5, none⟩) hg v5
theorem below6 (h : Below B w w1) (hg : B ≤ g) : Below B w ((((((w1.setCell ⟨g, 0, none⟩ v0).setCell ⟨g, 1, none⟩ v1).setCell ⟨g, 2, none⟩ v2).setCell ⟨g, 3, none⟩ v3).setCell ⟨g, 4, none⟩ v4).setCell ⟨g, 5, none⟩ v5) :=
  (((((h.setCell (p := ⟨g, 0, none⟩) hg v0).setCell (p := ⟨g, 1, none⟩) hg v1).setCell (p := ⟨g, 2, none⟩) hg v2).setCell (p := ⟨g, 3, none⟩) hg v3).setCell (p := ⟨g, 4, none⟩) hg v4).setCell (p := ⟨g, 5, none⟩) hg v5
end

set_option maxHeartbeats 4000000 in
theorem wayOf_bad (x : NtA) (i : Int) (w : World) (h : NtOk w (· < w.heap.size) x) (hl : Lt x) (hb : ¬ (ok x.net = true ∧ 0 ≤ i ∧ i < x.ls.length)) : Calls Try.prog 20 #[ntV x, .int .i64 i] w fun e w' => e = .returned (.tuple #[.agg #[.int .i64 0, .int .i64 0, .int .i64 0, .nilFunc, .nilFunc, .nilFunc], .bool false]) ∧ Below w.heap.size w w' := by
  have b0 := Blk.new w 25 [.int .i64 x.hz, .slice x.p x.rs.length x.c, .slice x.q x.ls.length x.d]
  obtain ⟨n, hn⟩ : ∃ n, n = x.ls.length := ⟨_, rfl⟩
  have HC : Hid (∀ W, Below w.heap.size w W → Calls Try.prog 6 #[.agg #[.int .i64 x.hz, .slice x.p x.rs.length x.c, .slice x.q n x.d]] W fun e w' => e = .returned (.int .i64 (ck x.net)) ∧ Below W.heap.size W w') := Lib.hid fun W hW => by rw [hn]; exact check_any x W (h.later hW) hl
  show Calls _ _ #[.agg #[.int .i64 x.hz, .slice x.p x.rs.length x.c, .slice x.q x.ls.length x.d], .int .i64 i] _ _
  rw [← hn] at b0 hb ⊢
  have B0 := Lib.hid ((Below.refl w.heap.size w).alloc (Nat.le_refl _) (.cells #[.int .i64 x.hz, .slice x.p x.rs.length x.c, .slice x.q n x.d] 25) |>.alloc (by simp) (.cells #[.int .i64 0, .int .i64 0, .int .i64 0, .nilFunc, .nilFunc, .nilFunc] 55))
  have N0 := Lib.hid (b0.alloc (.cells #[.int .i64 0, .int .i64 0, .int .i64 0, .nilFunc, .nilFunc, .nilFunc] 55))
  have e0 := Blk.new (w.alloc (.cells #[.int .i64 x.hz, .slice x.p x.rs.length x.c, .slice x.q n x.d] 25)) 55 [.int .i64 0, .int .i64 0, .int .i64 0, .nilFunc, .nilFunc, .nilFunc]
  rw [World.size_alloc] at e0
  have E0 := Lib.hid e0
  have CC := Lib.hid (HC.out _ B0.out)
  have HK : Hid (ck x.net = 0 ↔ ok x.net = true) := Lib.hid ck_ok
  generalize ck x.net = K at CC HK
  clear h hl hn HC b0 e0
  by_cases hK : K = 0
  · subst hK
    have ho := HK.out.1 rfl
    clear HK
    by_cases h1 : i < 0
    · clear hb ho
      go_enter Try.func20, Try.ntmps20
      go_wp2_with (go_at_call 6; refine CC.out.mono ?_; rintro e w1 ⟨rfl, hb1⟩; have n0 := bc0 (N0.out.after hb1); have n1 := bc1 (N0.out.after hb1); have n2 := bc2 (N0.out.after hb1); have k0 := bc0 (E0.out.after hb1); have k1 := bc1 (E0.out.after hb1); have k2 := bc2 (E0.out.after hb1); have k3 := bc3 (E0.out.after hb1); have k4 := bc4 (E0.out.after hb1); have k5 := bc5 (E0.out.after hb1); have fz := fun j => (E0.out.after hb1).frozen j)
      have F := set6 (v0 := .int .i64 0) (v1 := .int .i64 0) (v2 := .int .i64 0) (v3 := .nilFunc) (v4 := .nilFunc) (v5 := .nilFunc) (E0.out.after hb1)
      refine bodyPost_ret (by simp [results, Try.f20, go_sem, bc0 F, bc1 F, bc2 F, bc3 F, bc4 F, bc5 F]; rfl) rfl ?_
      exact ⟨rfl, below6 (B0.out.trans (hb1.mono B0.out.size)) (by omega)⟩
    · have h2 : ¬ i < (n : Int) := fun h => hb ⟨ho, by omega, h⟩
      clear hb ho
      go_enter Try.func20, Try.ntmps20
      go_wp2_with (go_at_call 6; refine CC.out.mono ?_; rintro e w1 ⟨rfl, hb1⟩; have n0 := bc0 (N0.out.after hb1); have n1 := bc1 (N0.out.after hb1); have n2 := bc2 (N0.out.after hb1); have k0 := bc0 (E0.out.after hb1); have k1 := bc1 (E0.out.after hb1); have k2 := bc2 (E0.out.after hb1); have k3 := bc3 (E0.out.after hb1); have k4 := bc4 (E0.out.after hb1); have k5 := bc5 (E0.out.after hb1); have fz := fun j => (E0.out.after hb1).frozen j)
      have F := set6 (v0 := .int .i64 0) (v1 := .int .i64 0) (v2 := .int .i64 0) (v3 := .nilFunc) (v4 := .nilFunc) (v5 := .nilFunc) (E0.out.after hb1)
      refine bodyPost_ret (by simp [results, Try.f20, go_sem, bc0 F, bc1 F, bc2 F, bc3 F, bc4 F, bc5 F]; rfl) rfl ?_
      exact ⟨rfl, below6 (B0.out.trans (hb1.mono B0.out.size)) (by omega)⟩
  · have hne : (K != 0) = true := by simpa using hK
    clear hb HK hK
    go_enter Try.func20, Try.ntmps20
    go_wp2_with (go_at_call 6; refine CC.out.mono ?_; rintro e w1 ⟨rfl, hb1⟩; have n0 := bc0 (N0.out.after hb1); have n1 := bc1 (N0.out.after hb1); have n2 := bc2 (N0.out.after hb1); have k0 := bc0 (E0.out.after hb1); have k1 := bc1 (E0.out.after hb1); have k2 := bc2 (E0.out.after hb1); have k3 := bc3 (E0.out.after hb1); have k4 := bc4 (E0.out.after hb1); have k5 := bc5 (E0.out.after hb1); have fz := fun j => (E0.out.after hb1).frozen j)
    have F := set6 (v0 := .int .i64 0) (v1 := .int .i64 0) (v2 := .int .i64 0) (v3 := .nilFunc) (v4 := .nilFunc) (v5 := .nilFunc) (E0.out.after hb1)
    refine bodyPost_ret (by simp [results, Try.f20, go_sem, bc0 F, bc1 F, bc2 F, bc3 F, bc4 F, bc5 F]; rfl) rfl ?_
    exact ⟨rfl, below6 (B0.out.trans (hb1.mono B0.out.size)) (by omega)⟩

set_option maxHeartbeats 4000000 in
theorem wayOf_ok (x : NtA) (k : Nat) (y : LnA) (w : World) (h : NtOk w (· < w.heap.size) x) (hl : Lt x) (hok : ok x.net = true) (hy : x.ls[k]? = some y) : Calls Try.prog 20 #[ntV x, .int .i64 k] w fun e w' => ∃ gn gl, e = .returned (.tuple #[wyV y gn gl, .bool true]) ∧ Hid (WyAt w' x y gn gl) ∧ Below w.heap.size w w' := by
  have b0 := Blk.new w 25 [.int .i64 x.hz, .slice x.p x.rs.length x.c, .slice x.q x.ls.length x.d]
  obtain ⟨n, hn⟩ : ∃ n, n = x.ls.length := ⟨_, rfl⟩
  obtain ⟨C, hC⟩ : ∃ C, C = x.q := ⟨_, rfl⟩
  have HC : Hid (∀ W, Below w.heap.size w W → Calls Try.prog 6 #[.agg #[.int .i64 x.hz, .slice x.p x.rs.length x.c, .slice C n x.d]] W fun e w' => e = .returned (.int .i64 0) ∧ Below W.heap.size W w') := Lib.hid fun W hW => by
    have := check_any x W (h.later hW) hl
    rw [ck_ok.2 hok] at this
    rw [hn, hC]; exact this
  have hk : k < n := by rw [hn]; exact (List.getElem?_eq_some_iff.1 hy).1
  have HX := Lib.hid h
  have HL : Hid (∀ W, Below w.heap.size w W → ∃ ad, x.q = some ad ∧ ad.block < W.heap.size ∧ (W.cell? (ad.add (k * 7)) = some (i64 y.l.a) ∧ W.cell? ⟨(ad.add (k * 7)).block, (ad.add (k * 7)).off + 1, none⟩ = some (i64 y.l.b) ∧ W.cell? ⟨(ad.add (k * 7)).block, (ad.add (k * 7)).off + 2, none⟩ = some (i64 y.l.len) ∧ W.cell? ⟨(ad.add (k * 7)).block, (ad.add (k * 7)).off + 3, none⟩ = some (.bool y.l.door) ∧ W.cell? ⟨(ad.add (k * 7)).block, (ad.add (k * 7)).off + 4, none⟩ = some (i64 y.l.of) ∧ W.cell? ⟨(ad.add (k * 7)).block, (ad.add (k * 7)).off + 5, none⟩ = some (.slice y.p y.l.op.length y.c) ∧ W.cell? ⟨(ad.add (k * 7)).block, (ad.add (k * 7)).off + 6, none⟩ = some (.slice y.q y.l.cl.length y.d)) ∧ LnOk W (· < W.heap.size) y) := Lib.hid fun W hW => (h.later hW).link hy
  show Calls _ _ #[.agg #[.int .i64 x.hz, .slice x.p x.rs.length x.c, .slice x.q x.ls.length x.d], .int .i64 k] _ _
  rw [← hn, ← hC] at b0 ⊢
  have HCq := Lib.hid hC
  have Hn := Lib.hid hn
  have B0 := Lib.hid ((Below.refl w.heap.size w).alloc (Nat.le_refl _) (.cells #[.int .i64 x.hz, .slice x.p x.rs.length x.c, .slice C n x.d] 25) |>.alloc (by simp) (.cells #[.int .i64 0, .int .i64 0, .int .i64 0, .nilFunc, .nilFunc, .nilFunc] 55))
  have N0 := Lib.hid (b0.alloc (.cells #[.int .i64 0, .int .i64 0, .int .i64 0, .nilFunc, .nilFunc, .nilFunc] 55))
  have e0 := Blk.new (w.alloc (.cells #[.int .i64 x.hz, .slice x.p x.rs.length x.c, .slice C n x.d] 25)) 55 [.int .i64 0, .int .i64 0, .int .i64 0, .nilFunc, .nilFunc, .nilFunc]
  rw [World.size_alloc] at e0
  have E0 := Lib.hid e0
  have CC := Lib.hid (HC.out _ B0.out)
  have hi : (k : Int) < (n : Int) := by omega
  obtain ⟨ad0, had0, -, -, -⟩ := h.link hy
  obtain rfl : C = some ad0 := hC.trans had0
  have HE : Hid (∀ W, Calls Try.prog 16 #[.agg #[.int .i64 y.l.a, .int .i64 y.l.b, .int .i64 y.l.len, .bool y.l.door, .int .i64 y.l.of, .slice y.p y.l.op.length y.c, .slice y.q y.l.cl.length y.d]] W fun e w' => e = .returned (.agg #[.int .i64 y.l.a, .int .i64 y.l.b, .int .i64 y.l.len]) ∧ Below W.heap.size W w') := Lib.hid fun W => edgeOf_any y W
  obtain ⟨dr, hdr⟩ : ∃ dr, dr = y.l.door := ⟨_, rfl⟩
  clear h hl hn HC b0 e0 hok hC had0 hk hy
  have HD := Lib.hid hdr
  rw [← hdr] at HL HE
  clear hdr
  cases dr
  · go_enter Try.func20, Try.ntmps20
    go_wp2_with (first | (go_at_call 6; refine CC.out.mono ?_; rintro e w1 ⟨rfl, hb1⟩; have n0 := bc0 (N0.out.after hb1); have n1 := bc1 (N0.out.after hb1); have n2 := bc2 (N0.out.after hb1); obtain ⟨ad, had, hS, ⟨h0, h1, h2, h3, h4, h5, h6⟩, hlk⟩ := HL.out w1 (B0.out.trans (hb1.mono B0.out.size)); obtain rfl : ad0 = ad := Option.some.inj (HCq.out.trans had); have HLK := Lib.hid hlk; clear had hlk) | (go_at_call 16; refine (HE.out _).mono ?_; rintro e w3 ⟨rfl, hb3⟩; have EE := Lib.hid (((E0.out.after hb1).alloc (.cells #[.int .i64 y.l.a, .int .i64 y.l.b, .int .i64 y.l.len, .bool false, .int .i64 y.l.of, .slice y.p y.l.op.length y.c, .slice y.q y.l.cl.length y.d] 35)).after hb3); have k0 := bc0 EE.out; have k1 := bc1 EE.out; have k2 := bc2 EE.out; have k3 := bc3 EE.out; have k4 := bc4 EE.out; have k5 := bc5 EE.out; have fz := fun j => EE.out.frozen j) | fail)
    have F := set6 (v0 := .int .i64 y.l.a) (v1 := .int .i64 y.l.b) (v2 := .int .i64 y.l.len) (v3 := .func (.func 29) #[] #[.pointer (some ⟨w.heap.size, 0, none⟩), .pointer (some ⟨w1.heap.size, 0, none⟩)]) (v4 := .func (.func 24) #[] #[.pointer (some ⟨w1.heap.size, 0, none⟩)]) (v5 := .func (.func 31) #[] #[.pointer (some ⟨w.heap.size, 0, none⟩), .pointer (some ⟨w1.heap.size, 0, none⟩)]) EE.out
    refine bodyPost_ret (by simp [results, Try.f20, go_sem, bc0 F, bc1 F, bc2 F, bc3 F, bc4 F, bc5 F]; rfl) rfl ?_
    have hs1 : w.heap.size + 2 ≤ w1.heap.size := by simpa using hb1.size
    have h10 := B0.out.trans (hb1.mono B0.out.size)
    have h13 : Below w1.heap.size w1 w3 := ((Below.refl _ _).alloc (Nat.le_refl _) _).trans (hb3.mono (by simp))
    have h03 := h10.trans (h13.mono h10.size)
    have hF := below6 (g := w.heap.size + 1) (v0 := .int .i64 y.l.a) (v1 := .int .i64 y.l.b) (v2 := .int .i64 y.l.len) (v3 := .func (.func 29) #[] #[.pointer (some ⟨w.heap.size, 0, none⟩), .pointer (some ⟨w1.heap.size, 0, none⟩)]) (v4 := .func (.func 24) #[] #[.pointer (some ⟨w1.heap.size, 0, none⟩)]) (v5 := .func (.func 31) #[] #[.pointer (some ⟨w.heap.size, 0, none⟩), .pointer (some ⟨w1.heap.size, 0, none⟩)]) h03 (by omega)
    refine ⟨w.heap.size, w1.heap.size, ?_, Lib.hid ⟨?_, ?_, HX.out.later hF, ?_⟩, hF⟩
    · unfold wyV passF; rw [← HD.out]; rfl
    · rw [← Hn.out, ← HCq.out]; exact far6 (((N0.out.after hb1).alloc _).after hb3) (by omega)
    · rw [← HD.out]; exact far6 ((Blk.new w1 _ _).after hb3) (by omega)
    · obtain ⟨_, _, _, _, hlk⟩ := HL.out _ hF; exact hlk
  · go_enter Try.func20, Try.ntmps20
    go_wp2_with (first | (go_at_call 6; refine CC.out.mono ?_; rintro e w1 ⟨rfl, hb1⟩; have n0 := bc0 (N0.out.after hb1); have n1 := bc1 (N0.out.after hb1); have n2 := bc2 (N0.out.after hb1); obtain ⟨ad, had, hS, ⟨h0, h1, h2, h3, h4, h5, h6⟩, hlk⟩ := HL.out w1 (B0.out.trans (hb1.mono B0.out.size)); obtain rfl : ad0 = ad := Option.some.inj (HCq.out.trans had); have HLK := Lib.hid hlk; clear had hlk) | (go_at_call 16; refine (HE.out _).mono ?_; rintro e w3 ⟨rfl, hb3⟩; have EE := Lib.hid (((E0.out.after hb1).alloc (.cells #[.int .i64 y.l.a, .int .i64 y.l.b, .int .i64 y.l.len, .bool true, .int .i64 y.l.of, .slice y.p y.l.op.length y.c, .slice y.q y.l.cl.length y.d] 35)).after hb3); have k0 := bc0 EE.out; have k1 := bc1 EE.out; have k2 := bc2 EE.out; have k3 := bc3 EE.out; have k4 := bc4 EE.out; have k5 := bc5 EE.out; have fz := fun j => EE.out.frozen j) | fail)
    have F := set6 (v0 := .int .i64 y.l.a) (v1 := .int .i64 y.l.b) (v2 := .int .i64 y.l.len) (v3 := .func (.func 29) #[] #[.pointer (some ⟨w.heap.size, 0, none⟩), .pointer (some ⟨w1.heap.size, 0, none⟩)]) (v4 := .func (.func 27) #[] #[.pointer (some ⟨w1.heap.size, 0, none⟩)]) (v5 := .func (.func 31) #[] #[.pointer (some ⟨w.heap.size, 0, none⟩), .pointer (some ⟨w1.heap.size, 0, none⟩)]) EE.out
    refine bodyPost_ret (by simp [results, Try.f20, go_sem, bc0 F, bc1 F, bc2 F, bc3 F, bc4 F, bc5 F]; rfl) rfl ?_
    have hs1 : w.heap.size + 2 ≤ w1.heap.size := by simpa using hb1.size
    have h10 := B0.out.trans (hb1.mono B0.out.size)
    have h13 : Below w1.heap.size w1 w3 := ((Below.refl _ _).alloc (Nat.le_refl _) _).trans (hb3.mono (by simp))
    have h03 := h10.trans (h13.mono h10.size)
    have hF := below6 (g := w.heap.size + 1) (v0 := .int .i64 y.l.a) (v1 := .int .i64 y.l.b) (v2 := .int .i64 y.l.len) (v3 := .func (.func 29) #[] #[.pointer (some ⟨w.heap.size, 0, none⟩), .pointer (some ⟨w1.heap.size, 0, none⟩)]) (v4 := .func (.func 27) #[] #[.pointer (some ⟨w1.heap.size, 0, none⟩)]) (v5 := .func (.func 31) #[] #[.pointer (some ⟨w.heap.size, 0, none⟩), .pointer (some ⟨w1.heap.size, 0, none⟩)]) h03 (by omega)
    refine ⟨w.heap.size, w1.heap.size, ?_, Lib.hid ⟨?_, ?_, HX.out.later hF, ?_⟩, hF⟩
    · unfold wyV passF; rw [← HD.out]; rfl
    · rw [← Hn.out, ← HCq.out]; exact far6 (((N0.out.after hb1).alloc _).after hb3) (by omega)
    · rw [← HD.out]; exact far6 ((Blk.new w1 _ _).after hb3) (by omega)
    · obtain ⟨_, _, _, _, hlk⟩ := HL.out _ hF; exact hlk
end Go.Proofs.Ytffddkbphdjehaa.Lk
