/- The statements' own examples: what lives answers. Conditions: the library's variables hold what start-up lays. -/
import Derived.Test.YtgcphhialllieaaDoorLexAllWalk
import Derived.Test.YtgcphhialllieaaDoorLexKit
namespace Go.Proofs.YtgcphhialllieaaDoor.Lx
open Go.ChangeShapes Go.WideShapes Go.ChangeAt Go.RowKit
set_option linter.unusedVariables false

theorem lit_at (w : World) (n : Nat) (l : Array Value) (t : TypeId) (xs : List Value) (hn : n = w.heap.size) (h : xs.toArray = l) : Rd (w.alloc (.cells l t)) (· < (w.alloc (.cells l t)).heap.size) (some ⟨n, 0, none⟩) xs := by subst hn; exact lit_rd w l t xs h
theorem one_box (w : World) (o : Obj) : Below w.heap.size w (w.alloc o) := (Below.refl _ _).alloc (Nat.le_refl _) _
def OkPost (w : World) (toks : List Tok) (e : Ending) (w' : World) : Prop :=
  ∃ A c, e = .returned (.tuple #[.slice A toks.length c, .agg #[.int .i64 0, .int .i64 0, .int .i64 0]]) ∧ toks.length ≤ 2 * 65536 ∧ Rd w' (fun b => w.heap.size ≤ b ∧ b < w'.heap.size) A (tc toks) ∧ Below w.heap.size w w'
def BadPost (w : World) (er l c : Nat) (e : Ending) (w' : World) : Prop :=
  e = .returned (.tuple #[.slice none 0 0, .agg #[.int .i64 er, .int .i64 l, .int .i64 c]]) ∧ Below w.heap.size w w'
theorem all_ok {s : ByteArray} {toks : List Tok} (h : lexAll s = .ok toks) (w : World) (hE : Tk.Env w) : Calls Tryd.prog 9 #[.string s] w (OkPost w toks) := by
  refine (all_any s w hE).mono ?_
  rw [h]
  rintro e w' (⟨er, l, c, hr, _⟩ | ⟨t, A, c, hr, he, h1, h2, h3, h4⟩)
  · cases hr
  · injection hr with hr
    subst hr
    exact ⟨A, c, he, h2, h3, h4⟩
theorem all_bad {s : ByteArray} {er l c : Nat} (h : lexAll s = .bad er l c) (w : World) (hE : Tk.Env w) : Calls Tryd.prog 9 #[.string s] w (BadPost w er l c) := by
  refine (all_any s w hE).mono ?_
  rw [h]
  rintro e w' (⟨er', l', c', hr, he, hb⟩ | ⟨t, A, c, hr, _⟩)
  · injection hr with h1 h2 h3
    subst h1; subst h2; subst h3
    exact ⟨he, hb⟩
  · cases hr

def livesT : List Tok := [⟨2, [115, 116, 111, 112], 0, 1, 1⟩, ⟨1, [97, 49], 0, 1, 6⟩, ⟨4, [], 0, 1, 12⟩]
theorem lives1 : lexAll ⟨#[115, 116, 111, 112, 32, 97, 49, 32, 35, 32, 120, 10]⟩ = .ok livesT := by rfl
theorem lives2 : lexAll ⟨#[48, 48, 55]⟩ = .bad 7 1 1 := by rfl
theorem lives3 : lexAll ⟨#[51, 120]⟩ = .bad 7 1 2 := by rfl

set_option maxHeartbeats 1000000 in
theorem lives_any (w : World) (hE : Tk.Env w) : Calls Tryd.prog 10 #[] w fun e w' => e = .returned (.bool true) ∧ Below w.heap.size w w' := by
  have C1 : Hid (∀ w', Below w.heap.size w w' → Calls Tryd.prog 9 #[.string ⟨#[115, 116, 111, 112, 32, 97, 49, 32, 35, 32, 120, 10]⟩] w' fun e w2 => ∃ A c, e = .returned (.tuple #[.slice A 3 c, .agg #[.int .i64 0, .int .i64 0, .int .i64 0]]) ∧ Rd w2 (fun b => w'.heap.size ≤ b ∧ b < w2.heap.size) A (tc livesT) ∧ Below w'.heap.size w' w2) :=
    Lib.hid (fun w' h => (all_ok lives1 w' (hE.on h)).mono fun e w2 ⟨A, c, h1, _, h2, h3⟩ => ⟨A, c, h1, h2, h3⟩)
  have C2 := Lib.hid (fun w' (h : Below w.heap.size w w') => all_bad lives2 w' (hE.on h))
  have C3 := Lib.hid (fun w' (h : Below w.heap.size w w') => all_bad lives3 w' (hE.on h))
  clear hE
  go_enter Tryd.func10, Tryd.ntmps10
  go_wp2_with (first
    | (go_at_call 9; ((with_reducible refine (C1.out _ (Below.refl _ _)).mono ?_); rintro e w1 ⟨A, c, rfl, hrd, hb⟩; have HR := Lib.hid hrd; have HB := Lib.hid hb; clear hrd hb))
    | (go_at_call 9; ((with_reducible refine (C2.out _ (HB.out.alloc HB.out.size _)).mono ?_); rintro e w2 ⟨rfl, hb⟩; have HB2 := Lib.hid hb; clear hb; have K1 := Lib.hid ((Blk.new w1 25 [.int .i64 0, .int .i64 0, .int .i64 0]).after HB2.out); have HB3 := Lib.hid (below_then (HB.out.alloc HB.out.size _) HB2.out (Nat.le_trans HB.out.size (by simp))); have hs1 : w1.heap.size < w2.heap.size := K1.out.lt))
    | (go_at_call 9; ((with_reducible refine (C3.out _ (HB3.out.alloc HB3.out.size _)).mono ?_); rintro e w3 ⟨rfl, hb⟩; have HB4 := Lib.hid hb; clear hb; have H13 := Lib.hid (keep_trans (keep_trans (one_box w1 _) HB2.out) (keep_trans (one_box w2 _) HB4.out)); have K2 := Lib.hid ((Blk.new w2 25 [.int .i64 7, .int .i64 1, .int .i64 1]).after HB4.out); have K3 := Lib.hid ((K1.out.alloc _).after HB4.out); have HB5 := Lib.hid (below_then (HB3.out.alloc HB3.out.size _) HB4.out (Nat.le_trans HB3.out.size (by simp))); have hs2 : w2.heap.size < w3.heap.size := K2.out.lt; have a0 : ∀ o, (w3.alloc o).cell? ⟨w1.heap.size, 0, none⟩ = some (.int .i64 0) := fun o => (K3.out.alloc o).cell 0; have a1 : ∀ o, (w3.alloc o).cell? ⟨w1.heap.size, 1, none⟩ = some (.int .i64 0) := fun o => (K3.out.alloc o).cell 1; have a2 : ∀ o, (w3.alloc o).cell? ⟨w1.heap.size, 2, none⟩ = some (.int .i64 0) := fun o => (K3.out.alloc o).cell 2))
    | (go_at_call 18; refine (same_tok _ _ _ 3 _ _ livesT rfl (by omega) (HR.out.old.later (keep_trans H13.out (two_box _ _ _))) (lit_at _ _ _ _ _ (by simp) rfl)).mono ?_; rintro e w4 ⟨rfl, hb4⟩; have HB6 := Lib.hid hb4; clear hb4; have K5 := Lib.hid (((K2.out.alloc _).alloc _).after HB6.out); have K6 := Lib.hid (((Blk.new w3 25 [.int .i64 7, .int .i64 1, .int .i64 2]).alloc _).after HB6.out); have b0 : w4.cell? ⟨w2.heap.size, 0, none⟩ = some (.int .i64 7) := K5.out.cell 0; have b1 : w4.cell? ⟨w2.heap.size, 1, none⟩ = some (.int .i64 1) := K5.out.cell 1; have b2 : w4.cell? ⟨w2.heap.size, 2, none⟩ = some (.int .i64 1) := K5.out.cell 2; have c0 : w4.cell? ⟨w3.heap.size, 0, none⟩ = some (.int .i64 7) := K6.out.cell 0; have c1 : w4.cell? ⟨w3.heap.size, 1, none⟩ = some (.int .i64 1) := K6.out.cell 1; have c2 : w4.cell? ⟨w3.heap.size, 2, none⟩ = some (.int .i64 2) := K6.out.cell 2))
  go_ret
  exact ⟨rfl, (keep_trans HB.out H13.out).trans ((keep_trans (two_box w3 _ _) HB6.out).mono (keep_trans HB.out H13.out).size)⟩
end Go.Proofs.YtgcphhialllieaaDoor.Lx
