/- Package lex's Like at tokens that are alike; the verifier's helpers at tokens: Same of two rows that are alike, Own. Conditions: the rows hold fewer than a million tokens. -/
import Derived.Test.YtgcphhialllieaaDoorLexPut
import Derived.Deep.RegionWith
namespace Go.Proofs.YtgcphhialllieaaDoor.Lx
open Go.ChangeShapes Go.WideShapes Go.ChangeAt Go.RowKit
set_option linter.unusedVariables false

/-- a token's value -/
abbrev ta (k : Int) (x : List UInt8) (n l c : Int) : Value := .agg #[.int .i64 k, .string ⟨x.toArray⟩, .int .i64 n, .int .i64 l, .int .i64 c]
/-- the cells of the token at address a -/
structure TokC (w : World) (a : Addr) (t : Tok) : Prop where
  c0 : w.cell? a = some (.int .i64 t.kind)
  c1 : w.cell? ⟨a.block, a.off + 1, none⟩ = some (.string ⟨t.text.toArray⟩)
  c2 : w.cell? ⟨a.block, a.off + 2, none⟩ = some (.int .i64 t.num)
  c3 : w.cell? ⟨a.block, a.off + 3, none⟩ = some (.int .i64 t.line)
  c4 : w.cell? ⟨a.block, a.off + 4, none⟩ = some (.int .i64 t.col)
theorem Rd.tok {w : World} {S : Nat → Prop} {A : Option Addr} {zs : List Tok} (h : Rd w S A (tc zs)) {k : Nat} {t : Tok} (hk : zs[k]? = some t) : ∃ ad, A = some ad ∧ S ad.block ∧ TokC w (ad.add (k * 5)) t := by
  have hlt : k < zs.length := by
    rcases Nat.lt_or_ge k zs.length with hl | hl
    · exact hl
    · rw [List.getElem?_eq_none hl] at hk; cases hk
  obtain ⟨ad, e, hb, hc⟩ := h (by rw [tc_length]; omega)
  obtain ⟨h0, h1, h2, h3, h4⟩ := tc_at zs k t hk
  have e1 : (⟨(ad.add (k * 5)).block, (ad.add (k * 5)).off + 1, none⟩ : Addr) = (ad.add (k * 5)).add 1 := rfl
  have e2 : (⟨(ad.add (k * 5)).block, (ad.add (k * 5)).off + 2, none⟩ : Addr) = (ad.add (k * 5)).add 2 := rfl
  have e3 : (⟨(ad.add (k * 5)).block, (ad.add (k * 5)).off + 3, none⟩ : Addr) = (ad.add (k * 5)).add 3 := rfl
  have e4 : (⟨(ad.add (k * 5)).block, (ad.add (k * 5)).off + 4, none⟩ : Addr) = (ad.add (k * 5)).add 4 := rfl
  exact ⟨ad, e, hb, hc _ _ h0, by rw [e1, add_of_add]; exact hc _ _ h1, by rw [e2, add_of_add]; exact hc _ _ h2, by rw [e3, add_of_add]; exact hc _ _ h3, by rw [e4, add_of_add]; exact hc _ _ h4⟩
theorem Rd.below2 {w w' : World} {A : Option Addr} {xs : List Value} (h : Rd w (· < w.heap.size) A xs) (hb : Below w.heap.size w w') : Rd w' (· < w.heap.size) A xs := h.below hb
theorem Rd.old {w : World} {B : Nat} {A : Option Addr} {xs : List Value} (h : Rd w (fun b => B ≤ b ∧ b < w.heap.size) A xs) : Rd w (· < w.heap.size) A xs := h.more fun _ hb => hb.2
theorem Rd.later {w w' : World} {A : Option Addr} {xs : List Value} (h : Rd w (· < w.heap.size) A xs) (hb : Below w.heap.size w w') : Rd w' (· < w'.heap.size) A xs :=
  (h.below hb).more fun b h1 => by have := hb.size; omega
theorem tok_at (zs : List Tok) {k n : Nat} (hn : Hid (n = zs.length)) (hk : k < n) : ∃ t, zs[k]? = some t := ⟨_, List.getElem?_eq_getElem (by rw [← hn.out]; exact hk)⟩

set_option maxHeartbeats 1000000 in
theorem same_tok (w : World) (A B : Option Addr) (n c d : Nat) (zs : List Tok) (hn : Hid (n = zs.length)) (hN : n ≤ 1000000) (hx : Rd w (· < w.heap.size) A (tc zs)) (hy : Rd w (· < w.heap.size) B (tc zs)) :
    Calls Tryd.prog 18 #[.slice A n c, .slice B n d] w fun e w' => e = .returned (.bool true) ∧ Below w.heap.size w w' := by
  have HX := Lib.hid hx
  have HY := Lib.hid hy
  clear hx hy
  go_enter Tryd.func18, Tryd.ntmps18
  go_wp2
  go_loopw [5] (fun v5 wr => ∃ k : Nat, v5 = .int .i64 k ∧ k ≤ n ∧ Below w.heap.size w wr) (fun v _ => n - (intOf v).toNat)
  case atStart => exact ⟨0, rfl, by omega, Below.refl _ _⟩
  case round =>
    obtain ⟨k, rfl, hk, hbel⟩ := hrel
    by_cases hlt : k < n
    · obtain ⟨⟨kd, tx, nm, ln, cl⟩, ht⟩ := tok_at zs hn hlt
      obtain ⟨ad, rfl, hS, ⟨a0, a1, a2, a3, a4⟩⟩ := (HX.out.below2 hbel).tok ht
      obtain ⟨bd, rfl, hT, ⟨b0, b1, b2, b3, b4⟩⟩ := (HY.out.below2 hbel).tok ht
      have HB := Lib.hid hbel
      clear hbel ht
      have hi : (k : Int) < (n : Int) := by omega
      go_wp2
      go_quiet (fail)
      go_wp2
      go_roundw
      case rel => exact ⟨k + 1, by go_num, by omega, below_drewN HB.out _⟩
      case measure => simp [intOf]; omega
    · have HB := Lib.hid hbel
      clear hbel
      go_wp2
      go_ret
      exact ⟨rfl, HB.out⟩

/-- a row of tokens in new memory -/
def ToksNew (w : World) (zs : List Tok) (e : Ending) (w' : World) : Prop :=
  ∃ A c, e = .returned (.slice A zs.length c) ∧ w'.ownsRow w.heap.size 31 5 (.slice A zs.length c) zs.length (tc zs) ∧ Below w.heap.size w w'
theorem own_tok (w : World) (A : Option Addr) (n c : Nat) (zs : List Tok) (hn : Hid (n = zs.length)) (hN : n ≤ 1000000) (hx : Rd w (· < w.heap.size) A (tc zs)) :
    Calls Tryd.prog 17 #[.slice A n c] w (ToksNew w zs) := by
  have hx' : Rd (w.alloc (.cells #[] 31)) (· < w.heap.size) A (tc zs) := hx.keep fun b hb => Below.heap_alloc w _ b hb
  have HX := Lib.hid hx'
  have hl : Hid ((tc zs).length = n * 5) := by show _ = _; rw [tc_length, hn.out]
  clear hx hx'
  go_enter Tryd.func17, Tryd.ntmps17
  go_wp2_with (at_builtin; refine wpList_append_rd rfl (.tmp 3) (.tmp 4) 22 rfl w.heap.size 31 _ 5 48 Tryd.underlying22 info_tok rfl (by omega) (by omega) _ 0 [] rfl (own_empty (Nat.le_refl _)) _ A n c (tc zs) rfl hl.out HX.out (tc_one zs) (by omega) (by simp) ?_; intro v' w1 hown hbel)
  obtain ⟨B, d, hv, hnd, hrd⟩ := own_form hown.out
  have ho := hown.out
  have hnn := hn.out
  simp only [Nat.zero_add, List.nil_append] at hv ho
  subst hnn
  subst hv
  go_ret
  exact ⟨B, d, rfl, ho, ((Below.refl _ _).alloc (Nat.le_refl _) _).trans hbel.out⟩

theorem bcell {W w1 : World} (hb : Below W.heap.size W w1) : (∀ b o, b < W.heap.size → w1.cell? ⟨b, o, none⟩ = W.cell? ⟨b, o, none⟩) ∧ (∀ b o, b < W.heap.size → w1.frozen? ⟨b, o, none⟩ = W.frozen? ⟨b, o, none⟩) :=
  ⟨fun b o h => hb.cell (p := ⟨b, o, none⟩) h, fun b o h => hb.frozen (p := ⟨b, o, none⟩) h⟩
set_option maxHeartbeats 1000000 in
theorem unplaced_any (k : Int) (x : List UInt8) (n l c : Int) (w : World) : Calls Tryd.prog 25 #[.agg #[.int .i64 k, .string ⟨x.toArray⟩, .int .i64 n, .int .i64 l, .int .i64 c]] w fun e w' => e = .returned (.agg #[.int .i64 k, .string ⟨x.toArray⟩, .int .i64 n, .int .i64 0, .int .i64 0]) ∧ Below w.heap.size w w' := by
  go_enter Tryd.func25, Tryd.ntmps25
  go_wp2
  refine bodyPost_ret (v := .agg #[.int .i64 k, .string ⟨x.toArray⟩, .int .i64 n, .int .i64 0, .int .i64 0]) (by simp [results, Tryd.results25, go_sem]) rfl ⟨rfl, ?_⟩
  exact ((Below.refl _ _).alloc (Nat.le_refl _) _).alloc (by simp) _
theorem unplaced_from {w0 : World} (k : Int) (x : List UInt8) (n l c : Int) (w : World) (h : Below w0.heap.size w0 w) : Calls Tryd.prog 25 #[.agg #[.int .i64 k, .string ⟨x.toArray⟩, .int .i64 n, .int .i64 l, .int .i64 c]] w fun e w' => e = .returned (.agg #[.int .i64 k, .string ⟨x.toArray⟩, .int .i64 n, .int .i64 0, .int .i64 0]) ∧ Below w.heap.size w w' ∧ Below w0.heap.size w0 w' :=
  (unplaced_any k x n l c w).mono fun e w' h' => ⟨h'.1, h'.2, below_then h h'.2 h.size⟩
theorem two_box (w : World) (o p : Obj) : Below w.heap.size w ((w.alloc o).alloc p) := ((Below.refl _ _).alloc (Nat.le_refl _) _).alloc (by simp) _
set_option maxHeartbeats 1000000 in
theorem like1_any (k : Int) (x : List UInt8) (n l c l' c' : Int) (w : World) : Calls Tryd.prog 24 #[.agg #[.int .i64 k, .string ⟨x.toArray⟩, .int .i64 n, .int .i64 l, .int .i64 c], .agg #[.int .i64 k, .string ⟨x.toArray⟩, .int .i64 n, .int .i64 l', .int .i64 c']] w fun e w' => e = .returned (.bool true) ∧ Below w.heap.size w w' := by
  go_enter Tryd.func24, Tryd.ntmps24
  go_wp2
  go_region_with (first | (go_at_call 25; refine (unplaced_from (w0 := w) _ _ _ _ _ _ (by first | exact HX.out | exact below_drew HX.out | exact two_box _ _ _ | exact below_drew (two_box _ _ _))).mono ?_; rintro e w1 ⟨rfl, hb1, hx1⟩; obtain ⟨hc, hf⟩ := bcell hb1; have HX := Lib.hid hx1; clear hb1 hx1))
  all_goals
    go_wp2
    go_ret
    exact ⟨rfl, by first | exact HX.out | exact below_drew HX.out⟩
end Go.Proofs.YtgcphhialllieaaDoor.Lx
