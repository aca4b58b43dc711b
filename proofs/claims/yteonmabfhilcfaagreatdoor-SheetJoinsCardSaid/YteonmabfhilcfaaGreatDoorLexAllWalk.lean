/- Package lex's All, walked: its tokens, or its first fault, at any text. Conditions: the library's variables hold what start-up lays. -/
import Derived.Test.YteonmabfhilcfaaGreatDoorLexTwo
import Derived.Orders
namespace Go.Proofs.YteonmabfhilcfaaGreatDoor.Lx
open Go.ChangeShapes Go.WideShapes Go.ChangeAt Go.RowKit
set_option linter.unusedVariables false

/-- what All answers: a fault, or tokens in new memory -/
def AllPost (w : World) (R : Res) (e : Ending) (w' : World) : Prop :=
  (∃ er l c : Nat, R = .bad er l c ∧ e = .returned (.tuple #[.slice none 0 0, .agg #[.int .i64 er, .int .i64 l, .int .i64 c]]) ∧ Below w.heap.size w w') ∨
  (∃ toks A c, R = .ok toks ∧ e = .returned (.tuple #[.slice A toks.length c, .agg #[.int .i64 0, .int .i64 0, .int .i64 0]]) ∧ toks.length ≤ c ∧ toks.length ≤ 2 * 65536 ∧ Rd w' (fun b => w.heap.size ≤ b ∧ b < w'.heap.size) A (tc toks) ∧ Below w.heap.size w w')
def lexAll (s : ByteArray) : Res := if 65536 < s.size then .bad 3 1 1 else lex s.data.toList 1 1 false

set_option maxHeartbeats 1000000 in
theorem all_long (s : ByteArray) (hs : 65536 < s.size) (w : World) : Calls Tryz.prog 24 #[.string s] w (AllPost w (lexAll s)) := by
  have HR : Hid (lexAll s = .bad 3 1 1) := Lib.hid (by unfold lexAll; rw [if_pos hs])
  have h : (65536 : Int) < (s.size : Int) := by omega
  rw [HR.out]
  go_enter Tryz.func24, Tryz.ntmps24
  go_wp2
  refine bodyPost_ret (v := .tuple #[.slice none 0 0, .agg #[.int .i64 3, .int .i64 1, .int .i64 1]]) (by simp [results, Tryz.results24, go_sem]) rfl ?_
  exact .inl ⟨3, 1, 1, rfl, rfl, (Below.refl _ _).alloc (Nat.le_refl _) _⟩

theorem neq_func (w : World) (fn : Fn) (a b : Array Value) : (binOp .neq 97 (.func fn a b) .nilFunc).run Tryz.prog w = .ok (.bool true) w := by kernel_rfl
theorem neq_nil (w : World) : (binOp .neq 97 .nilFunc .nilFunc).run Tryz.prog w = .ok (.bool false) w := by kernel_rfl
theorem fin_below {w W0 wr : World} {n0 : Nat} (hn : n0 = w.heap.size) (h0 : Below w.heap.size w W0) (hb : Below (n0 + 1) W0 wr) (u0 u1 u2 : Value) :
    Below w.heap.size w (((wr.setCell ⟨n0, 0, none⟩ u0).setCell ⟨n0, 1, none⟩ u1).setCell ⟨n0, 2, none⟩ u2).drew :=
  below_drew (((((h0.trans (hb.mono (by omega))).setCell (p := ⟨n0, 0, none⟩) (by show _ ≤ n0; omega) u0).setCell (p := ⟨n0, 1, none⟩) (by show _ ≤ n0; omega) u1)).setCell (p := ⟨n0, 2, none⟩) (by show _ ≤ n0; omega) u2)
theorem fin_rd {w wr : World} {n0 : Nat} {A : Option Addr} {xs : List Value} (hn : n0 = w.heap.size) (h : Rd wr (fun b => n0 + 1 ≤ b ∧ b < wr.heap.size) A xs) (u0 u1 u2 : Value) :
    Rd (((wr.setCell ⟨n0, 0, none⟩ u0).setCell ⟨n0, 1, none⟩ u1).setCell ⟨n0, 2, none⟩ u2).drew (fun b => w.heap.size ≤ b ∧ b < (((wr.setCell ⟨n0, 0, none⟩ u0).setCell ⟨n0, 1, none⟩ u1).setCell ⟨n0, 2, none⟩ u2).drew.heap.size) A xs := by
  have hk : Below (n0 + 1) wr wr := Below.refl _ _
  refine (h.keep (w' := (((wr.setCell ⟨n0, 0, none⟩ u0).setCell ⟨n0, 1, none⟩ u1).setCell ⟨n0, 2, none⟩ u2).drew) fun b hb => ?_).more fun b hb => ⟨by omega, ?_⟩
  · have e : b ≠ n0 := by omega
    exact ((Below.heap_setCell _ ⟨n0, 2, none⟩ u2 b e).trans (Below.heap_setCell _ ⟨n0, 1, none⟩ u1 b e)).trans (Below.heap_setCell _ ⟨n0, 0, none⟩ u0 b e)
  · have : (((wr.setCell ⟨n0, 0, none⟩ u0).setCell ⟨n0, 1, none⟩ u1).setCell ⟨n0, 2, none⟩ u2).drew.heap.size = wr.heap.size := by simp [World.setCell, World.drew]
    rw [this]; exact hb.2
theorem due_f {f pos line first : Nat} {s : ByteArray} {toks : List Tok} {R : Res} (h : Due f s pos line first toks R) : f = 56 ∨ f = 81 ∨ f = 82 ∨ f = 83 ∨ f = 84 ∨ f = 85 ∨ f = 86 ∨ f = 108 := by
  rcases h with ⟨h, _⟩ | ⟨h, _⟩ | ⟨h, _⟩ | ⟨h, _⟩ | ⟨h, _⟩ | ⟨h, _⟩ | ⟨h, _⟩ | ⟨h, _⟩ <;> simp [h]
set_option maxRecDepth 100000 in
set_option maxHeartbeats 1000000 in
theorem all_short (s : ByteArray) (hs : s.size ≤ 65536) (w : World) (hE : Tk.Env w) : Calls Tryz.prog 24 #[.string s] w (AllPost w (lexAll s)) := by
  have hR : lexAll s = lex s.data.toList 1 1 false := by unfold lexAll; rw [if_neg (by omega)]
  obtain ⟨R, hRR⟩ : ∃ R, R = lexAll s := ⟨_, rfl⟩
  rw [← hRR] at hR ⊢
  have HLR := Lib.hid hR
  clear hR hRR
  have h : ¬ (65536 : Int) < (s.size : Int) := by omega
  have HS := Lib.hid hs
  have HE := Lib.hid hE
  clear hE
  go_enter Tryz.func24, Tryz.ntmps24
  go_wp2
  generalize hW0 : w.alloc (Obj.cells #[.int .i64 0, .int .i64 0, .int .i64 0] 32) = W0
  obtain ⟨n0, hn0⟩ : ∃ n0, n0 = w.heap.size := ⟨_, rfl⟩
  have hz : W0.heap.size = n0 + 1 := by rw [← hW0, hn0]; simp
  have kF : Blk W0 n0 32 [.int .i64 0, .int .i64 0, .int .i64 0] := by rw [← hW0, hn0]; exact Blk.new w _ _
  have hb0 : Below w.heap.size w W0 := by rw [← hW0]; exact (Below.refl _ _).alloc (Nat.le_refl _) _
  rw [← hn0]
  have HKF := Lib.hid kF
  have HZ := Lib.hid hz
  have HN0 := Lib.hid hn0
  have HB0 := Lib.hid hb0
  have hE0 : Tk.Env W0 := HE.out.on hb0
  have HE0 := Lib.hid hE0
  have HI : Hid (AllRel W0 (n0 + 1) (n0 + 1) s R (4 * s.size + 2) (.func (.func 56) #[.pointer (some ⟨n0 + 1, 0, none⟩)] #[]) (W0.alloc (Obj.cells #[.string s, .int .i64 0, .int .i64 1, .int .i64 0, .slice none 0 0, .int .i64 0, .int .i64 0, .int .i64 0] 95))) := Lib.hid (by
    refine .inl ⟨56, 0, 1, 0, [], rfl, ⟨Nat.le_refl _, Nat.zero_le _, Nat.le_refl _, hs, by omega, by simp [someT_nil], _, ?_, World.ownsRow_nil _ _ _ _⟩, ?_, .inl ⟨rfl, ?_⟩, ?_⟩
    · have := Blk.new W0 95 (curL s 0 1 0 (.slice none 0 0) 0 0 0)
      rw [hz] at this
      exact this
    · exact (Below.refl _ _).alloc (by omega) _
    · rw [HLR.out, ← out_start]; rfl
    · rfl)
  clear hz kF hb0 hn0 hW0 hE0 hs
  have qF := neq_func
  have qN := neq_nil
  go_loopg [5] (4 * s.size + 2) (fun k v wr => AllRel W0 (n0 + 1) (n0 + 1) s R k v wr)
  case atStart => exact HI.out
  case round =>
    rcases hrel with ⟨f, pos, line, first, toks, rfl, hc, hb, hd, hk⟩ | ⟨rfl, hb, hd⟩
    · have HST := Lib.hid (next_state (fun w' h => HE0.out.on (by have := hb.trans h; rw [HZ.out]; exact this)) hc hb hd hk)
      have hf := due_f hd
      clear hc hb hd hk
      rcases hf with rfl | rfl | rfl | rfl | rfl | rfl | rfl | rfl
      all_goals
        go_wp2_with (first | (go_at_call 56; refine HST.out.mono ?_; rintro e w' ⟨v', k', rfl, hk', hr'⟩; have HK' := Lib.hid hk'; have HR' := Lib.hid hr'; clear hk' hr') | (go_at_call 81; refine HST.out.mono ?_; rintro e w' ⟨v', k', rfl, hk', hr'⟩; have HK' := Lib.hid hk'; have HR' := Lib.hid hr'; clear hk' hr') | (go_at_call 82; refine HST.out.mono ?_; rintro e w' ⟨v', k', rfl, hk', hr'⟩; have HK' := Lib.hid hk'; have HR' := Lib.hid hr'; clear hk' hr') | (go_at_call 83; refine HST.out.mono ?_; rintro e w' ⟨v', k', rfl, hk', hr'⟩; have HK' := Lib.hid hk'; have HR' := Lib.hid hr'; clear hk' hr') | (go_at_call 84; refine HST.out.mono ?_; rintro e w' ⟨v', k', rfl, hk', hr'⟩; have HK' := Lib.hid hk'; have HR' := Lib.hid hr'; clear hk' hr') | (go_at_call 85; refine HST.out.mono ?_; rintro e w' ⟨v', k', rfl, hk', hr'⟩; have HK' := Lib.hid hk'; have HR' := Lib.hid hr'; clear hk' hr') | (go_at_call 86; refine HST.out.mono ?_; rintro e w' ⟨v', k', rfl, hk', hr'⟩; have HK' := Lib.hid hk'; have HR' := Lib.hid hr'; clear hk' hr') | (go_at_call 108; refine HST.out.mono ?_; rintro e w' ⟨v', k', rfl, hk', hr'⟩; have HK' := Lib.hid hk'; have HR' := Lib.hid hr'; clear hk' hr'))
        go_roundg k'
        case rel => exact HR'.out
        case measure => exact HK'.out
    · have kF := HKF.out.below hb (by omega)
      have HKF2 := Lib.hid kF
      have z0 : wr.cell? ⟨n0, 0, none⟩ = some (.int .i64 0) := kF.cell 0
      have z1 : wr.cell? ⟨n0, 1, none⟩ = some (.int .i64 0) := kF.cell 1
      have z2 : wr.cell? ⟨n0, 2, none⟩ = some (.int .i64 0) := kF.cell 2
      have zf := kF.frozen
      have HB := Lib.hid hb
      clear kF hb
      rcases hd with ⟨e, l, c, pos, line, first, rfl, hk⟩ | ⟨pos, line, first, toks, rfl, hc⟩
      · have y4 : wr.cell? ⟨n0 + 1, 4, none⟩ = some (.slice none 0 0) := hk.cell 4
        have y5 : wr.cell? ⟨n0 + 1, 5, none⟩ = some (.int .i64 e) := hk.cell 5
        have y6 : wr.cell? ⟨n0 + 1, 6, none⟩ = some (.int .i64 l) := hk.cell 6
        have y7 : wr.cell? ⟨n0 + 1, 7, none⟩ = some (.int .i64 c) := hk.cell 7
        clear hk
        go_wp2
        go_region
        all_goals
          go_wp2
          refine bodyPost_ret (v := .tuple #[.slice none 0 0, .agg #[.int .i64 e, .int .i64 l, .int .i64 c]]) (by simp [results, Tryz.results24, go_sem, z0, z1, z2]) rfl ?_
          refine .inl ⟨e, l, c, rfl, rfl, ?_⟩
          exact fin_below HN0.out HB0.out HB.out _ _ _
      · have hc0 := HLR
        obtain ⟨v, k1, k2⟩ := hc.obj
        obtain ⟨A, c, rfl, hcap, hrd⟩ := own_form k2
        have y4 : wr.cell? ⟨n0 + 1, 4, none⟩ = some (.slice A toks.length c) := k1.cell 4
        have y5 : wr.cell? ⟨n0 + 1, 5, none⟩ = some (.int .i64 0) := k1.cell 5
        have y6 : wr.cell? ⟨n0 + 1, 6, none⟩ = some (.int .i64 0) := k1.cell 6
        have y7 : wr.cell? ⟨n0 + 1, 7, none⟩ = some (.int .i64 0) := k1.cell 7
        have hcn : toks.length ≤ 2 * 65536 := by have := hc.count; have := hc.posLe; have := hc.size; omega
        have HRD := Lib.hid hrd
        clear hc k1 k2 hrd
        go_wp2
        go_region
        all_goals
          go_wp2
          refine bodyPost_ret (v := .tuple #[.slice A toks.length c, .agg #[.int .i64 0, .int .i64 0, .int .i64 0]]) (by simp [results, Tryz.results24, go_sem, z0, z1, z2]) rfl ?_
          exact .inr ⟨toks, A, c, rfl, rfl, hcap, hcn, fin_rd HN0.out HRD.out _ _ _, fin_below HN0.out HB0.out HB.out _ _ _⟩
theorem all_any (s : ByteArray) (w : World) (hE : Tk.Env w) : Calls Tryz.prog 24 #[.string s] w (AllPost w (lexAll s)) := by
  by_cases h : 65536 < s.size
  · exact all_long s h w
  · exact all_short s (by omega) w hE
end Go.Proofs.YteonmabfhilcfaaGreatDoor.Lx
