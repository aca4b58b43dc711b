/- Clear, Or, And, Minus of package bitset. -/
import Derived.Test.YtffphlbbophjfaaDoorBitCount
import Derived.Test.YtffphlbbophjfaaDoorBitOwn
import Derived.Deep.RegionWith
import Derived.StillTailTactics
namespace Go.Proofs.YtffphlbbophjfaaDoor.Bs
open Go.ChangeShapes Go.WideShapes Go.ChangeAt Go.RowKit
set_option linter.unusedVariables false

theorem zero_rep (v : Value) (n : Nat) : (Builtin.zeroCells #[v] n).toList = List.replicate n v := by
  have h : Builtin.zeroCells #[v] n = madeCells #[v] n := by simp [Builtin.zeroCells, madeCells]
  rw [h, toList_madeCells_one]
theorem uc_rep (n : Nat) : uc (List.replicate n 0) = List.replicate n (.int .u64 0) := by simp [uc]
theorem run_clear (w : World) (g c ty : Nat) (ws : List Nat) (rest : List Value) (hb : Blk w g 61 (uc ws ++ rest)) :
    (Builtin.clear_ #[59] ty #[.slice (some ⟨g, 0, none⟩) ws.length c]).run Tryd.prog w = .ok (.tuple #[]) (w.setRow g (uc (List.replicate ws.length 0) ++ rest).toArray) := by
  cases hn : ws.length with
  | zero =>
    have : ws = [] := List.eq_nil_of_length_eq_zero hn
    subst this
    rw [show uc (List.replicate 0 0) = uc [] from rfl, setRow_self w g _ 61 (0, 0) hb]
    simp [Builtin.clear_, run_underlying Tryd.underlying59]
  | succ m =>
    have hst := run_storeCells_at Tryd.prog g 0 61 (List.replicate (m + 1) (.int .u64 0)) 0 (uc ws ++ rest).toArray w hb (by simp [uc_length, hn]) (by intro v hv; rw [(List.mem_replicate.1 hv).2]; rfl)
    have hz : (zeroValue 61).run Tryd.prog w = .ok (.int .u64 0) w := by kernel_rfl
    have e : (List.replicate (m + 1) (Value.int .u64 0) ++ List.drop (m + 1) (uc ws ++ rest)) = uc (List.replicate (m + 1) 0) ++ rest := by
      rw [uc_rep, List.drop_append_of_le_length (by simp [uc_length, hn]), List.drop_of_length_le (by simp [uc_length, hn]), List.nil_append]
    simp only [Nat.add_zero, List.take_zero, List.nil_append, Nat.zero_add, List.length_replicate, e] at hst
    simp [Builtin.clear_, run_underlying Tryd.underlying59, hz, zero_rep, Value.cells, hst]
def ClearPost (w : World) (B g n : Nat) (f : Fs) (r : Ending) (w' : World) : Prop := r = .returned (.tuple #[]) ∧ SetAt w' B g n f ∧ Wr 61 g w w'
theorem clear_nil (w : World) : Calls Tryd.prog 27 #[.pointer none] w fun e w' => e = .returned (.tuple #[]) ∧ w = w' := by
  go_enter Tryd.func27, Tryd.ntmps27
  go_wp2_with (go_at_call 44; refine (made_nil _).mono ?_; rintro e w1 ⟨rfl, rfl⟩)
  go_end0
  exact ⟨rfl, rfl⟩
theorem clear_core (w w2 : World) (B : Nat) (v : Value) (h0 : w.cell? ⟨B, 0, none⟩ = some (.pointer (some ⟨B, 0, none⟩))) (h2 : w.cell? ⟨B, 2, none⟩ = some v) (hr : ∀ ty, (Builtin.clear_ #[59] ty #[v]).run Tryd.prog w = .ok (.tuple #[]) w2) :
    Calls Tryd.prog 27 #[.pointer (some ⟨B, 0, none⟩)] w fun e w' => e = .returned (.tuple #[]) ∧ w2 = w' := by
  go_enter Tryd.func27, Tryd.ntmps27
  go_wp2_with (go_at_call 44; refine (made_set _ B h0).mono ?_; rintro e w1 ⟨rfl, rfl⟩)
  go_end0
  exact ⟨rfl, rfl⟩
theorem Wr.row {t : TypeId} {g : Nat} {l : List Value} {w : World} (k : Blk w g t l) (cs : Array Value) : Wr t g w (w.setRow g cs) :=
  ⟨rfl, rfl, rfl, by simp, fun b hb ne => by
    have hne : b ≠ g := fun e => ne e l (e ▸ k)
    exact setRow_other w g b cs hne⟩
theorem clear_any {w : World} {B g n : Nat} {f : Fs} (h : SetAt w B g n f) : Calls Tryd.prog 27 #[.pointer (some ⟨B, 0, none⟩)] w (ClearPost w B g n fEmpty) := by
  obtain ⟨A, c, ws, rest, h1, h2, h3, h4⟩ := h.obj
  by_cases h0 : 0 < n
  · obtain ⟨rfl, h5⟩ := h4 h0
    refine (clear_core w _ B _ h.self.1 (by simpa using h3.cell 2) (fun ty => run_clear w g c ty ws rest h5)).mono ?_
    rintro e w' ⟨rfl, rfl⟩
    have hw := Wr.row h5 (uc (List.replicate ws.length 0) ++ rest).toArray
    refine ⟨rfl, ⟨h.width, by simpa using h.lt, _, c, List.replicate ws.length 0, rest, by rw [h1.len]; exact Is.empty n, by simpa using h2, ?_, fun _ => ⟨rfl, setRow_heap w g _ _ 61 _ h5⟩⟩, hw⟩
    have := hw.blk h3 (.inr (by decide))
    simpa using this
  · have hn : n = 0 := by omega
    subst hn
    have hl : ws.length = 0 := by rw [h1.len]
    refine (clear_core w w B _ h.self.1 (by simpa using h3.cell 2) (fun ty => by rw [hl]; cases A <;> simp [Builtin.clear_, run_underlying Tryd.underlying59])).mono ?_
    rintro e w' ⟨rfl, rfl⟩
    have hf : f = fEmpty := by funext i; exact h1.wd i (by omega)
    rw [← hf]
    exact ⟨rfl, h, Wr.refl _ _ _⟩

/- join -/
theorem ent_of {P : Program} {f : FuncId} {fn : Func} {c : Code} (hf : P.funcs[f]? = some fn) (hname : (fn.name == "runtime.NumGoroutine") = false) (hb : fn.body = some c) (args : Array Value) (w : World) : (callFunc f args).run P w = .ok (.enter f args) w := by
  have h1 : fn.name ≠ "runtime.NumGoroutine" := by simpa using hname
  simp [callFunc, hf, h1, hb, mark]
def JErr (w : World) (e : Int) (r : Ending) (w' : World) : Prop := r = .returned (.int .i64 e) ∧ Below w.heap.size w w'
theorem join_nil1 (q : Option Addr) (F : Value) (w : World) : Calls Tryd.prog 40 #[.pointer none, .pointer q, F] w (JErr w 1) := by
  go_enter Tryd.func40, Tryd.ntmps40
  go_wp2_with (go_at_call 44; refine (made_nil _).mono ?_; rintro e w1 ⟨rfl, rfl⟩)
  go_ret
  exact ⟨rfl, Below.refl _ _⟩
theorem join_nil2 (B : Nat) (F : Value) (w : World) (h0 : w.cell? ⟨B, 0, none⟩ = some (.pointer (some ⟨B, 0, none⟩))) : Calls Tryd.prog 40 #[.pointer (some ⟨B, 0, none⟩), .pointer none, F] w (JErr w 1) := by
  have C1 := Lib.hid (made_set w B h0)
  have C2 := Lib.hid (made_nil w)
  go_enter Tryd.func40, Tryd.ntmps40
  go_wp2_with (first
    | (go_at_call 44; (with_reducible refine C1.out.mono ?_); rintro e w1 ⟨rfl, rfl⟩)
    | (go_at_call 44; (with_reducible refine C2.out.mono ?_); rintro e w1 ⟨rfl, rfl⟩))
  go_ret
  exact ⟨rfl, Below.refl _ _⟩
theorem join_width (B C n m : Nat) (F : Value) (w : World) (h0 : w.cell? ⟨B, 0, none⟩ = some (.pointer (some ⟨B, 0, none⟩))) (h1 : w.cell? ⟨B, 1, none⟩ = some (.int .i64 n)) (k0 : w.cell? ⟨C, 0, none⟩ = some (.pointer (some ⟨C, 0, none⟩))) (k1 : w.cell? ⟨C, 1, none⟩ = some (.int .i64 m)) (ne : ((n : Int) != (m : Int)) = true) :
    Calls Tryd.prog 40 #[.pointer (some ⟨B, 0, none⟩), .pointer (some ⟨C, 0, none⟩), F] w (JErr w 2) := by
  have C1 := Lib.hid (made_set w B h0)
  have C2 := Lib.hid (made_set w C k0)
  go_enter Tryd.func40, Tryd.ntmps40
  go_wp2_with (first
    | (go_at_call 44; (with_reducible refine C1.out.mono ?_); rintro e w1 ⟨rfl, rfl⟩)
    | (go_at_call 44; (with_reducible refine C2.out.mono ?_); rintro e w1 ⟨rfl, rfl⟩))
  go_quiet (fail)
  go_wp2
  go_ret
  exact ⟨rfl, below_drewN (Below.refl _ _) _⟩

/-- the words so far: the first k are joined -/
def Jn (op : Nat → Nat → Nat) (ws vs cur : List Nat) (k : Nat) : Prop := cur.length = ws.length ∧ (∀ j, j < k → cur.getD j 0 = op (ws.getD j 0) (vs.getD j 0)) ∧ ∀ j, k ≤ j → cur.getD j 0 = ws.getD j 0
theorem Jn.next {op : Nat → Nat → Nat} {ws vs cur : List Nat} {k : Nat} (h : Jn op ws vs cur k) (hk : k < ws.length) : Jn op ws vs (cur.set k (op (ws.getD k 0) (vs.getD k 0))) (k + 1) := by
  obtain ⟨h1, h2, h3⟩ := h
  refine ⟨by simpa using h1, fun j hj => ?_, fun j hj => ?_⟩
  · rw [getD_set _ _ _ _ (by omega)]
    split
    · subst_vars; rfl
    · exact h2 j (by omega)
  · rw [getD_set _ _ _ _ (by omega), if_neg (by omega)]
    exact h3 j (by omega)
theorem Jn.all {op : Nat → Nat → Nat} {ws vs cur : List Nat} (h : Jn op ws vs cur ws.length) (hl : ws.length = vs.length) (h0 : op 0 0 = 0) : cur = List.zipWith op ws vs := by
  apply List.ext_getElem
  · simp [h.1, hl]
  · intro i g1 g2
    have := h.2.1 i (by rw [← h.1]; exact g1)
    have g3 : i < ws.length := by rw [← h.1]; exact g1
    have g4 : i < vs.length := by omega
    simpa [List.getD_eq_getElem?_getD, g1, g3, g4] using this
def JnRel (w : World) (op : Nat → Nat → Nat) (ws vs : List Nat) (rest : List Value) (g g' len : Nat) (v : Value) (wr : World) : Prop :=
  ∃ (k : Nat) (cur : List Nat), v = .int .i64 k ∧ k ≤ len ∧ Hid (Jn op ws vs cur k) ∧ Blk wr g 61 (uc cur ++ rest) ∧ (∀ j, k ≤ j → j < len → wr.cell? ⟨g', j, none⟩ = some (.int .u64 (vs.getD j 0))) ∧ Wr 61 g w wr
def JoinPost (w : World) (B g n : Nat) (f : Fs) (r : Ending) (w' : World) : Prop := r = .returned (.int .i64 0) ∧ SetAt w' B g n f ∧ Wr 61 g w w'
theorem zero_add (g k : Nat) : (⟨g, 0, none⟩ : Addr).add k = ⟨g, k, none⟩ := by
  unfold Addr.add; split
  · subst_vars; rfl
  · simp
set_option maxHeartbeats 4000000 in
theorem join_core (F : FuncId) (he : ∀ args w, (callFunc F args).run Tryd.prog w = .ok (.enter F args) w) (op : Nat → Nat → Nat)
    (hf : ∀ (a b : Nat) (w : World), a < 18446744073709551616 → b < 18446744073709551616 → Calls Tryd.prog F #[.int .u64 a, .int .u64 b] w fun e w' => e = .returned (.int .u64 (op a b)) ∧ w = w')
    (w : World) (B C g g' n len c c' : Nat) (ws vs : List Nat) (rest : List Value) (f : Fs) (hn : n ≤ 1048576) (hl : len = ws.length) (hl2 : len ≤ 16384) (hvl : len = vs.length)
    (hlt1 : ∀ k, ws.getD k 0 < 18446744073709551616) (hlt2 : ∀ k, vs.getD k 0 < 18446744073709551616)
    (ho : Blk w B 67 [.pointer (some ⟨B, 0, none⟩), .int .i64 n, .slice (some ⟨g, 0, none⟩) len c]) (hb : Blk w g 61 (uc ws ++ rest))
    (ho' : Blk w C 67 [.pointer (some ⟨C, 0, none⟩), .int .i64 n, .slice (some ⟨g', 0, none⟩) len c']) (hc' : ∀ j, j < len → w.cell? ⟨g', j, none⟩ = some (.int .u64 (vs.getD j 0))) :
    Calls Tryd.prog 40 #[.pointer (some ⟨B, 0, none⟩), .pointer (some ⟨C, 0, none⟩), .func (.func F) #[] #[]] w
      (fun r w' => r = .returned (.int .i64 0) ∧ ∃ cur, Jn op ws vs cur len ∧ Blk w' g 61 (uc cur ++ rest) ∧ Wr 61 g w w') := by
  have h0 : w.cell? ⟨B, 0, none⟩ = some (.pointer (some ⟨B, 0, none⟩)) := by simpa using ho.cell 0
  have h1 : w.cell? ⟨B, 1, none⟩ = some (.int .i64 n) := by simpa using ho.cell 1
  have k0 : w.cell? ⟨C, 0, none⟩ = some (.pointer (some ⟨C, 0, none⟩)) := by simpa using ho'.cell 0
  have k1 : w.cell? ⟨C, 1, none⟩ = some (.int .i64 n) := by simpa using ho'.cell 1
  have k2 : w.cell? ⟨C, 2, none⟩ = some (.slice (some ⟨g', 0, none⟩) len c') := by simpa using ho'.cell 2
  have C1 := Lib.hid (made_set w B h0)
  have C2 := Lib.hid (made_set w C k0)
  have HO := Lib.hid ho
  have HO' := Lib.hid ho'
  have HB := Lib.hid hb
  have HL := Lib.hid hl
  have HF := Lib.hid hf
  have HL1 := Lib.hid hlt1
  have HL2 := Lib.hid hlt2
  have HS : Hid (∀ q, JnRel w op ws vs rest g g' len (.int .i64 0) (w.drewN q)) := Lib.hid fun q => ⟨0, ws, rfl, by omega, Lib.hid ⟨rfl, fun j hj => by omega, fun j _ => rfl⟩, hb, fun j _ hj => hc' j hj, .ofBelow (below_drewN (Below.refl _ _) q)⟩
  have HVL := Lib.hid hvl
  clear ho ho' hl hf hlt1 hlt2 hb hc' hvl
  go_enter Tryd.func40, Tryd.ntmps40
  go_wp2_with (first
    | (go_at_call 44; (with_reducible refine C1.out.mono ?_); rintro e w1 ⟨rfl, rfl⟩)
    | (go_at_call 44; (with_reducible refine C2.out.mono ?_); rintro e w1 ⟨rfl, rfl⟩))
  go_quiet (fail)
  go_wp2
  go_loopw [31] (fun v wr => JnRel w op ws vs rest g g' len v wr) (fun v _ => len - (intOf v).toNat)
  case atStart => exact HS.out _
  case round =>
    obtain ⟨k, cur, rfl, hk, hj, hbk, hcv, hwr⟩ := hrel
    clear HS
    have m2 : wr.cell? ⟨B, 2, none⟩ = some (.slice (some ⟨g, 0, none⟩) len c) := by simpa using (hwr.blk HO.out (.inr (by decide))).cell 2
    by_cases hlt : k < len
    · have hkw : k < ws.length := by rw [← HL.out]; exact hlt
      have hkc : k < cur.length := by rw [hj.out.1]; exact hkw
      obtain ⟨x, hx⟩ : ∃ x, x = ws.getD k 0 := ⟨_, rfl⟩
      obtain ⟨y, hy⟩ : ∃ y, y = vs.getD k 0 := ⟨_, rfl⟩
      have c1 : wr.cell? ⟨g, k, none⟩ = some (.int .u64 x) := by rw [hbk.cell, uc_at _ _ _ hkc, hj.out.2.2 k (Nat.le_refl _), hx]
      have c2 : wr.cell? ⟨g', k, none⟩ = some (.int .u64 y) := by rw [hcv k (Nat.le_refl _) hlt, hy]
      have fz : wr.frozen? ⟨g, k, none⟩ = false := hbk.frozen _
      obtain ⟨z, hz⟩ : ∃ z, z = op x y := ⟨_, rfl⟩
      have HC : Hid (∀ w, Calls Tryd.prog F #[.int .u64 x, .int .u64 y] w fun e w' => e = .returned (.int .u64 z) ∧ w = w') := Lib.hid fun w => by
        rw [hz]; exact HF.out x y w (by rw [hx]; exact HL1.out k) (by rw [hy]; exact HL2.out k)
      have HN : Hid (∀ q, JnRel w op ws vs rest g g' len (.int .i64 ((k : Int) + 1)) ((wr.drewN q).setCell ⟨g, k, none⟩ (.int .u64 z))) := Lib.hid fun q => by
        refine ⟨k + 1, cur.set k z, by simp, by omega, Lib.hid (by rw [hz, hx, hy]; exact hj.out.next hkw), ?_, ?_, ?_⟩
        · rw [← uc_set _ _ _ _ hkc]
          exact Blk.set_ (w := wr.drewN q) hbk k _
        · intro j h1 h2
          rw [World.cell?_setCell_other]
          · exact hcv j (by omega) h2
          · intro e
            injection e with e1 e2
            omega
        · exact (hwr.then_ (below_drewN (Below.refl _ _) q)).set_ HB.out k _
      clear hj hbk hcv hwr hx hy hz hkc hkw
      go_wp2
      have f4 : (k : Int) < len := by omega
      go_still_tail 16, (by kernel_rfl)
      still_call ((HC.out _).mono fun _ _ h => ⟨h.1, h.2.symm⟩)
      repeat still_step
      refine wpStill_nil ?_
      change wpList _ _ _ _ _ (wr.drewN 1)
      go_wp2
      go_roundw
      case rel => exact HN.out 1
      case measure => simp [intOf]; omega
    · have hkl : len = k := by omega
      have HJ := Lib.hid hj
      have HBK := Lib.hid hbk
      have HW := Lib.hid hwr
      clear hj hbk hcv hwr
      go_wp2
      go_ret
      exact ⟨rfl, cur, by rw [hkl]; exact HJ.out.out, HBK.out, HW.out⟩
theorem join_zero (F : Value) (w : World) (B C c' : Nat) (A' : Option Addr) (h0 : w.cell? ⟨B, 0, none⟩ = some (.pointer (some ⟨B, 0, none⟩))) (h1 : w.cell? ⟨B, 1, none⟩ = some (.int .i64 0)) (k0 : w.cell? ⟨C, 0, none⟩ = some (.pointer (some ⟨C, 0, none⟩))) (k1 : w.cell? ⟨C, 1, none⟩ = some (.int .i64 0)) (k2 : w.cell? ⟨C, 2, none⟩ = some (.slice A' 0 c')) :
    Calls Tryd.prog 40 #[.pointer (some ⟨B, 0, none⟩), .pointer (some ⟨C, 0, none⟩), F] w (JErr w 0) := by
  have C1 := Lib.hid (made_set w B h0)
  have C2 := Lib.hid (made_set w C k0)
  go_enter Tryd.func40, Tryd.ntmps40
  go_wp2_with (first
    | (go_at_call 44; (with_reducible refine C1.out.mono ?_); rintro e w1 ⟨rfl, rfl⟩)
    | (go_at_call 44; (with_reducible refine C2.out.mono ?_); rintro e w1 ⟨rfl, rfl⟩))
  go_quiet (fail)
  go_wp2
  refine wp_loop_rounds 1 ?_
  rw [rounds_succ]
  go_wp2
  go_ret
  exact ⟨rfl, below_drewN (Below.refl _ _) _⟩
/-- what each join makes of two sets, whatever their widths -/
def JPost (w : World) (B g n : Nat) (e : Int) (f' : Fs) (r : Ending) (w' : World) : Prop := r = .returned (.int .i64 e) ∧ SetAt w' B g n f' ∧ Wr 61 g w w'
theorem join_any (F : FuncId) (he : ∀ args w, (callFunc F args).run Tryd.prog w = .ok (.enter F args) w) (op : Nat → Nat → Nat) (bo : Bool → Bool → Bool)
    (hf : ∀ (a b : Nat) (w : World), a < 18446744073709551616 → b < 18446744073709551616 → Calls Tryd.prog F #[.int .u64 a, .int .u64 b] w fun e w' => e = .returned (.int .u64 (op a b)) ∧ w = w')
    (o0 : op 0 0 = 0) (b0 : bo false false = false) (hop : ∀ a b j, a < 18446744073709551616 → b < 18446744073709551616 → j < 64 → (op a b).testBit j = bo (a.testBit j) (b.testBit j)) (hlt : ∀ a b, a < 18446744073709551616 → b < 18446744073709551616 → op a b < 18446744073709551616)
    {w : World} {B g n C g' m : Nat} {f f2 : Fs} (h : SetAt w B g n f) (k : SetAt w C g' m f2) :
    Calls Tryd.prog 40 #[.pointer (some ⟨B, 0, none⟩), .pointer (some ⟨C, 0, none⟩), .func (.func F) #[] #[]] w (JPost w B g n (if n = m then 0 else 2) (if n = m then (fun j => bo (f j) (f2 j)) else f)) := by
  by_cases hnm : n = m
  · subst hnm
    by_cases h0 : 0 < n
    · obtain ⟨c, ws, rest, h1, h2, h3, h4⟩ := h.cells h0
      obtain ⟨c', vs, rest', k1, k2, k3, k4⟩ := k.cells h0
      have hl : vs.length = ws.length := by rw [h1.len, k1.len]
      rw [hl] at k3
      refine (join_core F he op hf w B C g g' n ws.length c c' ws vs rest f h.width rfl (h1.lenle h.width) hl.symm h1.lt k1.lt h3 h4 k3 (fun j hj => by rw [k4.cell, uc_at _ _ _ (by omega)])).mono ?_
      rintro e w' ⟨rfl, cur, h5, h6, h7⟩
      rw [h5.all hl.symm o0] at h6
      refine ⟨by rw [if_pos rfl], ?_, h7⟩
      rw [if_pos rfl]
      exact ⟨h.width, h6.lt, _, c, List.zipWith op ws vs, rest, h1.join k1 op bo o0 b0 hop hlt, by simp [hl]; exact h2, by have := h7.blk h3 (.inr (by decide)); simpa [hl] using this, fun _ => ⟨rfl, h6⟩⟩
    · have hn : n = 0 := by omega
      subst hn
      obtain ⟨A', c', vs, rest', k1, k2, k3, k4⟩ := k.obj
      have hv : vs.length = 0 := by rw [k1.len]
      refine (join_zero _ w B C c' A' h.self.1 h.self.2 k.self.1 k.self.2 (by have := k3.cell 2; rw [hv] at this; simpa using this)).mono ?_
      rintro e w' ⟨rfl, hb⟩
      have e1 : (fun j => bo (f j) (f2 j)) = f := by
        funext j; rw [h.wd j (by omega), k.wd j (by omega), b0]
      rw [e1]
      exact ⟨rfl, h.after hb, .ofBelow hb⟩
  · refine (join_width B C n m _ w h.self.1 h.self.2 k.self.1 k.self.2 (by simp; omega)).mono ?_
    rintro e w' ⟨rfl, hb⟩
    refine ⟨by rw [if_neg hnm], ?_, .ofBelow hb⟩
    rw [if_neg hnm]
    exact h.after hb
theorem orF (a b : Nat) (w : World) (ha : a < 18446744073709551616) (hb : b < 18446744073709551616) : Calls Tryd.prog 41 #[.int .u64 a, .int .u64 b] w fun e w' => e = .returned (.int .u64 ((a ||| b : Nat) : Int)) ∧ w = w' := by
  have h := bits_or_u64_nat a b ha hb
  go_enter Tryd.func41, Tryd.ntmps41
  go_wp2
  go_ret
  exact ⟨rfl, rfl⟩
theorem andF (a b : Nat) (w : World) (ha : a < 18446744073709551616) (hb : b < 18446744073709551616) : Calls Tryd.prog 47 #[.int .u64 a, .int .u64 b] w fun e w' => e = .returned (.int .u64 ((a &&& b : Nat) : Int)) ∧ w = w' := by
  have h := bits_and_u64_nat a b ha hb
  go_enter Tryd.func47, Tryd.ntmps47
  go_wp2
  go_ret
  exact ⟨rfl, rfl⟩
theorem minusF (a b : Nat) (w : World) (ha : a < 18446744073709551616) (hb : b < 18446744073709551616) : Calls Tryd.prog 48 #[.int .u64 a, .int .u64 b] w fun e w' => e = .returned (.int .u64 ((a &&& (18446744073709551615 - b) : Nat) : Int)) ∧ w = w' := by
  have h := u64_andNot_nat a b ha hb
  go_enter Tryd.func48, Tryd.ntmps48
  go_wp2
  go_ret
  exact ⟨rfl, rfl⟩
theorem or_any {w : World} {B g n C g' m : Nat} {f f2 : Fs} (h : SetAt w B g n f) (k : SetAt w C g' m f2) (e : Int) (f' : Fs) (he : e = if n = m then 0 else 2) (hf : f' = if n = m then fOr f f2 else f) :
    Calls Tryd.prog 13 #[.pointer (some ⟨B, 0, none⟩), .pointer (some ⟨C, 0, none⟩)] w (JPost w B g n e f') := by
  have hj := (join_any 41 (ent_of Tryd.func41 (by kernel_rfl) rfl) (fun a b => a ||| b) (fun a b => a || b) orF (by decide) rfl (fun a b j _ _ _ => or_bit a b j) (fun a b ha hb => or_lt a b ha hb) h k)
  have HC : Hid (Calls _ _ _ w (JPost w B g n e f')) := Lib.hid (by rw [he, hf]; exact hj)
  clear h k he hf hj
  go_enter Tryd.func13, Tryd.ntmps13
  go_wp2_with (go_at_call 40; refine HC.out.mono ?_; rintro e w1 ⟨rfl, hq1, hq2⟩)
  go_ret
  exact ⟨rfl, hq1, hq2⟩
theorem or_nil1 (q : Option Addr) (w : World) : Calls Tryd.prog 13 #[.pointer none, .pointer q] w (JErr w 1) := by
  go_enter Tryd.func13, Tryd.ntmps13
  go_wp2_with (go_at_call 40; refine (join_nil1 _ _ _).mono ?_; rintro e w1 ⟨rfl, hq1⟩)
  go_ret
  exact ⟨rfl, hq1⟩
theorem or_nil2 {w : World} {B g n : Nat} {f : Fs} (h : SetAt w B g n f) : Calls Tryd.prog 13 #[.pointer (some ⟨B, 0, none⟩), .pointer none] w (JErr w 1) := by
  have h0 := h.self.1
  clear h
  go_enter Tryd.func13, Tryd.ntmps13
  go_wp2_with (go_at_call 40; refine (join_nil2 _ _ _ h0).mono ?_; rintro e w1 ⟨rfl, hq1⟩)
  go_ret
  exact ⟨rfl, hq1⟩
theorem and_any {w : World} {B g n C g' m : Nat} {f f2 : Fs} (h : SetAt w B g n f) (k : SetAt w C g' m f2) (e : Int) (f' : Fs) (he : e = if n = m then 0 else 2) (hf : f' = if n = m then fAnd f f2 else f) :
    Calls Tryd.prog 23 #[.pointer (some ⟨B, 0, none⟩), .pointer (some ⟨C, 0, none⟩)] w (JPost w B g n e f') := by
  have hj := (join_any 47 (ent_of Tryd.func47 (by kernel_rfl) rfl) (fun a b => a &&& b) (fun a b => a && b) andF (by decide) rfl (fun a b j _ _ _ => and_bit a b j) (fun a b ha _ => and_lt a b ha) h k)
  have HC : Hid (Calls _ _ _ w (JPost w B g n e f')) := Lib.hid (by rw [he, hf]; exact hj)
  clear h k he hf hj
  go_enter Tryd.func23, Tryd.ntmps23
  go_wp2_with (go_at_call 40; refine HC.out.mono ?_; rintro e w1 ⟨rfl, hq1, hq2⟩)
  go_ret
  exact ⟨rfl, hq1, hq2⟩
theorem and_nil1 (q : Option Addr) (w : World) : Calls Tryd.prog 23 #[.pointer none, .pointer q] w (JErr w 1) := by
  go_enter Tryd.func23, Tryd.ntmps23
  go_wp2_with (go_at_call 40; refine (join_nil1 _ _ _).mono ?_; rintro e w1 ⟨rfl, hq1⟩)
  go_ret
  exact ⟨rfl, hq1⟩
theorem and_nil2 {w : World} {B g n : Nat} {f : Fs} (h : SetAt w B g n f) : Calls Tryd.prog 23 #[.pointer (some ⟨B, 0, none⟩), .pointer none] w (JErr w 1) := by
  have h0 := h.self.1
  clear h
  go_enter Tryd.func23, Tryd.ntmps23
  go_wp2_with (go_at_call 40; refine (join_nil2 _ _ _ h0).mono ?_; rintro e w1 ⟨rfl, hq1⟩)
  go_ret
  exact ⟨rfl, hq1⟩
theorem minus_any {w : World} {B g n C g' m : Nat} {f f2 : Fs} (h : SetAt w B g n f) (k : SetAt w C g' m f2) (e : Int) (f' : Fs) (he : e = if n = m then 0 else 2) (hf : f' = if n = m then fMinus f f2 else f) :
    Calls Tryd.prog 25 #[.pointer (some ⟨B, 0, none⟩), .pointer (some ⟨C, 0, none⟩)] w (JPost w B g n e f') := by
  have hj := (join_any 48 (ent_of Tryd.func48 (by kernel_rfl) rfl) (fun a b => a &&& (18446744073709551615 - b)) (fun a b => a && !b) minusF (by decide) rfl (fun a b j _ hb hj => minus_bit a b j hb hj) (fun a b ha _ => and_lt a _ ha) h k)
  have HC : Hid (Calls _ _ _ w (JPost w B g n e f')) := Lib.hid (by rw [he, hf]; exact hj)
  clear h k he hf hj
  go_enter Tryd.func25, Tryd.ntmps25
  go_wp2_with (go_at_call 40; refine HC.out.mono ?_; rintro e w1 ⟨rfl, hq1, hq2⟩)
  go_ret
  exact ⟨rfl, hq1, hq2⟩
theorem minus_nil1 (q : Option Addr) (w : World) : Calls Tryd.prog 25 #[.pointer none, .pointer q] w (JErr w 1) := by
  go_enter Tryd.func25, Tryd.ntmps25
  go_wp2_with (go_at_call 40; refine (join_nil1 _ _ _).mono ?_; rintro e w1 ⟨rfl, hq1⟩)
  go_ret
  exact ⟨rfl, hq1⟩
theorem minus_nil2 {w : World} {B g n : Nat} {f : Fs} (h : SetAt w B g n f) : Calls Tryd.prog 25 #[.pointer (some ⟨B, 0, none⟩), .pointer none] w (JErr w 1) := by
  have h0 := h.self.1
  clear h
  go_enter Tryd.func25, Tryd.ntmps25
  go_wp2_with (go_at_call 40; refine (join_nil2 _ _ _ h0).mono ?_; rintro e w1 ⟨rfl, hq1⟩)
  go_ret
  exact ⟨rfl, hq1⟩
end Go.Proofs.YtffphlbbophjfaaDoor.Bs
