/- Rows of pointers that the call owns; Same and Count in the form that draws alone change the world. -/
import Derived.Test.YtffphlbbophjfaaDoorBitHas
import Derived.Test.YtffphlbbophjfaaDoorBitPick
import Derived.Test.YtffphlbbophjfaaDoorBitRulesMath
namespace Go.Proofs.YtffphlbbophjfaaDoor.Bs
open Go.ChangeShapes Go.WideShapes Go.ChangeAt Go.RowKit
set_option linter.unusedVariables false

theorem info_ptr : (Tryd.prog.info? 22).map (fun i => (i.zero, i.size, i.bytes)) = some (some (.pointer none), 1, 8) := by kernel_rfl
/-- append of one value onto a row of the call's own, with where the new row lies -/
theorem wpList_append_val {w : World} {ops : Array Oper} {rest : List Oper} {o : Oper} {a : Act} {Q : Exit → Act → World → Prop} (hgd : o.guard = none) (s x : Operand) (t e : TypeId) (z : Value)
    (ho : o.op = .call { callee := .builtin .append, args := #[s, x], argTypes := #[t, t] })
    (ht : Tryd.prog.underlying t = some (.slice e)) (hinfo : (Tryd.prog.info? e).map (fun i => (i.zero, i.size, i.bytes)) = some (some z, 1, 8)) (hz1 : z.cells.size = 1)
    (base : Nat) (v : Value) (n : Nat) (xs : List Value) (u : Value) (hu : u.oneCell' = true) (hs : a.eval s = v) (hx : a.eval x = .slice (some ⟨w.heap.size, 0, none⟩) 1 1) (hown : Hid (w.ownsRow base e 1 v n xs))
    (hN : n ≤ 2000000) (hbase : base ≤ w.heap.size)
    (h : ∀ v' w', Hid (w'.ownsRow base e 1 v' (n + 1) (xs ++ [u])) → Hid ((w.alloc (.cells #[u] e)).grownBy w' v.ownBlock) → wpList Tryd.prog ops Q rest (a.put o.dst v') w') :
    wpList Tryd.prog ops Q (o :: rest) a (w.alloc (.cells #[u] e)) := by
  refine wpList_plain hgd fun K hK => ?_
  obtain ⟨i, hi, hz, hsize, hby⟩ := info_parts hinfo
  have hr := lit_rd w #[u] e [u] rfl
  obtain ⟨v', w', hrun, h2, h3, h4⟩ := run_append_rd (P := Tryd.prog) (w.alloc (.cells #[u] e)) base t o.type e i _ 1 8 ht hi hz hsize hby hz1 (by omega) v n xs (hown.out.alloc _) _ _ 1 1 [u] (by simp) hr (by simpa using hu) (by simp only [maxLen]; omega)
    (by omega) (by simp; omega)
  unfold Oper.wp
  simp only [execOp, ho, resolve, invoke, builtin, Sem.run_bind, Sem.run_pure, Result.andThen_ok, List.map_toArray, List.map_cons, List.map_nil, hs, hx, hrun]
  exact hK _ _ (h v' w' h2 h3)

/-- the cells of block b that stay: of pointers, of rows -/
def Fix (w : World) (b : Nat) (t : TypeId) (l : List Value) : Prop := Blk w b t l ∧ t ≠ 61
theorem Fix.after {w w' : World} {b : Nat} {t : TypeId} {l : List Value} (h : Fix w b t l) (hb : Below w.heap.size w w') : Fix w' b t l := ⟨h.1.after hb, h.2⟩
theorem Fix.far {w w' : World} {b g : Nat} {t : TypeId} {l : List Value} (h : Fix w b t l) (hw : Wr 61 g w w') : Fix w' b t l := ⟨hw.blk h.1 (.inr h.2), h.2⟩
theorem Fix.at_ {w : World} {b : Nat} {t : TypeId} {l : List Value} (h : Fix w b t l) (k : Nat) (u : Value) (hk : l[k]? = some u) : w.cell? ⟨b, k, none⟩ = some u := by rw [h.1.cell]; exact hk
/-- a row of pointers grew -/
theorem own_blk {w w' : World} {base n b e : Nat} {v : Value} {xs l : List Value} {t : TypeId} {o : Obj} (h : Blk w b t l) (ho : w.ownsRow base e 1 v n xs) (hg : (w.alloc o).grownBy w' v.ownBlock) (hne : t ≠ e) : Blk w' b t l := by
  have h1 := h.alloc o
  refine (hg.block b h1.lt ?_).trans h1
  intro hv
  rcases ho.2 with ⟨rfl, _⟩ | ⟨g, cap, cur, rfl, _, hb, _⟩
  · cases hv
  · have : b = g := by injection hv
    subst this
    unfold Blk at h
    rw [hb] at h
    injection h with h
    injection h with _ h2
    exact hne h2.symm
theorem SetAt.own {w w' : World} {B g n base k : Nat} {f : Fs} {v : Value} {xs : List Value} {o : Obj} (h : SetAt w B g n f) (ho : w.ownsRow base 22 1 v k xs) (hg : (w.alloc o).grownBy w' v.ownBlock) : SetAt w' B g n f := by
  obtain ⟨A, c, ws, rest, h1, h2, h3, h4⟩ := h.obj
  exact ⟨h.width, Nat.lt_of_lt_of_le h.lt (Nat.le_trans (by simp) hg.size), A, c, ws, rest, h1, h2, own_blk h3 ho hg (by decide), fun h0 => ⟨(h4 h0).1, own_blk (h4 h0).2 ho hg (by decide)⟩⟩
theorem Fix.own {w w' : World} {b base k : Nat} {t : TypeId} {l : List Value} {v : Value} {xs : List Value} {o : Obj} (h : Fix w b t l) (ht : t ≠ 22) (ho : w.ownsRow base 22 1 v k xs) (hg : (w.alloc o).grownBy w' v.ownBlock) : Fix w' b t l := ⟨own_blk h.1 ho hg ht, h.2⟩
theorem own_wr {w w' : World} {base e n g : Nat} {v : Value} {xs : List Value} (h : w.ownsRow base e 1 v n xs) (hw : Wr 61 g w w') (he : e ≠ 61) : w'.ownsRow base e 1 v n xs := by
  refine ⟨h.1, ?_⟩
  rcases h.2 with h1 | ⟨b, cap, cur, rfl, h1, hb, h2⟩
  · exact .inl h1
  · refine .inr ⟨b, cap, cur, rfl, h1, ?_, h2⟩
    have : Blk w b e cur.toList := by unfold Blk; simpa using hb
    have := hw.blk this (.inr he)
    unfold Blk at this; simpa using this
theorem own_fix {w : World} {base n : Nat} {v : Value} {xs : List Value} (h : w.ownsRow base 22 1 v n xs) (hn : 0 < n) : ∃ b c l, v = .slice (some ⟨b, 0, none⟩) n c ∧ Fix w b 22 l ∧ ∀ k, k < n → l[k]? = xs[k]? := by
  rcases h.2 with ⟨_, h0⟩ | ⟨b, cap, cur, rfl, h1, hb, h2, h3, h4, h5⟩
  · omega
  · refine ⟨b, cap, cur.toList, rfl, ⟨by unfold Blk; simpa using hb, by decide⟩, fun k hk => ?_⟩
    rw [← h5, List.getElem?_take_of_lt (by omega)]

/- quiet forms -/
theorem count_coreW (w : World) (B n len c : Nat) (A : Option Addr) (ws : List Nat) (f : Fs) (hi : Is ws n f) (hn : n ≤ 1048576) (hl : len = ws.length) (h0 : w.cell? ⟨B, 0, none⟩ = some (.pointer (some ⟨B, 0, none⟩))) (h2 : w.cell? ⟨B, 2, none⟩ = some (.slice A len c))
    (hw : ∀ k, k < len → ∃ ad, A = some ad ∧ w.cell? (ad.add k) = some (.int .u64 (ws.getD k 0))) :
    Calls Tryd.prog 31 #[.pointer (some ⟨B, 0, none⟩)] w (fun e w' => e = .returned (.int .i64 (cnt f n)) ∧ w = w') := by
  have HI := Lib.hid hi
  have HL := Lib.hid hl
  have HW := Lib.hid hw
  have hlen : len ≤ 16384 := by have := hi.lenle hn; omega
  clear hi hl hw
  go_enter Tryd.func31, Tryd.ntmps31
  go_wp2_with (go_at_call 44; refine (made_set _ B h0).mono ?_; rintro e w1 ⟨rfl, rfl⟩)
  go_loopw [3, 13] (fun v3 v13 wr => ∃ (k s : Nat), v3 = .int .i64 s ∧ v13 = .int .i64 k ∧ k ≤ len ∧ s ≤ k * 64 ∧ Hid (s = cnt f (k * 64)) ∧ w = wr) (fun _ v _ => len - (intOf v).toNat)
  case atStart => exact ⟨0, 0, rfl, rfl, by omega, by omega, rfl, rfl⟩
  case round =>
    obtain ⟨k, s, rfl, rfl, hk, hs, hcn, rfl⟩ := hrel
    by_cases hlt : k < len
    · obtain ⟨ad, rfl, hc⟩ := HW.out k hlt
      obtain ⟨x, hx⟩ : ∃ x, x = ws.getD k 0 := ⟨_, rfl⟩
      rw [← hx] at hc
      have HX : Hid (x < 18446744073709551616) := Lib.hid (by rw [hx]; exact HI.out.lt k)
      obtain ⟨q, hq⟩ : ∃ q, q = Lib.onesCount x := ⟨_, rfl⟩
      have hq64 : q ≤ 64 := by rw [hq, hx]; exact onesCount_le HI.out k
      have HN : Hid (s + q = cnt f ((k + 1) * 64)) := by
        show _ = _
        rw [show (k + 1) * 64 = k * 64 + 64 by omega, HI.out.count k, ← hcn.out, hq, hx]
      have HO : Hid (∀ w, Calls Tryd.prog 50 #[.int .u64 x] w fun e w' => e = .returned (.int .i64 q) ∧ w = w') := Lib.hid (by rw [hq]; exact ones_any x HX.out)
      clear hx hq
      go_wp2_with (go_at_call 50; refine (HO.out _).mono ?_; rintro e w1 ⟨rfl, rfl⟩)
      go_roundw
      case rel => exact ⟨k + 1, s + q, by go_num, by go_num, by omega, by omega, HN, trivial⟩
      case measure => simp [intOf]; omega
    · have hkl : len = k := by omega
      have HC : Hid (s = cnt f n) := by
        show _ = _
        rw [hcn.out, ← hkl, HL.out, HI.out.count_all]
      go_wp2
      go_ret
      refine ⟨?_, rfl⟩
      rw [← HC.out]
      rfl
theorem count_quiet {w : World} {B g n : Nat} {f : Fs} (h : SetAt w B g n f) (x : Nat) (hx : x = cnt f n) (m : Nat) :
    Calls Tryd.prog 31 #[.pointer (some ⟨B, 0, none⟩)] (w.drewN m) fun e w'' => e = .returned (.int .i64 x) ∧ ∃ j, w'' = w.drewN j := by
  subst hx
  have h' := h.after (below_drewN (Below.refl w.heap.size w) m)
  obtain ⟨A, c, ws, h1, h2, h3, h4⟩ := h'.read
  refine (count_coreW (w.drewN m) B n ws.length c A ws f h1 h.width rfl h'.self.1 h3 h4).mono ?_
  rintro e w' ⟨rfl, rfl⟩
  exact ⟨rfl, m, rfl⟩
theorem same_coreQ (B C n len c c' : Nat) (A A' : Option Addr) (q : Bool) (w : World) (h0 : w.cell? ⟨B, 0, none⟩ = some (.pointer (some ⟨B, 0, none⟩))) (h1 : w.cell? ⟨B, 1, none⟩ = some (.int .i64 n)) (h2 : w.cell? ⟨B, 2, none⟩ = some (.slice A len c)) (k0 : w.cell? ⟨C, 0, none⟩ = some (.pointer (some ⟨C, 0, none⟩))) (k1 : w.cell? ⟨C, 1, none⟩ = some (.int .i64 n)) (k2 : w.cell? ⟨C, 2, none⟩ = some (.slice A' len c'))
    (hE : ∀ m, Calls Tryd.prog 45 #[.slice A len c, .slice A' len c'] (w.drewN m) (QPost (w.drewN m) q)) :
    Calls Tryd.prog 16 #[.pointer (some ⟨B, 0, none⟩), .pointer (some ⟨C, 0, none⟩)] w (QPost w q) := by
  have C1 := Lib.hid (made_set w B h0)
  have C2 := Lib.hid (made_set w C k0)
  have C3 : Hid (∀ m, Calls Tryd.prog 45 #[.slice A len c, .slice A' len c'] (w.drewN m) fun e w'' => e = .returned (.bool q) ∧ ∃ j, w'' = w.drewN j) :=
    Lib.hid fun m => (hE m).mono fun e w' ⟨h1, j, h2⟩ => ⟨h1, m + j, by rw [h2, drewN_drewN]⟩
  clear hE
  have e1 : ((n : Int) == (n : Int)) = true := by simp
  go_enter Tryd.func16, Tryd.ntmps16
  go_wp2_with (first
    | (go_at_call 44; (with_reducible refine C1.out.mono ?_); rintro e w1 ⟨rfl, rfl⟩)
    | (go_at_call 44; (with_reducible refine C2.out.mono ?_); rintro e w1 ⟨rfl, rfl⟩))
  go_quiet ((go_at_call 45; exact C3.out _))
  go_wp2
  go_ret
  exact ⟨rfl, _, rfl⟩
theorem same_quiet {w : World} {B g n C g' : Nat} {f f2 : Fs} (h : SetAt w B g n f) (k : SetAt w C g' n f2) (hq : f = f2) (m : Nat) :
    Calls Tryd.prog 16 #[.pointer (some ⟨B, 0, none⟩), .pointer (some ⟨C, 0, none⟩)] (w.drewN m) fun e w'' => e = .returned (.bool true) ∧ ∃ j, w'' = w.drewN j := by
  subst hq
  have hb := below_drewN (Below.refl w.heap.size w) m
  have h' := h.after hb
  have k' := k.after hb
  obtain ⟨A, c, ws, h1, h2, h3, h4⟩ := h'.read
  obtain ⟨A', c', vs, k1, k2, k3, k4⟩ := k'.read
  have hl : vs.length = ws.length := by rw [h1.len, k1.len]
  rw [hl] at k3 k4
  refine (same_coreQ B C n ws.length c c' A A' true (w.drewN m) h'.self.1 h'.self.2 h3 k'.self.1 k'.self.2 k3 (fun m2 => ?_)).mono ?_
  · refine equal_core ((w.drewN m).drewN m2) A A' ws.length c c' ws vs true (h1.lenle h.width) h4 k4 ?_
    rw [← words_same h1 k1, same_self]
  · rintro e w' ⟨rfl, j, rfl⟩
    exact ⟨rfl, m + j, drewN_drewN _ _ _⟩
end Go.Proofs.YtffphlbbophjfaaDoor.Bs
