/- Package world's enter: all names put into the table, one kind's behind the other's; proved by walking its text. Conditions: names may be; at most 400 of a kind. -/
import Derived.Test.YtfefnfifeaihhaaGreatWoTab
import Derived.Test.YtfefnfifeaihhaaGreatWoByKind
set_option linter.unusedVariables false
set_option linter.unusedSimpArgs false
set_option maxHeartbeats 4000000
set_option maxRecDepth 100000
namespace Go.Proofs.YtfefnfifeaihhaaGreat.Wo
open Go.ChangeShapes Go.WideShapes Go.ChangeAt Go.RowKit Go.Maps
open Lx Sh It
/-- the things of the first kinds -/
def thOf : Nat → List (List Nm) → List (Nat × Nat)
  | _, [] => []
  | k, l :: r => ofK k l.length ++ thOf (k + 1) r
theorem thOf_kinds (n : NamesM) : thOf 0 n.kinds = thingsN n := by simp [thOf, NamesM.kinds, thingsN, ofK]
theorem thOf_more : ∀ (E : List (List Nm)) (k0 k : Nat) (l : List Nm), E[k]? = some l → thOf k0 (E.take (k + 1)) = thOf k0 (E.take k) ++ ofK (k0 + k) l.length
  | [], _, _, _, h => by simp at h
  | a :: r, k0, 0, l, h => by simp at h; subst h; simp [thOf]
  | a :: r, k0, k + 1, l, h => by
    rw [List.take_succ_cons, List.take_succ_cons, thOf, thOf, thOf_more r (k0 + 1) k l (by simpa using h), List.append_assoc, show k0 + 1 + k = k0 + (k + 1) by omega]
theorem flat_upto {E : List (List Nm)} {k : Nat} {l : List Nm} (h : E[k]? = some l) : (E.take (k + 1)).flatten = (E.take k).flatten ++ l := by
  rw [List.take_add_one, h]
  simp
theorem ofK_more (k i : Nat) : ofK k (i + 1) = ofK k i ++ [(k, i)] := by simp [ofK, List.range_succ]
theorem dup_at {n : NamesM} {k i : Nat} {l : List Nm} {a : Nm} (hk : n.kinds[k]? = some l) (hi : l[i]? = some a) (hn : ((n.kinds.take k).flatten ++ l.take i).Nodup) (ha : a ∈ (n.kinds.take k).flatten ++ l.take i) : dupW n = ⟨6, (k : Int), (i : Int)⟩ := by
  have hsub : ((n.kinds.take k).flatten).Nodup := (List.nodup_append.1 hn).1
  have hz := (nodup_dups (n.kinds.take k) [] List.nodup_nil).2 (by rw [List.nil_append]; exact hsub)
  have hd : (dups [] n.kinds)[k]? = some (dupE (([] : List Nm) ++ (n.kinds.take k).flatten) l) := by rw [dups_at, hk]; rfl
  have hzl := (nodup_dupE (l.take i) (n.kinds.take k).flatten hsub).2 hn
  have := fst0_at (dups [] n.kinds) 0 k i _ 6 hd (by rw [dupE_at, hi]; simp only [List.nil_append, Option.map_some]; rw [if_pos ha]) (by omega) (fun q hq l' hl' e he => by
    refine hz l' ?_ e he
    have e1 : (dups [] (n.kinds.take k))[q]? = (dups [] n.kinds)[q]? := by
      rw [dups_at, dups_at, List.getElem?_take, if_pos hq, List.take_take, Nat.min_eq_left (Nat.le_of_lt hq)]
    rw [← e1] at hl'
    exact List.mem_of_getElem? hl') (fun i' hi' e' he' => by
    refine hzl e' ?_
    have e1 : (dupE (n.kinds.take k).flatten (l.take i))[i']? = (dupE (([] : List Nm) ++ (n.kinds.take k).flatten) l)[i']? := by
      rw [dupE_at, dupE_at, List.getElem?_take, if_pos hi', List.take_take, Nat.min_eq_left (Nat.le_of_lt hi'), List.nil_append]
    rw [← e1] at he'
    exact List.mem_of_getElem? he')
  rw [Nat.zero_add] at this
  exact this
/-- the maker while names are entered -/
structure En (w wr : World) (M T : Nat) (X0 X : Nat → Prop) (R : List Value) (L : List Nm) (th : List (Nat × Nat)) (n : Nat) (A : Option Addr) (c : Nat) : Prop where
  blk : Blk wr M 177 (.pointer (some ⟨T, 0, none⟩) :: .slice A n c :: R)
  hn : n = th.length
  tab : TabAt wr X T L
  hX : ∀ k, X k → X0 k ∨ w.heap.size < k
  own : wr.ownsRow (w.heap.size + 1) 212 2 (.slice A n c) n (cs thC th)
  hA : ∀ k, (Value.slice A n c).ownBlock = some k → ¬ X k
  ch : Ch (fun k => k = M ∨ X0 k ∨ w.heap.size ≤ k) w wr
  box : Blk wr w.heap.size 52 [.int .i64 0, .int .i64 0, .int .i64 0]
section
variable {w wr w1 w2 w3 : World} {M T : Nat} {X0 X : Nat → Prop} {R : List Value} {L : List Nm} {th : List (Nat × Nat)} {n c : Nat} {A : Option Addr}
theorem En.after (h : En w wr M T X0 X R L th n A c) (hb : Below wr.heap.size wr w1) : En w w1 M T X0 X R L th n A c :=
  ⟨h.blk.after hb, h.hn, h.tab.after hb, h.hX, own_after h.own hb, h.hA, h.ch.trans' (Ch.of_below (X := fun k => k = M ∨ X0 k ∨ w.heap.size ≤ k) hb) fun _ _ h => h, h.box.after hb⟩
/-- the table has changed -/
theorem En.tabbed (h : En w wr M T X0 X R L th n A c) (hM : M < w.heap.size) (hM0 : ¬ X0 M) (h0 : ∀ k, X0 k → k < w.heap.size) {L' : List Nm} (hc : Ch X wr w1) (ht : TabAt w1 (Grow X wr w1) T L') : En w w1 M T X0 (Grow X wr w1) R L' th n A c := by
  have hsz := h.box.lt
  have hXM : ¬ X M := fun hx => (h.hX M hx).elim hM0 fun h2 => by omega
  refine ⟨hc.blk h.blk hXM, h.hn, ht, fun k hk => hk.elim (h.hX k) fun hk => .inr (by omega), hc.own h.own fun k hk hx => h.hA k hk hx, fun k hk hx => hx.elim (h.hA k hk) fun hx => by have := (h.own.lt k hk).2; omega, h.ch.trans' hc fun i _ hx => (h.hX i hx).elim (fun h => .inr (.inl h)) fun h => .inr (.inr (by omega)), hc.blk h.box fun hx => (h.hX _ hx).elim (fun h2 => by have := h0 _ h2; omega) fun h2 => by omega⟩
theorem En.more (h : En w wr M T X0 X R L th n A c) (hM : M < w.heap.size) (hM0 : ¬ X0 M) (h0 : ∀ k, X0 k → k < w.heap.size) (hb : Below wr.heap.size wr w2) {t : Nat × Nat} {A' : Option Addr} {c' : Nat} (ho : w3.ownsRow (w.heap.size + 1) 212 2 (.slice A' (n + 1) c') (n + 1) (cs thC th ++ thC t)) (hg : w2.grownBy w3 (Value.slice A n c).ownBlock) (hor : (Value.slice A' (n + 1) c').ownBlock = (Value.slice A n c).ownBlock ∨ (Value.slice A' (n + 1) c').ownBlock = some w2.heap.size) :
    En w (w3.setCell ⟨M, 1, none⟩ (.slice A' (n + 1) c')) M T X0 X R L (th ++ [t]) (n + 1) A' c' := by
  have k := h.after hb
  have hsz := h.box.lt
  have hXM : ¬ X M := fun hx => (h.hX M hx).elim hM0 fun h2 => by omega
  have c1 : Ch (fun k => some k = (Value.slice A n c).ownBlock) w2 w3 := Ch.of_grown (X := fun k => some k = (Value.slice A n c).ownBlock) hg fun k e => e
  have c2 : Ch (fun k => k = M ∨ some k = (Value.slice A n c).ownBlock) w2 (w3.setCell ⟨M, 1, none⟩ (.slice A' (n + 1) c')) := (c1.mono fun k _ h => .inr h).setCell (p := ⟨M, 1, none⟩) (.inl (.inl rfl)) _
  have hB : ∀ k, some k = (Value.slice A n c).ownBlock → w.heap.size < k := fun k e => by have := (h.own.lt k e.symm).1; omega
  refine ⟨?_, by rw [h.hn]; simp, k.tab.far c2 fun i hi hx => hx.elim (fun e => hXM (e ▸ hi)) fun e => h.hA i e.symm hi, h.hX, ?_, ?_, k.ch.trans' c2 fun i _ hx => hx.elim (fun e => .inl e) fun e => .inr (.inr (Nat.le_of_lt (hB i e))), c2.blk k.box fun hx => hx.elim (fun e => by omega) fun e => by have := hB _ e; omega⟩
  · have := (k.blk.grown hg fun e => by have := hB M e; omega).set_ 1 (.slice A' (n + 1) c')
    exact this
  · rw [show cs thC (th ++ [t]) = cs thC th ++ thC t by simp [cs]]
    exact (ch_set w3 M 1 _).own ho fun b hb2 e => by have := (ho.lt b hb2).1; omega
  · intro i hi hx
    rcases hor with e | e
    · rw [e] at hi; exact h.hA i hi hx
    · rw [e] at hi; injection hi with hi
      have := k.tab.lt i hx
      omega
end
def shL (x : SheetM) (p : ShA) : List Value := [.int .i64 x.horizon, .slice p.a1 x.stops.length p.c1, .slice p.a2 x.paths.length p.c2, .slice p.a3 x.doors.length p.c3, .slice p.a4 x.routes.length p.c4, .slice p.a5 x.trips.length p.c5, .slice p.a6 x.hazards.length p.c6]
def nvL (h : Int) (n : NamesM) (p : NaA) : List Value := [.int .i64 h, .slice p.a1 n.stops.length p.c1, .slice p.a2 n.paths.length p.c2, .slice p.a3 n.doors.length p.c3, .slice p.a4 n.routes.length p.c4, .slice p.a5 n.trips.length p.c5, .slice p.a6 n.hazards.length p.c6]
def nil5 : List Value := [.slice none 0 0, .slice none 0 0, .slice none 0 0, .slice none 0 0, .slice none 0 0]
def restL (x : SheetM) (p : ShA) (n : NamesM) (pn : NaA) : List Value := shL x p ++ (nvL x.horizon n pn ++ nil5)
theorem info_Thing : (Tryz.prog.info? 212).map (fun i => (i.zero, i.size, i.bytes)) = some (some (.agg #[.int .i64 0, .int .i64 0]), 2, 16) := by kernel_rfl
theorem ent_read {W : World} {n0 : Nat} {a0 a1 a2 : Value} {tmps : Array Value} (h2 : tmps[2]? = some (.pointer (some ⟨n0, 0, none⟩))) (k0 : Blk W n0 52 [a0, a1, a2]) :
    (results Tryz.f122 tmps).run Tryz.prog W = .ok (.agg #[a0, a1, a2]) W := by
  have x0 : W.cell? ⟨n0, 0, none⟩ = some a0 := k0.cell 0
  have x1 : W.cell? ⟨n0, 1, none⟩ = some a1 := k0.cell 1
  have x2 : W.cell? ⟨n0, 2, none⟩ = some a2 := k0.cell 2
  simp [results, Tryz.results122, go_sem, h2, x0, x1, x2]
def EnPost (w : World) (M T : Nat) (X0 : Nat → Prop) (x : SheetM) (p : ShA) (n : NamesM) (pn : NaA) (e : Ending) (w' : World) : Prop :=
  e = .returned (wrV (dupW n)) ∧ Ch (fun k => k = M ∨ X0 k ∨ w.heap.size ≤ k) w w' ∧ (dupW n = okW → ∃ (X : Nat → Prop) (A : Option Addr) (tn c : Nat), Blk w' M 177 (.pointer (some ⟨T, 0, none⟩) :: .slice A tn c :: restL x p n pn) ∧ TabAt w' X T n.flat ∧ (∀ k, X k → X0 k ∨ w.heap.size < k) ∧ tn = (thingsN n).length ∧ Rd w' (fun b => w.heap.size < b ∧ b < w'.heap.size) A (cs thC (thingsN n)))
theorem addE_no {L : List Nm} {a : Nm} (h1 : nameB a = true) (h2 : a ∉ L) (h3 : L.length < 4096) : addE L a = 0 := by
  unfold addE
  rw [if_neg (by rw [h1]; simp), if_neg h2, if_neg (by omega)]
theorem addE_in {L : List Nm} {a : Nm} (h1 : nameB a = true) (h2 : a ∈ L) : addE L a = 6 := by
  unfold addE
  rw [if_neg (by rw [h1]; simp), if_pos h2]
theorem mem_kinds {n : NamesM} {k : Nat} {l : List Nm} (h : n.kinds[k]? = some l) {a : Nm} (ha : a ∈ l) : a ∈ n.flat := by
  rw [← kinds_flat]
  exact List.mem_flatten.2 ⟨l, List.mem_of_getElem? h, ha⟩
theorem upto_len {n : NamesM} {k i : Nat} {l : List Nm} (h : n.kinds[k]? = some l) : ((n.kinds.take k).flatten ++ l.take i).length ≤ n.flat.length := by
  have h1 : (n.kinds.take k).flatten.length + l.length = ((n.kinds.take (k + 1)).flatten).length := by rw [flat_upto h]; simp
  have h2 : ((n.kinds.take (k + 1)).flatten).length ≤ n.kinds.flatten.length := by
    conv => rhs; rw [← List.take_append_drop (k + 1) n.kinds]
    rw [List.flatten_append, List.length_append]; omega
  rw [kinds_flat] at h2
  rw [List.length_append, List.length_take]
  omega
theorem idx7_0 (a0 a1 a2 a3 a4 a5 a6 : Value) (w : World) : (Instr.index 209 (.agg #[a0, a1, a2, a3, a4, a5, a6]) (.int .i64 ((0 : Nat) : Int))).run Tryz.prog w = .ok a0 w := by kernel_rfl
theorem idx7_1 (a0 a1 a2 a3 a4 a5 a6 : Value) (w : World) : (Instr.index 209 (.agg #[a0, a1, a2, a3, a4, a5, a6]) (.int .i64 ((1 : Nat) : Int))).run Tryz.prog w = .ok a1 w := by kernel_rfl
theorem idx7_2 (a0 a1 a2 a3 a4 a5 a6 : Value) (w : World) : (Instr.index 209 (.agg #[a0, a1, a2, a3, a4, a5, a6]) (.int .i64 ((2 : Nat) : Int))).run Tryz.prog w = .ok a2 w := by kernel_rfl
theorem idx7_3 (a0 a1 a2 a3 a4 a5 a6 : Value) (w : World) : (Instr.index 209 (.agg #[a0, a1, a2, a3, a4, a5, a6]) (.int .i64 ((3 : Nat) : Int))).run Tryz.prog w = .ok a3 w := by kernel_rfl
theorem idx7_4 (a0 a1 a2 a3 a4 a5 a6 : Value) (w : World) : (Instr.index 209 (.agg #[a0, a1, a2, a3, a4, a5, a6]) (.int .i64 ((4 : Nat) : Int))).run Tryz.prog w = .ok a4 w := by kernel_rfl
theorem idx7_5 (a0 a1 a2 a3 a4 a5 a6 : Value) (w : World) : (Instr.index 209 (.agg #[a0, a1, a2, a3, a4, a5, a6]) (.int .i64 ((5 : Nat) : Int))).run Tryz.prog w = .ok a5 w := by kernel_rfl
theorem idx7_6 (a0 a1 a2 a3 a4 a5 a6 : Value) (w : World) : (Instr.index 209 (.agg #[a0, a1, a2, a3, a4, a5, a6]) (.int .i64 ((6 : Nat) : Int))).run Tryz.prog w = .ok a6 w := by kernel_rfl
theorem idx7 (a0 a1 a2 a3 a4 a5 a6 v : Value) (k : Nat) (w : World) (h : (#[a0, a1, a2, a3, a4, a5, a6] : Array Value)[k]? = some v) : (Instr.index 209 (.agg #[a0, a1, a2, a3, a4, a5, a6]) (.int .i64 (k : Int))).run Tryz.prog w = .ok v w := by
  have hk : k < 7 := by have := (Array.getElem?_eq_some_iff.1 h).1; simpa using this
  have hr : k = 0 ∨ k = 1 ∨ k = 2 ∨ k = 3 ∨ k = 4 ∨ k = 5 ∨ k = 6 := by omega
  rcases hr with rfl | rfl | rfl | rfl | rfl | rfl | rfl <;> injection h with h <;> rw [← h]
  · exact idx7_0 _ _ _ _ _ _ _ w
  · exact idx7_1 _ _ _ _ _ _ _ w
  · exact idx7_2 _ _ _ _ _ _ _ w
  · exact idx7_3 _ _ _ _ _ _ _ w
  · exact idx7_4 _ _ _ _ _ _ _ w
  · exact idx7_5 _ _ _ _ _ _ _ w
  · exact idx7_6 _ _ _ _ _ _ _ w
theorem idx_kA (n : NamesM) (p : NaA) (k : Nat) (v : Value) (h : (kA n p)[k]? = some v) (w : World) : (Instr.index 209 (.agg (kA n p)) (.int .i64 (k : Int))).run Tryz.prog w = .ok v w := idx7 _ _ _ _ _ _ _ _ k w h
theorem own_rd'' {w : World} {b e s n k c : Nat} {A : Option Addr} {xs : List Value} (h : w.ownsRow b e s (.slice A n c) k xs) : Rd w (fun i => b ≤ i ∧ i < w.heap.size) A xs := by
  obtain ⟨A', c', e', -, hr⟩ := own_form h
  injection e' with e1 e2 e3
  subst e1
  exact hr
theorem th_len (E : List (List Nm)) (k0 : Nat) : (thOf k0 E).length = E.flatten.length := by
  induction E generalizing k0 with
  | nil => rfl
  | cons a r ih => simp [thOf, ofK_len, ih]
def En1 (w wr : World) (M T : Nat) (X0 : Nat → Prop) (R : List Value) (L : List Nm) (th : List (Nat × Nat)) : Prop := ∃ X n A c, En w wr M T X0 X R L th n A c
theorem enter_any {w : World} {M T : Nat} {X0 : Nat → Prop} {x : SheetM} {p : ShA} {n : NamesM} {pn : NaA} (hb : Blk w M 177 (.pointer (some ⟨T, 0, none⟩) :: .slice none 0 0 :: restL x p n pn)) (ht : TabAt w X0 T []) (hM0 : ¬ X0 M) (hna : Na w (fun b => b < w.heap.size ∧ b ≠ M ∧ ¬ X0 b) n pn) (hnm : ∀ a ∈ n.flat, nameB a = true) (hln : n.flat.length ≤ 4000) :
    Calls Tryz.prog 122 #[.pointer (some ⟨M, 0, none⟩)] w (EnPost w M T X0 x p n pn) := by
  have hM : M < w.heap.size := hb.lt
  have hne : M ≠ w.heap.size := by omega
  have H0 : Hid (∀ k, X0 k → k < w.heap.size) := HH ht.lt
  have HB := HH hb
  have HTB := HH ht
  have HNA := HH hna
  have HNM := HH hnm
  have c10 : w.cell? ⟨M, 10, none⟩ = some (.slice pn.a1 n.stops.length pn.c1) := hb.cell 10
  have c11 : w.cell? ⟨M, 11, none⟩ = some (.slice pn.a2 n.paths.length pn.c2) := hb.cell 11
  have c12 : w.cell? ⟨M, 12, none⟩ = some (.slice pn.a3 n.doors.length pn.c3) := hb.cell 12
  have c13 : w.cell? ⟨M, 13, none⟩ = some (.slice pn.a4 n.routes.length pn.c4) := hb.cell 13
  have c14 : w.cell? ⟨M, 14, none⟩ = some (.slice pn.a5 n.trips.length pn.c5) := hb.cell 14
  have c15 : w.cell? ⟨M, 15, none⟩ = some (.slice pn.a6 n.hazards.length pn.c6) := hb.cell 15
  have HBK := HH (fun w1 => byKind_any n pn w1)
  dsimp only [naV] at HBK
  have HHM := HH hM
  have HHM0 := HH hM0
  clear hb ht hna hnm
  generalize hR : restL x p n pn = R at HB
  go_enter Tryz.func122, Tryz.ntmps122
  go_wp2_with (go_at_call 152; refine (HBK.out _).mono ?_; rintro e w1 ⟨rfl, hb⟩; have HB1 := HH hb; clear hb)
  have HBW : Hid (Below w.heap.size w w1) := HH (keep_trans (one_box _ _) HB1.out)
  have HST : Hid (En1 w w1 M T X0 R [] []) := HH ⟨X0, 0, none, 0, ⟨HB.out.after HBW.out, rfl, HTB.out.after HBW.out, fun k h => .inl h, own_nil, fun k h => (nomatch h), Ch.of_below HBW.out, (Blk.new w _ _).after HB1.out⟩⟩
  have hkz := kA_size n pn
  clear c10 c11 c12 c13 c14 c15 HBK
  generalize hkA : kA n pn = KA at *
  go_loopw [15] (fun v wr => ∃ k : Nat, v = .int .i64 (k : Int) ∧ k ≤ 7 ∧ Hid (En1 w wr M T X0 R ((n.kinds.take k).flatten) (thOf 0 (n.kinds.take k)))) (fun v _ => 7 - (intOf v).toNat)
  case atStart => exact ⟨0, rfl, by omega, HST⟩
  case round =>
    obtain ⟨k, rfl, hk, HE⟩ := hrel
    by_cases hlt : k < 7
    · obtain ⟨l, hl⟩ : ∃ l, n.kinds[k]? = some l := ⟨_, List.getElem?_eq_getElem (by simpa [NamesM.kinds] using hlt)⟩
      have HL := HH hl
      obtain ⟨A, c, hka, hrd⟩ := kA_at (p := pn) hl
      obtain ⟨nl, hnl⟩ : ∃ m, m = l.length := ⟨_, rfl⟩
      rw [← hnl] at hka
      have hix := idx_kA n pn k _ hka
      rw [hkA] at hix
      have HRD := HH hrd
      have hki : (k : Int) < 7 := by omega
      have HNL := HH hnl
      have hnl4 : nl ≤ 4000 := by have h5 := upto_len (i := l.length) HL.out; rw [List.length_append, List.length_take] at h5; omega
      clear hl hrd hnl hka
      go_wp2
      go_loopw [21] (fun v wr => ∃ i : Nat, v = .int .i64 (i : Int) ∧ i ≤ nl ∧ Hid (En1 w wr M T X0 R ((n.kinds.take k).flatten ++ l.take i) (thOf 0 (n.kinds.take k) ++ ofK k i))) (fun v _ => nl - (intOf v).toNat)
      case atStart => exact ⟨0, rfl, by omega, HH (by have := HE.out; simpa [ofK] using this)⟩
      case round =>
        obtain ⟨i, rfl, hi, HE⟩ := hrel
        by_cases hlt2 : i < nl
        · obtain ⟨a, ha⟩ := at_in l HNL hlt2
          have HA := HH ha
          have HAM : Hid (a ∈ n.flat) := HH (mem_kinds HL.out (List.mem_of_getElem? ha))
          have hal : a.length ≤ maxLen := by have := name_short (HNM.out a HAM.out); have := maxLen_big; omega
          obtain ⟨X, tn, tA, tc, he⟩ := HE.out
          have hRD : Rd wr (fun b => b < w.heap.size ∧ b ≠ M ∧ ¬ X0 b) A (cs strC l) := Rd.keep (HRD.out w _ HNA.out) fun b hb => he.ch.block b hb.1 (by rintro (h | h | h); exact hb.2.1 h; exact hb.2.2 h; omega)
          obtain ⟨sd, e2, hS, g0, -⟩ := rd_at 1 (fun _ => rfl) (by omega) hRD ha
          subst e2
          have s0 : wr.cell? (sd.add i) = some (.string ⟨a.toArray⟩) := by have : wr.cell? (sd.add (i * 1)) = some (.string ⟨a.toArray⟩) := g0; rwa [Nat.mul_one] at this
          have m0 : wr.cell? ⟨M, 0, none⟩ = some (.pointer (some ⟨T, 0, none⟩)) := he.blk.cell 0
          have hi1 : (i : Int) < (nl : Int) := by omega
          have HEE := HH he
          have hll := upto_len (i := i) HL.out
          have htn := he.hn
          have htl : (thOf 0 (n.kinds.take k) ++ ofK k i).length = ((n.kinds.take k).flatten ++ l.take i).length := by rw [List.length_append, List.length_append, th_len, ofK_len, List.length_take, ← HNL.out]; omega
          have htn4 : tn ≤ 4000 := by omega
          have HLL := HH hll
          clear ha g0 hS hRD he htn htl hll
          by_cases hin : a ∈ (n.kinds.take k).flatten ++ l.take i
          · have hE := addE_in (HNM.out a HAM.out) hin
            have HAD := HH (add_not HEE.out.tab a hal 6 hE (by omega))
            have HDU : Hid (dupW n = ⟨6, (k : Int), (i : Int)⟩) := HH (dup_at HL.out HA.out HEE.out.tab.good.1 hin)
            clear hE hin
            go_wp2_with (go_at_call 141; refine HAD.out.mono ?_; rintro e w2 ⟨rfl, ht, hc⟩; have HE2 := HH (HEE.out.tabbed HHM.out HHM0.out H0.out hc.out ht.out); have q0 : w2.cell? ⟨w.heap.size, 0, none⟩ = some (.int .i64 0) := HE2.out.box.cell 0; have q1 : w2.cell? ⟨w.heap.size, 1, none⟩ = some (.int .i64 0) := HE2.out.box.cell 1; have q2 : w2.cell? ⟨w.heap.size, 2, none⟩ = some (.int .i64 0) := HE2.out.box.cell 2; have qf : ∀ i, w2.frozen? ⟨w.heap.size, i, none⟩ = false := fun i => HE2.out.box.frozen i; clear ht hc)
            refine bodyPost_ret (ent_read rfl (((HE2.out.box.set_ 0 _).set_ 1 _).set_ 2 _)) rfl ?_
            refine ⟨(by first | (rw [HDU.out]; done) | (rw [HDU.out]; rfl)), ((HE2.out.ch.setCell (p := ⟨w.heap.size, 0, none⟩) (.inl (.inr (.inr (Nat.le_refl _)))) _).setCell (p := ⟨w.heap.size, 1, none⟩) (.inl (.inr (.inr (Nat.le_refl _)))) _).setCell (p := ⟨w.heap.size, 2, none⟩) (.inl (.inr (.inr (Nat.le_refl _)))) _, fun h => ?_⟩
            rw [HDU.out] at h
            exact absurd (congrArg WrM.err h) (by show ¬ ((6 : Int) = 0); omega)
          · have hE := addE_no (HNM.out a HAM.out) hin (by have := HLL.out; omega)
            have HAD := HH (add_ok HEE.out.tab a hal hE)
            clear hE hin
            go_wp2_with (first
              | (go_at_call 141; refine HAD.out.mono ?_; rintro e w2 ⟨rfl, ht, hc⟩; have HE2 := HH (HEE.out.tabbed HHM.out HHM0.out H0.out hc.out ht.out); have q1 : w2.cell? ⟨M, 1, none⟩ = some (.slice tA tn tc) := HE2.out.blk.cell 1; have hs2 : w.heap.size < w2.heap.size := HE2.out.box.lt; clear ht hc)
              | (at_builtin; refine wpList_append_ch rfl (.tmp 45) (.tmp 49) 175 rfl (w.heap.size + 1) 212 _ 2 16 Tryz.underlying175 info_Thing rfl (by omega) (by omega) (.slice tA tn tc) tn (cs thC (thOf 0 (n.kinds.take k) ++ ofK k i)) rfl (own_after HE2.out.own (one_box _ _)) _ _ 1 1 [.int .i64 (k : Int), .int .i64 (i : Int)] rfl rfl (Sh.lit_at _ _ _ _ _ (by simp) rfl) (by simp [Value.oneCell']) (by omega) (by simp; omega) ?_; intro v' w4 hown hgrow hob; obtain ⟨A', c', rfl, -, -⟩ := own_form hown.out; have HK4 := HH ((HE2.out.blk.after (one_box _ _)).grown hgrow.out (fun e => by have := (HE2.out.own.lt M e.symm).1; have := HHM.out; omega)); have r1 : w4.cell? ⟨M, 1, none⟩ = some (.slice tA tn tc) := HK4.out.cell 1; have rf : w4.frozen? ⟨M, 1, none⟩ = false := HK4.out.frozen 1))
            go_roundw
            case rel => exact ⟨i + 1, by go_num, by omega, HH (by
              have hm := HE2.out.more HHM.out HHM0.out H0.out (one_box _ _) (t := (k, i)) hown.out hgrow.out hob.out
              rw [show (n.kinds.take k).flatten ++ l.take (i + 1) = (n.kinds.take k).flatten ++ l.take i ++ [a] by rw [List.take_add_one, HA.out]; simp, ofK_more, ← List.append_assoc]
              exact ⟨_, _, _, _, hm⟩)⟩
            case measure => simp [intOf]; omega
        · obtain rfl : nl = i := by omega
          have hi1 : ¬ ((nl : Int) < (nl : Int)) := by omega
          go_wp2
          go_roundw
          case rel => exact ⟨k + 1, by go_num, by omega, HH (by
            have := HE.out
            rw [flat_upto HL.out, thOf_more _ 0 k l HL.out, Nat.zero_add, ← HNL.out]
            rwa [HNL.out, List.take_length, ← HNL.out] at this)⟩
          case measure => simp [intOf]; omega
    · have hki : ¬ ((k : Int) < 7) := by omega
      obtain rfl : k = 7 := by omega
      obtain ⟨X, tn, tA, tc, he⟩ := HE.out
      have e1 : n.kinds.take 7 = n.kinds := rfl
      rw [e1, kinds_flat, thOf_kinds] at he
      have HEE := HH he
      have HDU : Hid (dupW n = okW) := HH ((dupW_iff n).2 he.tab.good.1)
      have q0 : wr.cell? ⟨w.heap.size, 0, none⟩ = some (.int .i64 0) := he.box.cell 0
      have q1 : wr.cell? ⟨w.heap.size, 1, none⟩ = some (.int .i64 0) := he.box.cell 1
      have q2 : wr.cell? ⟨w.heap.size, 2, none⟩ = some (.int .i64 0) := he.box.cell 2
      have qf : ∀ i, wr.frozen? ⟨w.heap.size, i, none⟩ = false := fun i => HEE.out.box.frozen i
      clear he
      go_wp2
      refine bodyPost_ret (ent_read rfl (((HEE.out.box.set_ 0 _).set_ 1 _).set_ 2 _)) rfl ?_
      refine ⟨(by first | (rw [HDU.out]; done) | (rw [HDU.out]; rfl)), ((HEE.out.ch.setCell (p := ⟨w.heap.size, 0, none⟩) (.inl (.inr (.inr (Nat.le_refl _)))) _).setCell (p := ⟨w.heap.size, 1, none⟩) (.inl (.inr (.inr (Nat.le_refl _)))) _).setCell (p := ⟨w.heap.size, 2, none⟩) (.inl (.inr (.inr (Nat.le_refl _)))) _, fun _ => ?_⟩
      have hc := ((ch_set wr w.heap.size 0 (.int .i64 0)).trans (ch_set _ w.heap.size 1 (.int .i64 0))).trans (ch_set _ w.heap.size 2 (.int .i64 0))
      have hXb : ∀ k, X k → ¬ k = w.heap.size := fun k hx e => (HEE.out.hX k hx).elim (fun h => by have := H0.out k h; omega) fun h => by omega
      refine ⟨X, tA, tn, tc, ?_, HEE.out.tab.far hc hXb, HEE.out.hX, HEE.out.hn, ?_⟩
      · rw [hR]; exact hc.blk HEE.out.blk (by have := HHM.out; omega)
      · exact (Rd.keep (own_rd'' HEE.out.own) fun b hb => hc.block b hb.2 (by omega)).more fun b hb => ⟨by omega, Nat.lt_of_lt_of_le hb.2 hc.size⟩
end Go.Proofs.YtfefnfifeaihhaaGreat.Wo
