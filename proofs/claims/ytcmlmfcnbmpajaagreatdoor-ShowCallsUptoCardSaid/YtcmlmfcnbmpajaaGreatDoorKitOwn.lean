/- The kit's Own: a row in memory of the call's own, at each kind of row, proved by walking its text. Conditions: the row has at most a million things. -/
import Derived.Test.YtcmlmfcnbmpajaaGreatDoorRefNames
import Derived.Test.YtcmlmfcnbmpajaaGreatDoorSheetRoute
namespace Go.Proofs.YtcmlmfcnbmpajaaGreatDoor.Sh
open Go.ChangeShapes Go.WideShapes Go.ChangeAt Go.RowKit
open Lx
set_option linter.unusedVariables false
set_option linter.unusedSimpArgs false
theorem pa_one : ∀ a, ∀ u ∈ paC a, u.oneCell' = true := by intro a u hu; simp [paC] at hu; rcases hu with rfl | rfl | rfl | rfl <;> rfl
theorem do_one : ∀ a, ∀ u ∈ doC a, u.oneCell' = true := by intro a u hu; simp [doC] at hu; rcases hu with rfl | rfl | rfl | rfl | rfl | rfl | rfl <;> rfl
theorem tr_one : ∀ a, ∀ u ∈ trC a, u.oneCell' = true := by intro a u hu; simp [trC] at hu; rcases hu with rfl | rfl | rfl | rfl | rfl <;> rfl
theorem ha_one : ∀ a, ∀ u ∈ haC a, u.oneCell' = true := by intro a u hu; simp [haC] at hu; rcases hu with rfl | rfl | rfl | rfl | rfl <;> rfl
theorem wpList_append_rdw {P : Program} {w : World} {ops : Array Oper} {rest : List Oper} {o : Oper} {a : Act} {Q : Exit → Act → World → Prop} (hgd : o.guard = none) (s x : Operand) (t : TypeId)
    (ho : o.op = .call { callee := .builtin .append, args := #[s, x], argTypes := #[t, t] })
    (base : Nat) (e : TypeId) (z : Value) (size bytes : Nat) (ht : P.underlying t = some (.slice e)) (hinfo : (P.info? e).map (fun i => (i.zero, i.size, i.bytes)) = some (some z, size, bytes)) (hzs : z.cells.size = size) (hsz : 0 < size) (hb16 : bytes ≤ 128)
    (v : Value) (n : Nat) (xs : List Value) (hs : a.eval s = v) (hown : w.ownsRow base e size v n xs) (S : Nat → Prop) (A : Option Addr) (m c : Nat) (news : List Value) (hx : a.eval x = .slice A m c) (hl : news.length = m * size) (hr : Rd w S A news) (h1 : ∀ u ∈ news, u.oneCell' = true)
    (hN : n + m ≤ 4000000) (hbase : base ≤ w.heap.size)
    (h : ∀ v' w', Hid (w'.ownsRow base e size v' (n + m) (xs ++ news)) → Hid (Below base w w') → wpList P ops Q rest (a.put o.dst v') w') : wpList P ops Q (o :: rest) a w := by
  refine wpList_plain hgd fun K hK => ?_
  obtain ⟨i, hi, hz, hsize, hby⟩ := info_parts hinfo
  obtain ⟨v', w', hrun, h2, h3, h4⟩ := run_append_rd (P := P) w base t o.type e i z size bytes ht hi hz hsize hby hzs hsz v n xs hown S A m c news hl hr h1 (by simp only [maxLen]; omega)
    (by have : (n + m) * bytes ≤ 4000000 * 128 := Nat.mul_le_mul hN hb16
        omega) hbase
  unfold Oper.wp
  simp only [execOp, ho, resolve, invoke, builtin, Sem.run_bind, Sem.run_pure, Result.andThen_ok, List.map_toArray, List.map_cons, List.map_nil, hs, hx, hrun]
  exact hK _ _ (h v' w' h2 ((Below.refl _ _).grown h3 hbase (fun k hk => (hown.lt k hk).1)))
theorem step_append_rdw {P : Program} {w : World} {ops : Array Oper} {o : Oper} {a : Act} {K : Act → World → Prop} {Q : Exit → Act → World → Prop} {E : Prop} (hgd : o.guard = none) (s x : Operand) (t : TypeId)
    (ho : o.op = .call { callee := .builtin .append, args := #[s, x], argTypes := #[t, t] })
    (base : Nat) (e : TypeId) (z : Value) (size bytes : Nat) (ht : P.underlying t = some (.slice e)) (hinfo : (P.info? e).map (fun i => (i.zero, i.size, i.bytes)) = some (some z, size, bytes)) (hzs : z.cells.size = size) (hsz : 0 < size) (hb16 : bytes ≤ 128)
    (v : Value) (n : Nat) (xs : List Value) (hs : a.eval s = v) (hown : Hid (w.ownsRow base e size v n xs)) (S : Nat → Prop) (A : Option Addr) (m c : Nat) (news : List Value) (hx : a.eval x = .slice A m c) (hl : Hid (news.length = m * size)) (hr : Hid (Rd w S A news)) (h1 : ∀ u ∈ news, u.oneCell' = true)
    (hN : n + m ≤ 4000000) (hbase : base ≤ w.heap.size)
    (h : ∀ v' w', Hid (w'.ownsRow base e size v' (n + m) (xs ++ news)) → Hid (Below base w w') → Hid (w.grownBy w' v.ownBlock) → K (a.put o.dst v') w') :
    if Region.wanted o (yielded ops a.tmps) = true then Oper.wp P o a w K Q else E := by
  have hw : Region.wanted o (yielded ops a.tmps) = true := by simp [Region.wanted, hgd]
  rw [if_pos hw]
  obtain ⟨i, hi, hz, hsize, hby⟩ := info_parts hinfo
  obtain ⟨v', w', hrun, h2, h3, h4⟩ := run_append_rd (P := P) w base t o.type e i z size bytes ht hi hz hsize hby hzs hsz v n xs hown.out S A m c news hl.out hr.out h1 (by simp only [maxLen]; omega)
    (by have : (n + m) * bytes ≤ 4000000 * 128 := Nat.mul_le_mul hN hb16
        omega) hbase
  unfold Oper.wp
  simp only [execOp, ho, resolve, invoke, builtin, Sem.run_bind, Sem.run_pure, Result.andThen_ok, List.map_toArray, List.map_cons, List.map_nil, hs, hx, hrun]
  exact h v' w' h2 ((Below.refl _ _).grown h3 hbase (fun k hk => (hown.out.lt k hk).1)) h3
/-- a row of n things in new memory -/
def NewRow (w : World) (T : TypeId) (size : Nat) (xs : List Value) (n : Nat) (e : Ending) (w' : World) : Prop :=
  ∃ A c, e = .returned (.slice A n c) ∧ n ≤ c ∧ Hid (w'.ownsRow w.heap.size T size (.slice A n c) n xs) ∧ Below w.heap.size w w'
set_option maxRecDepth 100000 in
set_option maxHeartbeats 1000000 in
theorem own_str (w : World) (A : Option Addr) (n c : Nat) (l : List (List UInt8)) (hn : Hid (n = l.length)) (hN : n ≤ 1000000) (hx : Rd w (· < w.heap.size) A (cs strC l)) :
    Calls Tryz.prog 33 #[.slice A n c] w (NewRow w 9 1 (cs strC l) n) := by
  have hx' : Rd (w.alloc (.cells #[] 9)) (· < w.heap.size) A (cs strC l) := hx.keep fun b hb => Below.heap_alloc w _ b hb
  have HX := Lib.hid hx'
  have hl : Hid ((cs strC l).length = n * 1) := by show _ = _; rw [cs_length strC 1 (fun _ => rfl), hn.out]
  have h1 := cs_each str_one l
  have H1 := Lib.hid h1
  clear hx hx' h1
  go_enter Tryz.func33, Tryz.ntmps33
  go_wp2_with (at_builtin; refine wpList_append_rdw rfl (.tmp 3) (.tmp 4) 22 rfl w.heap.size 9 _ 1 16 Tryz.underlying22 info_Str rfl (by omega) (by omega) _ 0 [] rfl (own_empty (Nat.le_refl _)) _ A n c (cs strC l) rfl hl.out HX.out H1.out (by omega) (by simp) ?_; intro v' w1 hown hbel)
  obtain ⟨B, d, hv, hnd, hrd⟩ := own_form hown.out
  have ho := hown.out
  simp only [Nat.zero_add, List.nil_append] at hv ho hnd
  subst hv
  go_ret
  exact ⟨B, d, rfl, hnd, Lib.hid ho, ((Below.refl _ _).alloc (Nat.le_refl _) _).trans hbel.out⟩
set_option maxRecDepth 100000 in
set_option maxHeartbeats 1000000 in
theorem own_int (w : World) (A : Option Addr) (n c : Nat) (l : List (Int)) (hn : Hid (n = l.length)) (hN : n ≤ 1000000) (hx : Rd w (· < w.heap.size) A (cs intC l)) :
    Calls Tryz.prog 69 #[.slice A n c] w (NewRow w 2 1 (cs intC l) n) := by
  have hx' : Rd (w.alloc (.cells #[] 2)) (· < w.heap.size) A (cs intC l) := hx.keep fun b hb => Below.heap_alloc w _ b hb
  have HX := Lib.hid hx'
  have hl : Hid ((cs intC l).length = n * 1) := by show _ = _; rw [cs_length intC 1 (fun _ => rfl), hn.out]
  have h1 := cs_each int_one l
  have H1 := Lib.hid h1
  clear hx hx' h1
  go_enter Tryz.func69, Tryz.ntmps69
  go_wp2_with (at_builtin; refine wpList_append_rdw rfl (.tmp 3) (.tmp 4) 36 rfl w.heap.size 2 _ 1 8 Tryz.underlying36 info_int64 rfl (by omega) (by omega) _ 0 [] rfl (own_empty (Nat.le_refl _)) _ A n c (cs intC l) rfl hl.out HX.out H1.out (by omega) (by simp) ?_; intro v' w1 hown hbel)
  obtain ⟨B, d, hv, hnd, hrd⟩ := own_form hown.out
  have ho := hown.out
  simp only [Nat.zero_add, List.nil_append] at hv ho hnd
  subst hv
  go_ret
  exact ⟨B, d, rfl, hnd, Lib.hid ho, ((Below.refl _ _).alloc (Nat.le_refl _) _).trans hbel.out⟩
set_option maxRecDepth 100000 in
set_option maxHeartbeats 1000000 in
theorem own_path (w : World) (A : Option Addr) (n c : Nat) (l : List (PathM)) (hn : Hid (n = l.length)) (hN : n ≤ 1000000) (hx : Rd w (· < w.heap.size) A (cs paC l)) :
    Calls Tryz.prog 34 #[.slice A n c] w (NewRow w 31 4 (cs paC l) n) := by
  have hx' : Rd (w.alloc (.cells #[] 31)) (· < w.heap.size) A (cs paC l) := hx.keep fun b hb => Below.heap_alloc w _ b hb
  have HX := Lib.hid hx'
  have hl : Hid ((cs paC l).length = n * 4) := by show _ = _; rw [cs_length paC 4 (fun _ => rfl), hn.out]
  have h1 := cs_each pa_one l
  have H1 := Lib.hid h1
  clear hx hx' h1
  go_enter Tryz.func34, Tryz.ntmps34
  go_wp2_with (at_builtin; refine wpList_append_rdw rfl (.tmp 3) (.tmp 4) 23 rfl w.heap.size 31 _ 4 56 Tryz.underlying23 info_Path rfl (by omega) (by omega) _ 0 [] rfl (own_empty (Nat.le_refl _)) _ A n c (cs paC l) rfl hl.out HX.out H1.out (by omega) (by simp) ?_; intro v' w1 hown hbel)
  obtain ⟨B, d, hv, hnd, hrd⟩ := own_form hown.out
  have ho := hown.out
  simp only [Nat.zero_add, List.nil_append] at hv ho hnd
  subst hv
  go_ret
  exact ⟨B, d, rfl, hnd, Lib.hid ho, ((Below.refl _ _).alloc (Nat.le_refl _) _).trans hbel.out⟩
set_option maxRecDepth 100000 in
set_option maxHeartbeats 1000000 in
theorem own_door (w : World) (A : Option Addr) (n c : Nat) (l : List (DoorM)) (hn : Hid (n = l.length)) (hN : n ≤ 1000000) (hx : Rd w (· < w.heap.size) A (cs doC l)) :
    Calls Tryz.prog 35 #[.slice A n c] w (NewRow w 35 7 (cs doC l) n) := by
  have hx' : Rd (w.alloc (.cells #[] 35)) (· < w.heap.size) A (cs doC l) := hx.keep fun b hb => Below.heap_alloc w _ b hb
  have HX := Lib.hid hx'
  have hl : Hid ((cs doC l).length = n * 7) := by show _ = _; rw [cs_length doC 7 (fun _ => rfl), hn.out]
  have h1 := cs_each do_one l
  have H1 := Lib.hid h1
  clear hx hx' h1
  go_enter Tryz.func35, Tryz.ntmps35
  go_wp2_with (at_builtin; refine wpList_append_rdw rfl (.tmp 3) (.tmp 4) 24 rfl w.heap.size 35 _ 7 80 Tryz.underlying24 info_Door rfl (by omega) (by omega) _ 0 [] rfl (own_empty (Nat.le_refl _)) _ A n c (cs doC l) rfl hl.out HX.out H1.out (by omega) (by simp) ?_; intro v' w1 hown hbel)
  obtain ⟨B, d, hv, hnd, hrd⟩ := own_form hown.out
  have ho := hown.out
  simp only [Nat.zero_add, List.nil_append] at hv ho hnd
  subst hv
  go_ret
  exact ⟨B, d, rfl, hnd, Lib.hid ho, ((Below.refl _ _).alloc (Nat.le_refl _) _).trans hbel.out⟩
set_option maxRecDepth 100000 in
set_option maxHeartbeats 1000000 in
theorem own_trip (w : World) (A : Option Addr) (n c : Nat) (l : List (TripM)) (hn : Hid (n = l.length)) (hN : n ≤ 1000000) (hx : Rd w (· < w.heap.size) A (cs trC l)) :
    Calls Tryz.prog 36 #[.slice A n c] w (NewRow w 40 5 (cs trC l) n) := by
  have hx' : Rd (w.alloc (.cells #[] 40)) (· < w.heap.size) A (cs trC l) := hx.keep fun b hb => Below.heap_alloc w _ b hb
  have HX := Lib.hid hx'
  have hl : Hid ((cs trC l).length = n * 5) := by show _ = _; rw [cs_length trC 5 (fun _ => rfl), hn.out]
  have h1 := cs_each tr_one l
  have H1 := Lib.hid h1
  clear hx hx' h1
  go_enter Tryz.func36, Tryz.ntmps36
  go_wp2_with (at_builtin; refine wpList_append_rdw rfl (.tmp 3) (.tmp 4) 26 rfl w.heap.size 40 _ 5 56 Tryz.underlying26 info_Trip rfl (by omega) (by omega) _ 0 [] rfl (own_empty (Nat.le_refl _)) _ A n c (cs trC l) rfl hl.out HX.out H1.out (by omega) (by simp) ?_; intro v' w1 hown hbel)
  obtain ⟨B, d, hv, hnd, hrd⟩ := own_form hown.out
  have ho := hown.out
  simp only [Nat.zero_add, List.nil_append] at hv ho hnd
  subst hv
  go_ret
  exact ⟨B, d, rfl, hnd, Lib.hid ho, ((Below.refl _ _).alloc (Nat.le_refl _) _).trans hbel.out⟩
set_option maxRecDepth 100000 in
set_option maxHeartbeats 1000000 in
theorem own_haz (w : World) (A : Option Addr) (n c : Nat) (l : List (HazM)) (hn : Hid (n = l.length)) (hN : n ≤ 1000000) (hx : Rd w (· < w.heap.size) A (cs haC l)) :
    Calls Tryz.prog 37 #[.slice A n c] w (NewRow w 42 5 (cs haC l) n) := by
  have hx' : Rd (w.alloc (.cells #[] 42)) (· < w.heap.size) A (cs haC l) := hx.keep fun b hb => Below.heap_alloc w _ b hb
  have HX := Lib.hid hx'
  have hl : Hid ((cs haC l).length = n * 5) := by show _ = _; rw [cs_length haC 5 (fun _ => rfl), hn.out]
  have h1 := cs_each ha_one l
  have H1 := Lib.hid h1
  clear hx hx' h1
  go_enter Tryz.func37, Tryz.ntmps37
  go_wp2_with (at_builtin; refine wpList_append_rdw rfl (.tmp 3) (.tmp 4) 27 rfl w.heap.size 42 _ 5 56 Tryz.underlying27 info_Haz rfl (by omega) (by omega) _ 0 [] rfl (own_empty (Nat.le_refl _)) _ A n c (cs haC l) rfl hl.out HX.out H1.out (by omega) (by simp) ?_; intro v' w1 hown hbel)
  obtain ⟨B, d, hv, hnd, hrd⟩ := own_form hown.out
  have ho := hown.out
  simp only [Nat.zero_add, List.nil_append] at hv ho hnd
  subst hv
  go_ret
  exact ⟨B, d, rfl, hnd, Lib.hid ho, ((Below.refl _ _).alloc (Nat.le_refl _) _).trans hbel.out⟩
end Go.Proofs.YtcmlmfcnbmpajaaGreatDoor.Sh

