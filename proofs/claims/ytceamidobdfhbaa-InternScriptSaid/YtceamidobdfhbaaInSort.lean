/- Package intern's calls: what each answers of a table as it lies, and what it changes; proved by walking their texts, and by the library's contracts. Conditions: the table lies as TabAt says; a name has at most as many bytes as a string can have. -/
import Derived.Test.YtceamidobdfhbaaInCalls
import Derived.Test.YtceamidobdfhbaaShelf
import Derived.Carry
import Derived.Shelf.SlIter.Nil
import Derived.Shelf.SortM.Plain
import Derived.Shelf.SortM.SortNone
import Derived.Shelf.AbstractIn
import Derived.Deep.RegionHeld3
namespace Go.Proofs.Ytceamidobdfhbaa.It
open Go.ChangeShapes Go.WideShapes Go.ChangeAt Go.RowKit Go.Maps
open Lx Sh Go.Sort Go.Shelf
set_option linter.unusedVariables false
set_option linter.unusedSimpArgs false

/-! ### Sorted -/
/-- names sorted byte by byte -/
def srt (L : List Nm) : List Nm := L.mergeSort leB
theorem srt_len (L : List Nm) : (srt L).length = L.length := by unfold srt; exact List.length_mergeSort L
theorem enc_cs (L : List Nm) : L.map Go.Proofs.encStr = cs strC L := by
  induction L with
  | nil => rfl
  | cons x r ih => rw [cs_cons, List.map_cons, ih]; rfl
theorem sortsA (m : Nat) : AnyZ.SortsIn Try.prog Try.sortedA_ren Fence.wide m :=
  ⟨fun blk off cap ss W hH hblk hsz => callsIn_wide.2 (AnyM.slices_Sort_string Try.sortA blk off cap ss W hH hblk hsz),
   fun p cap W => callsIn_wide.2 (AnyM.slices_Sort_string_none Try.sortA p cap W)⟩
theorem keys_perm {D : DataW Unit} {w : World} {b n : Nat} {L : List Nm} (hown : w.ownsMap Try.prog 9 (plainElem Try.prog 3) b n D) (hD : ∀ x, has D (.string x) = decide (x ∈ L)) (hL : L.Nodup) : L.Perm (strKeys D) := by
  obtain ⟨es, e, hk⟩ := hown.keysOf
  obtain ⟨es', e', hp⟩ := hown.tidy lawStr
  subst e
  injection e' with e'
  subst e'
  refine perm_strKeys hp (fun p hp => ?_) hL (fun x => by rw [hD x]; simp)
  obtain ⟨v, hv⟩ := hk p hp
  obtain ⟨x, _, hx, _⟩ := Maps.keyOf_str Try.underlying9 hv
  exact ⟨x, hx⟩
set_option maxRecDepth 100000 in
set_option maxHeartbeats 1000000 in
theorem sorted_any {w : World} {X : Nat → Prop} {T : Nat} {L : List Nm} (h : TabAt w X T L) :
    Calls Try.prog 24 #[.pointer (some ⟨T, 0, none⟩)] w (RowNew w (srt L)) := by
  obtain ⟨m, v, h⟩ := h
  obtain ⟨B, d, rfl, hnd, hrd⟩ := own_form h.row
  have HT := Lib.hid h
  have ff := field_map (some m) (.slice B L.length d)
  have hlen := h.good.2.2
  have hND := Lib.hid h.good.1
  clear h hrd
  refine (callsIn_wide (n := 6)).1 ?_
  have cK : ∀ mb W, CallsIn Fence.wide 5 Try.prog 36 #[.map mb] W fun e w' => e = .returned (.func (.func 46) #[] #[.pointer (some ⟨W.heap.size, 0, none⟩)]) ∧ w' = W.alloc (.cells #[.map mb] 53) := fun mb W => AnyZ.keys_in Try.keysA Fence.wide 5 trivial rfl mb W
  have cS : ∀ W, Below w.heap.size w W → CallsIn Fence.wide 5 Try.prog 35 #[.func (.func 46) #[] #[.pointer (some ⟨W.heap.size, 0, none⟩)]] (W.alloc (.cells #[.map (some m)] 53)) fun e w' => ∃ (v : Value) (ss : List (List UInt8)), e = .returned v ∧ L.Perm ss ∧ Hid (w'.ownsRow (W.heap.size + 1) 9 1 v ss.length ((ss.mergeSort (fun x y => decide (x ≤ y))).map Go.Proofs.encStr)) ∧ Hid (Below (W.heap.size + 1) (W.alloc (.cells #[.map (some m)] 53)) w') := by
    intro W hW
    obtain ⟨D, hown, hD, -⟩ := HT.out.map.keep (hW.block _ HT.out.map.lt)
    have hsz := hown.size_le
    have hseq : SeqGives Fence.wide 2 Try.prog 46 #[.pointer (some ⟨W.heap.size, 0, none⟩)] Go.Proofs.encStr (fun ss => ss.Perm (strKeys D)) (Maps.size D) (W.alloc (.cells #[.map (some m)] 53)) :=
      AnyZ.keys_gives (ρ := Try.keysA_ren) { Try.keysA with } Fence.wide _ trivial rfl (by omega) W.heap.size m _ D _ (by simp) (by simp) (hown.alloc _)
    have c := AnyZ.sorted_in Try.sortedA Fence.wide 5 trivial trivial trivial trivial rfl (by omega) (sortsA _) (enters_of Try.func45 (by kernel_rfl) rfl) 46 #[.pointer (some ⟨W.heap.size, 0, none⟩)] trivial (enters_of Try.func46 (by kernel_rfl) rfl) _ _ (by have := maxLen_big; omega) (by omega) _ hseq
    change CallsIn _ _ Try.prog 35 _ _ _ at c
    refine c.mono ?_
    rintro e w' ⟨v, ss, he, hS, hrow, -, hb⟩
    rw [World.size_alloc] at hrow hb
    exact ⟨v, ss, he, (keys_perm hown hD hND.out).trans hS.symm, Lib.hid hrow, Lib.hid hb⟩
  have hf1 : Fence.wide.fn 32 := trivial
  have hf2 : Fence.wide.fn 36 := trivial
  have hf3 : Fence.wide.fn 35 := trivial
  refine callsIn_of_wp Try.func24 rfl trivial ?_ rfl
  simp only [Try.ntmps24, List.size_toArray, List.length_cons, List.length_nil, Nat.reduceAdd, Nat.reduceSub, Array.replicate_succ, Array.replicate_zero, List.push_toArray, List.append_toArray, List.nil_append, List.cons_append]
  gi_wp2_with (first
    | (gi_at_call 32; refine (callsIn_wide.2 (known_any HT.out)).mono ?_; rintro e w1 ⟨rfl, hb1⟩)
    | (gi_at_call 36; refine (cK _ _).mono ?_; rintro e w2 ⟨rfl, rfl⟩)
    | (gi_at_call 35; refine (cS w1 hb1.out).mono ?_; rintro e w3 ⟨v, ss, rfl, hS, hrow, hb3⟩))
  go_ret
  have e1 : ss.length = (srt L).length := by rw [srt_len, hS.length_eq]
  have e2 : (ss.mergeSort (fun x y => decide (x ≤ y))).map Go.Proofs.encStr = cs strC (srt L) := by
    rw [enc_cs]; unfold srt; exact congrArg (cs strC) (mergeSort_of_perm hS).symm
  have ho := hrow.out
  rw [e1, e2] at ho
  obtain ⟨A, c, rfl, -, -⟩ := own_form ho
  have hs1 := hb1.out.size
  refine ⟨A, c, rfl, Lib.hid (own_base ho (by omega)), Lib.hid (hb1.out.trans ?_)⟩
  exact (((one_box w1 _).mono hs1)).trans (hb3.out.mono (by omega))
set_option maxRecDepth 100000 in
set_option maxHeartbeats 1000000 in
theorem sorted_nil (w : World) : Calls Try.prog 24 #[.pointer none] w (RowNew w []) := by
  have ff := field_map none (.slice none 0 0)
  refine (callsIn_wide (n := 6)).1 ?_
  have cK : ∀ mb W, CallsIn Fence.wide 5 Try.prog 36 #[.map mb] W fun e w' => e = .returned (.func (.func 46) #[] #[.pointer (some ⟨W.heap.size, 0, none⟩)]) ∧ w' = W.alloc (.cells #[.map mb] 53) := fun mb W => AnyZ.keys_in Try.keysA Fence.wide 5 trivial rfl mb W
  have cS : ∀ W : World, CallsIn Fence.wide 5 Try.prog 35 #[.func (.func 46) #[] #[.pointer (some ⟨W.heap.size, 0, none⟩)]] (W.alloc (.cells #[.map none] 53)) fun e w' => e = .returned (.slice none 0 0) ∧ Hid (Below (W.heap.size + 1) (W.alloc (.cells #[.map none] 53)) w') := by
    intro W
    have hseq : SeqGives Fence.wide 2 Try.prog 46 #[.pointer (some ⟨W.heap.size, 0, none⟩)] Go.Proofs.encStr (fun ss : List (List UInt8) => ss = []) 0 (W.alloc (.cells #[.map none] 53)) :=
      AnyZ.keys_gives_nil (ρ := Try.keysA_ren) { Try.keysA with } Fence.wide _ trivial rfl W.heap.size _ (by simp) (by simp)
    have c := AnyZ.sorted_in Try.sortedA Fence.wide 5 trivial trivial trivial trivial rfl (by omega) (sortsA _) (enters_of Try.func45 (by kernel_rfl) rfl) 46 #[.pointer (some ⟨W.heap.size, 0, none⟩)] trivial (enters_of Try.func46 (by kernel_rfl) rfl) _ 0 (Nat.zero_le _) (by omega) _ hseq
    change CallsIn _ _ Try.prog 35 _ _ _ at c
    refine c.mono ?_
    rintro e w' ⟨v, ss, rfl, rfl, hrow, hnil, hb⟩
    obtain rfl : v = .slice none 0 0 := hnil.2 rfl
    rw [World.size_alloc] at hb
    exact ⟨rfl, Lib.hid hb⟩
  have hf1 : Fence.wide.fn 32 := trivial
  have hf2 : Fence.wide.fn 36 := trivial
  have hf3 : Fence.wide.fn 35 := trivial
  refine callsIn_of_wp Try.func24 rfl trivial ?_ rfl
  simp only [Try.ntmps24, List.size_toArray, List.length_cons, List.length_nil, Nat.reduceAdd, Nat.reduceSub, Array.replicate_succ, Array.replicate_zero, List.push_toArray, List.append_toArray, List.nil_append, List.cons_append]
  gi_wp2_with (first
    | (gi_at_call 32; refine (callsIn_wide.2 (known_nil _)).mono ?_; rintro e w1 ⟨rfl, hb1⟩)
    | (gi_at_call 36; refine (cK _ _).mono ?_; rintro e w2 ⟨rfl, rfl⟩)
    | (gi_at_call 35; refine (cS w1).mono ?_; rintro e w3 ⟨rfl, hb3⟩))
  go_ret
  have hs1 := hb1.out.size
  exact ⟨none, 0, rfl, Lib.hid (World.ownsRow_nil _ _ _ _), Lib.hid (hb1.out.trans (((one_box w1 _).mono hs1).trans (hb3.out.mono (by omega))))⟩
/-! ### Clone -/
/-- a copy of what a table has -/
def Copied (w : World) (L : List Nm) (e : Ending) (w' : World) : Prop :=
  ∃ m A c, e = .returned (.agg #[.map (some m), .slice A L.length c]) ∧ w.heap.size ≤ m ∧ Hid (MapAt w' m L) ∧ Hid (w'.ownsRow w.heap.size 9 1 (.slice A L.length c) L.length (cs strC L)) ∧ Hid (Below w.heap.size w w')
theorem mapsClone {w : World} {m : Nat} {L : List Nm} (h : MapAt w m L) :
    Calls Try.prog 43 #[.map (some m)] w fun e w' => e = .returned (.map (some w.heap.size)) ∧ Hid (MapAt w' w.heap.size L) ∧ Hid (Below w.heap.size w w') := by
  obtain ⟨D, hown, h1, h2⟩ := h
  refine (AnyW.maps_Clone_owns Try.cloneM 9 _ m _ D w hown).mono ?_
  rintro e w' ⟨rfl, ho, -, hb⟩
  exact ⟨rfl, Lib.hid ⟨D, ho, h1, h2⟩, Lib.hid hb⟩
set_option maxRecDepth 100000 in
set_option maxHeartbeats 1000000 in
theorem copied_any {w : World} {X : Nat → Prop} {T : Nat} {L : List Nm} (h : TabAt w X T L) :
    Calls Try.prog 33 #[.pointer (some ⟨T, 0, none⟩)] w (Copied w L) := by
  obtain ⟨m, v, h⟩ := h
  obtain ⟨B, d, rfl, hnd, hrd⟩ := own_form h.row
  have HT := Lib.hid h
  have hlen := h.good.2.2
  have HK : ∀ W, Hid (Below w.heap.size w W) → Hid (Tab W X T m (.slice B L.length d) L) := fun W hW => Lib.hid (HT.out.keep (fun k hk => hW.out.block k (HT.out.lt k hk)) hW.out.size)
  clear h hrd
  go_enter Try.func33, Try.ntmps33
  go_wp2_with (fail)
  have hB1 := one_box w (.cells #[.map none, .slice none 0 0] 55)
  have hK1 : Blk (w.alloc (.cells #[.map none, .slice none 0 0] 55)) w.heap.size 55 [.map none, .slice none 0 0] := Blk.new _ _ _
  generalize w.alloc (.cells #[.map none, .slice none 0 0] 55) = w1 at hB1 hK1 ⊢
  have B1 := Lib.hid hB1
  have K1 := Lib.hid hK1
  have hlt : w.heap.size < w1.heap.size := hK1.lt
  have KM : Hid (∀ V, Below w1.heap.size w1 V → Tab V X T m (.slice B L.length d) L) := Lib.hid (fun V hV => (HK V (Lib.hid (B1.out.trans (hV.mono (by omega))))).out)
  have KW : Hid (∀ V, Below w.heap.size w V → V.cell? ⟨T, 0, none⟩ = some (.map (some m)) ∧ V.cell? ⟨T, 1, none⟩ = some (.slice B L.length d)) := Lib.hid (fun V hV => ⟨(HT.out.keep (fun k hk => hV.block k (HT.out.lt k hk)) hV.size).blk.cell 0, (HT.out.keep (fun k hk => hV.block k (HT.out.lt k hk)) hV.size).blk.cell 1⟩)
  have KC : Hid (∀ V, Below w1.heap.size w1 V → V.cell? ⟨T, 0, none⟩ = some (.map (some m)) ∧ V.cell? ⟨T, 1, none⟩ = some (.slice B L.length d)) := Lib.hid (fun V hV => ⟨(KM.out V hV).blk.cell 0, (KM.out V hV).blk.cell 1⟩)
  clear hB1 hK1 HK
  go_region_held3 (fun w' => w'.cell? ⟨T, 0, none⟩ = some (.map (some m)) ∧ w'.cell? ⟨T, 1, none⟩ = some (.slice B L.length d)) (first | exact KW.out _ ((W2.out.setCell (Nat.le_refl _) _).setCell (Nat.le_refl _) _) | exact KC.out _ Q2.out | exact KC.out _ Q1.out | exact KC.out _ (below_drew (Below.refl _ _)) | exact KC.out _ (below_drewN (Below.refl _ _) _) | go_keep) (first | (go_at_call 34; refine (rowsClone (KM.out _ Q1.out).row (by omega)).mono ?_; rintro e w3 ⟨A, c, rfl, ho3, hb3⟩; have Q2 := Lib.hid (keep_trans Q1.out hb3.out); have W2 := Lib.hid (B1.out.trans (Q2.out.mono (Nat.le_of_lt hlt))); have kb := Lib.hid (K1.out.after Q2.out); have b0 : w3.cell? ⟨w.heap.size, 0, none⟩ = some (.map none) := kb.out.cell 0; have b1 : w3.cell? ⟨w.heap.size, 1, none⟩ = some (.slice none 0 0) := kb.out.cell 1; have f0 : w3.frozen? ⟨w.heap.size, 0, none⟩ = false := kb.out.frozen 0; have f1 : w3.frozen? ⟨w.heap.size, 1, none⟩ = false := kb.out.frozen 1) | (go_at_call 43; refine (mapsClone (KM.out _ (by first | exact below_drew (Below.refl _ _) | exact below_drewN (Below.refl _ _) _ | exact Below.refl _ _)).map).mono ?_; rintro e w2 ⟨rfl, hm2, hb2⟩; have Q1 : Hid (Below w1.heap.size w1 w2) := Lib.hid (keep_trans (by first | exact below_drew (Below.refl _ _) | exact below_drewN (Below.refl _ _) _ | exact Below.refl _ _) hb2.out)))
  have K5 : Blk ((w3.setCell ⟨w.heap.size, 0, none⟩ (.map (some w1.heap.size))).setCell ⟨w.heap.size, 1, none⟩ (.slice A L.length c)) w.heap.size 55 [.map (some w1.heap.size), .slice A L.length c] := (kb.out.set_ 0 _).set_ 1 _
  have c5 : Ch (· = w.heap.size) w3 ((w3.setCell ⟨w.heap.size, 0, none⟩ (.map (some w1.heap.size))).setCell ⟨w.heap.size, 1, none⟩ (.slice A L.length c)) := (ch_set w3 w.heap.size 0 _).trans (ch_set _ w.heap.size 1 _)
  have b5 : Below w.heap.size w ((w3.setCell ⟨w.heap.size, 0, none⟩ (.map (some w1.heap.size))).setCell ⟨w.heap.size, 1, none⟩ (.slice A L.length c)) := (W2.out.setCell (Nat.le_refl _) _).setCell (Nat.le_refl _) _
  generalize (w3.setCell ⟨w.heap.size, 0, none⟩ (.map (some w1.heap.size))).setCell ⟨w.heap.size, 1, none⟩ (.slice A L.length c) = w5 at K5 c5 b5 ⊢
  have hs2 := Q1.out.size
  have m3 : MapAt w3 w1.heap.size L := hm2.out.keep (hb3.out.block _ hm2.out.lt)
  have m5 : MapAt w5 w1.heap.size L := m3.keep (c5.block _ m3.lt (by omega))
  have r5 : w5.ownsRow w.heap.size 9 1 (.slice A L.length c) L.length (cs strC L) := own_base (c5.own ho3.out (fun k hk e => by
    have := (ho3.out.lt k hk).1
    have e' : k = w.heap.size := e
    omega)) (by omega)
  go_wp2
  refine bodyPost_ret (results_cell_row rfl _ _ w.heap.size 55 #[.map (some w1.heap.size), .slice A L.length c] (0, 0) _ rfl K5 Try.underlying55 rfl (by kernel_rfl)) rfl ?_
  exact ⟨w1.heap.size, A, c, rfl, Nat.le_of_lt hlt, Lib.hid m5, Lib.hid r5, Lib.hid b5⟩
/-- what was made since w -/
def Fresh (w w' : World) (k : Nat) : Prop := w.heap.size ≤ k ∧ k < w'.heap.size
/-- a table of L in new memory -/
def NewTab (w : World) (L : List Nm) (T : Nat) (w' : World) : Prop := Hid (TabAt w' (Fresh w w') T L) ∧ Hid (Below w.heap.size w w')
theorem tab_made {w w' w1 : World} {m c T : Nat} {A : Option Addr} {L : List Nm} (hg : Good L) (hm : MapAt w1 m L) (hmw : w.heap.size ≤ m) (hr : w1.ownsRow w.heap.size 9 1 (.slice A L.length c) L.length (cs strC L)) (b1 : Below w.heap.size w w1)
    (hT : w1.heap.size ≤ T) (hk : Blk w' T 57 (tabC m (.slice A L.length c) T)) (b2 : Below w1.heap.size w1 w') : NewTab w L T w' := by
  have h1 := b1.size
  have h2 := b2.size
  have h3 := hm.lt
  refine ⟨Lib.hid ⟨m, _, ⟨by omega, hk.lt⟩, ⟨hmw, by omega⟩, fun k hk' => ?_, fun k hk' => hk'.2, hk, hm.keep (b2.block _ h3), own_base (own_after hr b2) (Nat.zero_le _), hg⟩, Lib.hid (b1.trans (b2.mono h1))⟩
  have := hr.lt k hk'
  exact ⟨this.1, by omega⟩
set_option maxRecDepth 100000 in
set_option maxHeartbeats 1000000 in
theorem clone_any {w : World} {X : Nat → Prop} {T : Nat} {L : List Nm} (h : TabAt w X T L) :
    Calls Try.prog 17 #[.pointer (some ⟨T, 0, none⟩)] w fun e w' => ∃ T', e = .returned (.pointer (some ⟨T', 0, none⟩)) ∧ NewTab w L T' w' := by
  have H := Lib.hid h
  have HG := Lib.hid h.good
  clear h
  go_enter Try.func17, Try.ntmps17
  go_wp2_with (first
    | (go_at_call 29; refine (made_any H.out).mono ?_; rintro e w1 ⟨rfl, rfl⟩)
    | (go_at_call 33; refine (copied_any H.out).mono ?_; rintro e w1 ⟨m, A, c, rfl, hmw, hm, hr, hb1⟩)
    | (go_at_call 28; refine (table_any m A L.length c w1).mono ?_; rintro e w2 ⟨rfl, hk2, hb2, hs2⟩))
  go_ret
  exact ⟨_, rfl, tab_made HG.out hm.out hmw hr.out hb1.out (Nat.le_succ _) hk2.out hb2⟩
theorem clone_nil (w : World) : Calls Try.prog 17 #[.pointer none] w fun e w' => e = .returned (.pointer none) ∧ w = w' := by
  go_enter Try.func17, Try.ntmps17
  go_wp2_with (go_at_call 29; refine (made_nil _).mono ?_; rintro e w1 ⟨rfl, rfl⟩)
  go_ret
  exact ⟨rfl, rfl⟩
end Go.Proofs.Ytceamidobdfhbaa.It
