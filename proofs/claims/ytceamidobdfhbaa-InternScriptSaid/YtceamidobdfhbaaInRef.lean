/- Package intern's calls: what each answers of a table as it lies, and what it changes; proved by walking their texts, and by the library's contracts. Conditions: the table lies as TabAt says; a name has at most as many bytes as a string can have. -/
import Derived.Test.YtceamidobdfhbaaInBothMath
import Derived.Test.YtceamidobdfhbaaShelf
import Derived.Carry
namespace Go.Proofs.Ytceamidobdfhbaa.It
open Go.ChangeShapes Go.WideShapes Go.ChangeAt Go.RowKit Go.Maps
open Lx Sh
set_option linter.unusedVariables false
set_option linter.unusedSimpArgs false

/-- the document's table of the names L: in block T, its row v, all of it in blocks of X -/
structure Ref (w : World) (X : Nat → Prop) (T : Nat) (v : Value) (L : List Nm) : Prop where
  xT : X T
  xv : ∀ k, v.ownBlock = some k → X k
  lt : ∀ k, X k → k < w.heap.size
  blk : Blk w T 43 [v]
  row : w.ownsRow 0 9 1 v L.length (cs strC L)
  good : Good L
def RefAt (w : World) (X : Nat → Prop) (T : Nat) (L : List Nm) : Prop := ∃ v, Ref w X T v L
section
variable {X Y : Nat → Prop} {w w' : World} {T : Nat} {v : Value} {L : List Nm}
theorem Ref.keep (h : Ref w X T v L) (hk : ∀ k, X k → w'.heap[k]? = w.heap[k]?) (hs : w.heap.size ≤ w'.heap.size) : Ref w' X T v L := by
  refine ⟨h.xT, h.xv, fun k hx => Nat.lt_of_lt_of_le (h.lt k hx) hs, (hk _ h.xT).trans h.blk, ⟨h.row.1, ?_⟩, h.good⟩
  rcases h.row.2 with hn | ⟨g, cap, cur, rfl, hb, hg, rest⟩
  · exact .inl hn
  · exact .inr ⟨g, cap, cur, rfl, hb, (hk g (h.xv g rfl)).trans hg, rest⟩
theorem RefAt.after (h : RefAt w X T L) (hb : Below w.heap.size w w') : RefAt w' X T L := by
  obtain ⟨v, h⟩ := h; exact ⟨v, h.keep (fun k hx => hb.block k (h.lt k hx)) hb.size⟩
theorem RefAt.far (h : RefAt w X T L) (hc : Ch Y w w') (hd : ∀ k, X k → ¬ Y k) : RefAt w' X T L := by
  obtain ⟨v, h⟩ := h; exact ⟨v, h.keep (fun k hx => hc.block k (h.lt k hx) (hd k hx)) hc.size⟩
theorem RefAt.lt (h : RefAt w X T L) : ∀ k, X k → k < w.heap.size := by obtain ⟨v, h⟩ := h; exact h.lt
theorem RefAt.good (h : RefAt w X T L) : Good L := by obtain ⟨v, h⟩ := h; exact h.good
theorem RefAt.more (h : RefAt w X T L) (hy : ∀ k, X k → Y k) (hlt : ∀ k, Y k → k < w.heap.size) : RefAt w Y T L := by
  obtain ⟨v, h⟩ := h
  exact ⟨v, hy _ h.xT, fun k hk => hy _ (h.xv k hk), hlt, h.blk, h.row, h.good⟩
end
theorem nodup_at {L : List Nm} (h : L.Nodup) {i j : Nat} {x : Nm} (hi : L[i]? = some x) (hj : L[j]? = some x) : i = j := by
  obtain ⟨a1, b1⟩ := List.getElem?_eq_some_iff.1 hi
  obtain ⟨a2, b2⟩ := List.getElem?_eq_some_iff.1 hj
  rcases Nat.lt_trichotomy i j with hlt | heq | hlt
  · exact absurd (b1.trans b2.symm) (List.pairwise_iff_getElem.1 h i j a1 a2 hlt)
  · exact heq
  · exact absurd (b2.trans b1.symm) (List.pairwise_iff_getElem.1 h j i a2 a1 hlt)
theorem eq_no {x y : Nm} (h : y ≠ x) : (y == x) = false := by simpa using h
set_option maxRecDepth 100000 in
set_option maxHeartbeats 1000000 in
theorem rnum_out {w : World} {X : Nat → Prop} {T : Nat} {L : List Nm} (h : RefAt w X T L) (x : Nm) (hx : x ∉ L) :
    Calls Try.prog 20 #[.pointer (some ⟨T, 0, none⟩), .string ⟨x.toArray⟩] w (NumPost w 0 false) := by
  obtain ⟨v, h⟩ := h
  obtain ⟨B, d, rfl, hnd, hrd⟩ := own_form h.row
  have H := Lib.hid h
  have hlen := h.good.2.2
  have HR := Lib.hid hrd
  obtain ⟨n, hn⟩ : ∃ n, n = L.length := ⟨_, rfl⟩
  have HN : Hid (n = L.length) := Lib.hid hn
  have c0 : ∀ W, Below w.heap.size w W → W.cell? ⟨T, 0, none⟩ = some (.slice B n d) := fun W hW => by rw [hn]; exact (h.blk.after hW).cell 0
  have C0 := Lib.hid c0
  clear h hnd hrd c0
  go_enter Try.func20, Try.ntmps20
  go_wp2
  go_loopw [6] (fun v wr => ∃ j : Nat, v = .int .i64 (j : Int) ∧ j ≤ n ∧ Hid (Below w.heap.size w wr)) (fun v _ => n - (intOf v).toNat)
  case atStart => exact ⟨0, rfl, by omega, Lib.hid (Below.refl _ _)⟩
  case round =>
    obtain ⟨j, rfl, hj, HB⟩ := hrel
    have c0 := C0.out _ HB.out
    by_cases hlt : j < n
    · have hj1 : (j : Int) < (n : Int) := by omega
      obtain ⟨y, hy⟩ := at_in L HN hlt
      obtain ⟨sd, e, hSd, d0, -⟩ := rd_at 1 (fun _ => rfl) (by omega) (HR.out.keep (fun b hb => HB.out.block b hb.2)) hy
      subst e
      rw [Nat.mul_one] at d0
      have d1 : wr.cell? (sd.add j) = some (.string ⟨y.toArray⟩) := d0
      have hne : (y == x) = false := eq_no (fun e => hx (by rw [← e]; exact List.mem_of_getElem? hy))
      have hqy : ((⟨y.toArray⟩ : ByteArray).toList == (⟨x.toArray⟩ : ByteArray).toList) = false := by rw [toList_arr]; exact hne
      clear d0 hy hSd
      go_wp2
      exact ⟨⟨j + 1, by go_num, by omega, HB⟩, by simp [intOf]; omega⟩
    · have hj1 : ¬ ((j : Int) < (n : Int)) := by omega
      go_wp2
      go_ret2
      exact ⟨rfl, HB⟩
set_option maxRecDepth 100000 in
set_option maxHeartbeats 1000000 in
theorem rnum_in {w : World} {X : Nat → Prop} {T : Nat} {L : List Nm} (h : RefAt w X T L) (x : Nm) (i : Nat) (hx : L[i]? = some x) :
    Calls Try.prog 20 #[.pointer (some ⟨T, 0, none⟩), .string ⟨x.toArray⟩] w (NumPost w (i : Nat) true) := by
  obtain ⟨v, h⟩ := h
  obtain ⟨B, d, rfl, hnd, hrd⟩ := own_form h.row
  have hlen := h.good.2.2
  have HG := Lib.hid h.good.1
  have HX := Lib.hid hx
  have HR := Lib.hid hrd
  have hi : i < L.length := (List.getElem?_eq_some_iff.1 hx).1
  obtain ⟨n, hn⟩ : ∃ n, n = L.length := ⟨_, rfl⟩
  have HN : Hid (n = L.length) := Lib.hid hn
  have c0 : ∀ W, Below w.heap.size w W → W.cell? ⟨T, 0, none⟩ = some (.slice B n d) := fun W hW => by rw [hn]; exact (h.blk.after hW).cell 0
  have C0 := Lib.hid c0
  rw [← hn] at hi
  clear h hnd hrd c0 hx
  go_enter Try.func20, Try.ntmps20
  go_wp2
  go_loopw [6] (fun v wr => ∃ j : Nat, v = .int .i64 (j : Int) ∧ j ≤ i ∧ Hid (Below w.heap.size w wr)) (fun v _ => n - (intOf v).toNat)
  case atStart => exact ⟨0, rfl, by omega, Lib.hid (Below.refl _ _)⟩
  case round =>
    obtain ⟨j, rfl, hj, HB⟩ := hrel
    have c0 := C0.out _ HB.out
    have hlt : j < n := by omega
    have hj1 : (j : Int) < (n : Int) := by omega
    obtain ⟨y, hy⟩ := at_in L HN hlt
    obtain ⟨sd, e, hSd, d0, -⟩ := rd_at 1 (fun _ => rfl) (by omega) (HR.out.keep (fun b hb => HB.out.block b hb.2)) hy
    subst e
    rw [Nat.mul_one] at d0
    have d1 : wr.cell? (sd.add j) = some (.string ⟨y.toArray⟩) := d0
    by_cases hji : j = i
    · have hyx : y = x := by
        have := HX.out
        rw [← hji, hy] at this
        exact Option.some.inj this
      subst hyx
      have hqy : ((⟨y.toArray⟩ : ByteArray).toList == (⟨y.toArray⟩ : ByteArray).toList) = true := by rw [toList_arr]; simp
      have HJ := Lib.hid hji
      clear d0 hy hSd hji
      go_wp2
      go_ret2
      exact ⟨by rw [← HJ.out]; rfl, HB⟩
    · have hne : (y == x) = false := eq_no (fun e => hji (nodup_at HG.out hy (by rw [e]; exact HX.out)))
      have hqy : ((⟨y.toArray⟩ : ByteArray).toList == (⟨x.toArray⟩ : ByteArray).toList) = false := by rw [toList_arr]; exact hne
      clear d0 hy hSd
      go_wp2
      exact ⟨⟨j + 1, by go_num, by omega, HB⟩, by simp [intOf]; omega⟩
set_option maxRecDepth 100000 in
set_option maxHeartbeats 1000000 in
theorem rname_in {w : World} {X : Nat → Prop} {T : Nat} {L : List Nm} (h : RefAt w X T L) (i : Nat) (x : Nm) (hx : L[i]? = some x) :
    Calls Try.prog 21 #[.pointer (some ⟨T, 0, none⟩), .int .i64 (i : Nat)] w (NamPost w ⟨x.toArray⟩ true) := by
  obtain ⟨v, h⟩ := h
  obtain ⟨B, d, rfl, hnd, hrd⟩ := own_form h.row
  have hi : i < L.length := (List.getElem?_eq_some_iff.1 hx).1
  have hl := h.good.2.2
  obtain ⟨ad, e, hab, hc⟩ := hrd (by rw [cs_length strC 1 (fun _ => rfl)]; omega)
  have hcell : w.cell? (ad.add i) = some (.string ⟨x.toArray⟩) := hc i _ (str_at hx)
  subst e
  have c0 : w.cell? ⟨T, 0, none⟩ = some (.slice (some ad) L.length d) := h.blk.cell 0
  clear h hrd hc hab hx
  have c1 : decide ((i : Int) < 0) = false := decide_eq_false (by omega)
  have c2 : decide ((L.length : Int) ≤ (i : Int)) = false := decide_eq_false (by omega)
  go_enter Try.func21, Try.ntmps21
  go_wp2
  go_ret2
  exact ⟨rfl, Lib.hid (Below.refl _ _)⟩
set_option maxRecDepth 100000 in
set_option maxHeartbeats 1000000 in
theorem rname_out {w : World} {X : Nat → Prop} {T : Nat} {L : List Nm} (h : RefAt w X T L) (i : Int) (hx : i < 0 ∨ (L.length : Int) ≤ i) :
    Calls Try.prog 21 #[.pointer (some ⟨T, 0, none⟩), .int .i64 i] w (NamPost w ⟨#[]⟩ false) := by
  obtain ⟨v, h⟩ := h
  obtain ⟨B, d, rfl, hnd, hrd⟩ := own_form h.row
  have c0 : w.cell? ⟨T, 0, none⟩ = some (.slice B L.length d) := h.blk.cell 0
  clear h hrd
  by_cases c1 : i < 0
  · have c1' : decide (i < 0) = true := decide_eq_true c1
    go_enter Try.func21, Try.ntmps21
    go_wp2
    go_ret2
    exact ⟨rfl, Lib.hid (Below.refl _ _)⟩
  · have c1' : decide (i < 0) = false := decide_eq_false (by omega)
    have c2 : decide ((L.length : Int) ≤ i) = true := decide_eq_true (by omega)
    go_enter Try.func21, Try.ntmps21
    go_wp2
    go_ret2
    exact ⟨rfl, Lib.hid (Below.refl _ _)⟩
/-- what the document's Add leaves -/
def RAddPost (w : World) (X : Nat → Prop) (T : Nat) (L : List Nm) (x : Nm) (e : Ending) (w' : World) : Prop :=
  e = .returned (.tuple #[.int .i64 (addN L x : Nat), .int .i64 (addE L x : Nat)]) ∧ Hid (RefAt w' (Grow X w w') T (addL L x)) ∧ Hid (Ch X w w')
theorem radd_same {w w1 : World} {X : Nat → Prop} {T : Nat} {L : List Nm} {x : Nm} (h : RefAt w X T L) (hE : addE L x ≠ 0) (b : Below w.heap.size w w1) (n : Int) (hn : n = (addE L x : Nat)) : RAddPost w X T L x (.returned (.tuple #[.int .i64 0, .int .i64 n])) w1 := by
  refine ⟨?_, Lib.hid ?_, Lib.hid (.of_below b)⟩
  · unfold addN; rw [if_neg hE, hn]; rfl
  · unfold addL; rw [if_neg hE]
    exact (h.after b).more (fun k hk => .inl hk) (grow_lt h.lt b.size)
theorem radd_fin {w w2 w3 : World} {o : Obj} {X : Nat → Prop} {T : Nat} {v v3 : Value} {L : List Nm} {x : Nm} (h : Ref w X T v L) (b2 : Below w.heap.size w w2) (k3 : Blk w3 T 43 [v])
    (r3 : w3.ownsRow 0 9 1 v3 (L.length + 1) (cs strC L ++ strC x)) (g3 : (w2.alloc o).grownBy w3 v.ownBlock) (e3 : v3.ownBlock = v.ownBlock ∨ v3.ownBlock = some (w2.alloc o).heap.size) (hg : Good (L ++ [x])) :
    RefAt (w3.setCell ⟨T, 0, none⟩ v3) (Grow X w (w3.setCell ⟨T, 0, none⟩ v3)) T (L ++ [x]) ∧ Ch X w (w3.setCell ⟨T, 0, none⟩ v3) := by
  have s4 : (w3.setCell ⟨T, 0, none⟩ v3).heap.size = w3.heap.size := by simp [World.setCell]
  have hs2 := b2.size
  have hs3 := g3.size
  rw [World.size_alloc] at hs3
  have hc2 : Ch X w w2 := .of_below b2
  have hc3 : Ch X w w3 := (hc2.alloc o).trans' (.of_grown g3 (X := fun k => v.ownBlock = some k) (fun k e => e.symm)) (fun i _ e => h.xv i e)
  have hc4 := hc3.setCell (p := ⟨T, 0, none⟩) (.inl h.xT) v3
  have hr4 : (w3.setCell ⟨T, 0, none⟩ v3).ownsRow 0 9 1 v3 (L.length + 1) (cs strC L ++ strC x) := (ch_set w3 T 0 v3).own r3 (fun k hk e => own_ne_blk r3 k3 (by decide) k hk e)
  refine ⟨⟨v3, .inl h.xT, fun k hk => ?_, fun k hk => ?_, k3.set_ 0 v3, ?_, hg⟩, hc4⟩
  · rcases e3 with e | e
    · exact .inl (h.xv k (by rw [← e]; exact hk))
    · have hlt := (hr4.lt k hk).2
      rw [e, World.size_alloc] at hk
      injection hk with hk
      exact .inr ⟨by omega, hlt⟩
  · rcases hk with hk | hk
    · have := h.lt k hk; omega
    · exact hk.2
  · rw [List.length_append, List.length_singleton]
    have e : cs strC (L ++ [x]) = cs strC L ++ strC x := by simp [cs]
    rw [e]; exact hr4
set_option maxRecDepth 100000 in
set_option maxHeartbeats 1000000 in
theorem radd_any {w : World} {X : Nat → Prop} {T : Nat} {L : List Nm} (h : RefAt w X T L) (x : Nm) :
    Calls Try.prog 19 #[.pointer (some ⟨T, 0, none⟩), .string ⟨x.toArray⟩] w (RAddPost w X T L x) := by
  have H := Lib.hid h
  rcases add_cases L x with ⟨h0, h1, h2, h3⟩ | ⟨h0, h1⟩ | ⟨h0, h1, h2⟩ | ⟨h0, h1, h2, h3⟩
  · obtain ⟨v, h⟩ := h
    obtain ⟨B, d, rfl, hnd, hrd⟩ := own_form h.row
    have HT := Lib.hid h
    have HGx : Hid (Good (L ++ [x])) := Lib.hid (by
      have := h.good.add x
      unfold addL at this
      rwa [if_pos h0] at this)
    have H1 := Lib.hid h1
    have H0 := Lib.hid h0
    have H2 := Lib.hid h2
    have c : ((L.length : Nat) : Int) < 4096 := by omega
    have cc : decide ((4096 : Int) ≤ (L.length : Nat)) = false := decide_eq_false (by omega)
    have hlen : L.length ≤ 4096 := h.good.2.2
    clear h hnd hrd h0 h1 h2
    go_enter Try.func19, Try.ntmps19
    go_wp2_with (first
      | (go_at_call 26; refine (refname_any _ _).mono ?_; rintro e w1 ⟨rfl, hb1⟩; rw [show nameB (⟨x.toArray⟩ : ByteArray).data.toList = true from H1.out]; have B1 := Lib.hid hb1; clear hb1)
      | (go_at_call 20; refine (rnum_out (H.out.after B1.out) x H2.out).mono ?_; rintro e w2 ⟨rfl, hb2⟩
         have B2 := Lib.hid (keep_trans B1.out hb2.out)
         have K2 := Lib.hid (HT.out.blk.after B2.out)
         have R2 := Lib.hid (own_after HT.out.row B2.out)
         have c0 : w2.cell? ⟨T, 0, none⟩ = some (.slice B L.length d) := K2.out.cell 0)
      | (at_builtin; refine wpList_append_ch rfl (.tmp 28) (.tmp 30) 26 rfl 0 9 _ 1 16 Try.underlying26 info_Str rfl (by omega) (by omega) (.slice B L.length d) L.length (cs strC L) rfl (R2.out.alloc _) (fun _ => True) (some ⟨w2.heap.size, 0, none⟩) 1 1 (strC x) rfl rfl ((lit_at w2 _ _ _ (strC x) rfl rfl).more (fun _ _ => trivial)) (str_one x) (by omega) (Nat.zero_le _) ?_; intro v3 w3 hown3 hg3 hv3
         have K3 : Hid (Blk w3 T 43 [.slice B L.length d]) := Lib.hid ((K2.out.alloc _).grown hg3.out (fun e => own_ne_blk R2.out K2.out (by decide) T e.symm rfl))
         obtain ⟨B3, d3, e3, hn3, hr3⟩ := own_form hown3.out
         subst e3
         have f3 : w3.frozen? ⟨T, 0, none⟩ = false := K3.out.frozen 0
         have c3 : w3.cell? ⟨T, 0, none⟩ = some (.slice B L.length d) := K3.out.cell 0
         clear hr3 hn3))
    go_ret2
    have hf := radd_fin HT.out B2.out K3.out hown3.out hg3.out hv3.out HGx.out
    refine ⟨?_, Lib.hid ?_, Lib.hid hf.2⟩
    · unfold addN; rw [if_pos H0.out, H0.out]; rfl
    · unfold addL; rw [if_pos H0.out]; exact hf.1
  · have H1 := Lib.hid h1
    have H0 := Lib.hid h0
    clear h0 h1
    go_enter Try.func19, Try.ntmps19
    go_wp2_with (go_at_call 26; refine (refname_any _ _).mono ?_; rintro e w1 ⟨rfl, hb1⟩; rw [show nameB (⟨x.toArray⟩ : ByteArray).data.toList = false from H1.out]; have B1 := Lib.hid hb1; clear hb1)
    go_ret2
    exact radd_same H.out (by rw [H0.out]; omega) B1.out 7 (by rw [H0.out]; rfl)
  · have H1 := Lib.hid h1
    have H0 := Lib.hid h0
    obtain ⟨i, hi⟩ := List.getElem?_of_mem h2
    have HI := Lib.hid hi
    clear h0 h1 h2 hi
    go_enter Try.func19, Try.ntmps19
    go_wp2_with (first
      | (go_at_call 26; refine (refname_any _ _).mono ?_; rintro e w1 ⟨rfl, hb1⟩; rw [show nameB (⟨x.toArray⟩ : ByteArray).data.toList = true from H1.out]; have B1 := Lib.hid hb1; clear hb1)
      | (go_at_call 20; refine (rnum_in (H.out.after B1.out) x i HI.out).mono ?_; rintro e w2 ⟨rfl, hb2⟩; have B2 := Lib.hid (keep_trans B1.out hb2.out)))
    go_ret2
    exact radd_same H.out (by rw [H0.out]; omega) B2.out 6 (by rw [H0.out]; rfl)
  · obtain ⟨v, h⟩ := h
    obtain ⟨B, d, rfl, hnd, hrd⟩ := own_form h.row
    have HT := Lib.hid h
    have H1 := Lib.hid h1
    have H0 := Lib.hid h0
    have H2 := Lib.hid h2
    have c : ¬ ((L.length : Nat) : Int) < 4096 := by omega
    have cc : decide ((4096 : Int) ≤ (L.length : Nat)) = true := decide_eq_true (by omega)
    clear h hnd hrd h0 h1 h2
    go_enter Try.func19, Try.ntmps19
    go_wp2_with (first
      | (go_at_call 26; refine (refname_any _ _).mono ?_; rintro e w1 ⟨rfl, hb1⟩; rw [show nameB (⟨x.toArray⟩ : ByteArray).data.toList = true from H1.out]; have B1 := Lib.hid hb1; clear hb1)
      | (go_at_call 20; refine (rnum_out (H.out.after B1.out) x H2.out).mono ?_; rintro e w2 ⟨rfl, hb2⟩
         have B2 := Lib.hid (keep_trans B1.out hb2.out)
         have c0 : w2.cell? ⟨T, 0, none⟩ = some (.slice B L.length d) := (HT.out.blk.after B2.out).cell 0))
    go_ret2
    exact radd_same H.out (by rw [H0.out]; omega) B2.out 3 (by rw [H0.out]; rfl)
set_option maxRecDepth 100000 in
set_option maxHeartbeats 1000000 in
theorem rclone_any {w : World} {X : Nat → Prop} {T : Nat} {L : List Nm} (h : RefAt w X T L) :
    Calls Try.prog 18 #[.pointer (some ⟨T, 0, none⟩)] w fun e w' => ∃ T', e = .returned (.pointer (some ⟨T', 0, none⟩)) ∧ Hid (RefAt w' (Fresh w w') T' L) ∧ Hid (Below w.heap.size w w') := by
  obtain ⟨v, h⟩ := h
  obtain ⟨B, d, rfl, hnd, hrd⟩ := own_form h.row
  have HT := Lib.hid h
  have hlen : L.length ≤ 4096 := h.good.2.2
  have c0 : w.cell? ⟨T, 0, none⟩ = some (.slice B L.length d) := h.blk.cell 0
  have c1 : ∀ o, (w.alloc o).cell? ⟨T, 0, none⟩ = some (.slice B L.length d) := fun o => (h.blk.alloc o).cell 0
  have HR : Hid (∀ o, Rd (w.alloc o) (fun _ => True) B (cs strC L)) := Lib.hid (fun o => (hrd.keep (fun b hb => Below.heap_alloc w o b hb.2)).more (fun _ _ => trivial))
  clear h hnd hrd
  go_enter Try.func18, Try.ntmps18
  go_wp2_with (at_builtin; refine wpList_append_ch rfl (.tmp 3) (.tmp 7) 26 rfl w.heap.size 9 _ 1 16 Try.underlying26 info_Str rfl (by omega) (by omega) (.slice (some ⟨w.heap.size, 0, none⟩) 0 0) 0 [] rfl (own_empty (Nat.le_refl _)) (fun _ => True) B L.length d (cs strC L) rfl (by rw [cs_length strC 1 (fun _ => rfl)]) (HR.out _) (cs_each str_one L) (by omega) (by simp) ?_; intro v3 w3 hown3 hg3 hv3
               obtain ⟨B3, d3, e3, hn3, hr3⟩ := own_form hown3.out
               subst e3
               clear hr3 hn3)
  go_ret
  have ho := hown3.out
  simp only [Nat.zero_add, List.nil_append] at ho
  have hb3 : Below w.heap.size w w3 := (one_box w (.cells #[] 9)).grown hg3.out (by simp) (fun k hk => by
    have hk' : some w.heap.size = some k := hk
    injection hk' with e
    omega)
  have hs3 := hb3.size
  refine ⟨w3.heap.size, rfl, Lib.hid ⟨.slice B3 L.length d3, ⟨by omega, by simp⟩, fun k hk => ?_, fun k hk => hk.2, Blk.new w3 _ [.slice B3 L.length d3], own_base (ho.alloc _) (Nat.zero_le _), HT.out.good⟩, Lib.hid (hb3.alloc hs3 _)⟩
  have := ho.lt k hk
  exact ⟨this.1, by simp; omega⟩
/-- what the document's New answers -/
def RNewPost (w : World) (l : List Nm) (e : Ending) (w' : World) : Prop :=
  (newE [] l = 0 ∧ ∃ T, e = .returned (.tuple #[.pointer (some ⟨T, 0, none⟩), .int .i64 0]) ∧ Hid (RefAt w' (Fresh w w') T l) ∧ Hid (Below w.heap.size w w')) ∨ (newE [] l ≠ 0 ∧ e = .returned (.tuple #[.pointer none, .int .i64 (newE [] l : Nat)]) ∧ Hid (Below w.heap.size w w'))
theorem radd_ok {w : World} {X : Nat → Prop} {T : Nat} {L : List Nm} (h : RefAt w X T L) (x : Nm) (h0 : addE L x = 0) :
    Calls Try.prog 19 #[.pointer (some ⟨T, 0, none⟩), .string ⟨x.toArray⟩] w fun e w' => e = .returned (.tuple #[.int .i64 (L.length : Nat), .int .i64 0]) ∧ Hid (RefAt w' (Grow X w w') T (L ++ [x])) ∧ Hid (Ch X w w') := by
  refine (radd_any h x).mono ?_
  rintro e w' ⟨rfl, h1, h2⟩
  unfold addL at h1
  rw [if_pos h0] at h1
  refine ⟨?_, h1, h2⟩
  unfold addN; rw [if_pos h0, h0]; rfl
theorem radd_not {w : World} {X : Nat → Prop} {T : Nat} {L : List Nm} (h : RefAt w X T L) (x : Nm) (k : Nat) (hk : addE L x = k) (h0 : k ≠ 0) :
    Calls Try.prog 19 #[.pointer (some ⟨T, 0, none⟩), .string ⟨x.toArray⟩] w fun e w' => e = .returned (.tuple #[.int .i64 0, .int .i64 (k : Nat)]) ∧ Hid (RefAt w' (Grow X w w') T L) ∧ Hid (Ch X w w') := by
  subst hk
  refine (radd_any h x).mono ?_
  rintro e w' ⟨rfl, h1, h2⟩
  unfold addL at h1
  rw [if_neg h0] at h1
  refine ⟨?_, h1, h2⟩
  unfold addN; rw [if_neg h0]; rfl
theorem rfresh_grow {w w1 w2 : World} {T : Nat} {L : List Nm} (hb : w.heap.size ≤ w1.heap.size) (h : RefAt w2 (Grow (Fresh w w1) w1 w2) T L) (hc : Ch (Fresh w w1) w1 w2) : RefAt w2 (Fresh w w2) T L :=
  h.more (fun k hk => by
    have := hc.size
    rcases hk with hk | hk
    · exact ⟨hk.1, by have := hk.2; omega⟩
    · exact ⟨by omega, hk.2⟩) (fun k hk => hk.2)
set_option maxRecDepth 100000 in
set_option maxHeartbeats 1000000 in
theorem rnew_any {w : World} {A : Option Addr} {n c : Nat} {l : List Nm} (hn : Hid (n = l.length)) (hN : n ≤ 1000000) (hx : Rd w (· < w.heap.size) A (cs strC l)) :
    Calls Try.prog 16 #[.slice A n c] w (RNewPost w l) := by
  have HX := Lib.hid hx
  have N1 : Hid (RefAt (w.alloc (.cells #[.slice none 0 0] 43)) (Fresh w (w.alloc (.cells #[.slice none 0 0] 43))) w.heap.size []) := Lib.hid ⟨.slice none 0 0, ⟨Nat.le_refl _, by simp⟩, (fun k hk => by cases hk), fun k hk => hk.2, Blk.new w _ [.slice none 0 0], World.ownsRow_nil _ _ _ _, good_nil⟩
  clear hx
  go_enter Try.func16, Try.ntmps16
  go_wp2
  have B1 : Hid (Below w.heap.size w (w.alloc (.cells #[.slice none 0 0] 43))) := Lib.hid (one_box _ _)
  generalize w.alloc (.cells #[.slice none 0 0] 43) = w1 at N1 B1 ⊢
  obtain ⟨T, hT⟩ : ∃ T, T = w.heap.size := ⟨_, rfl⟩
  rw [← hT] at N1
  rw [← hT]
  clear hT
  go_loopw [5] (fun v wr => ∃ i : Nat, v = .int .i64 (i : Int) ∧ i ≤ n ∧ Hid (newE [] (l.take i) = 0) ∧ Hid (RefAt wr (Fresh w wr) T (l.take i)) ∧ Hid (Below w.heap.size w wr)) (fun v _ => n - (intOf v).toNat)
  case atStart => exact ⟨0, rfl, by omega, Lib.hid rfl, N1, B1⟩
  case round =>
    obtain ⟨i, rfl, hi, HE, HT, HNB⟩ := hrel
    by_cases hlt : i < n
    · obtain ⟨x, hxi⟩ := at_in l hn hlt
      obtain ⟨ad, rfl, hS, h0, hj⟩ := rd_at 1 (fun _ => rfl) (by omega) (HX.out.below HNB.out) hxi
      rw [Nat.mul_one] at h0
      have a0 : wr.cell? (ad.add i) = some (.string ⟨x.toArray⟩) := h0
      have hi1 : (i : Int) < (n : Int) := by omega
      have HXI := Lib.hid hxi
      clear h0 hj hxi
      by_cases hE : addE (l.take i) x = 0
      · have HEE := Lib.hid hE
        have CA := Lib.hid (radd_ok HT.out x hE)
        clear hE
        go_wp2_with (go_at_call 19; (with_reducible refine CA.out.mono ?_); rintro e w2 ⟨rfl, ht2, hc2⟩)
        refine ⟨⟨i + 1, by go_num, by omega, Lib.hid (newE_more _ l i x HXI.out HE.out HEE.out), Lib.hid ?_, Lib.hid (fresh_below HNB.out hc2.out)⟩, by simp [intOf]; omega⟩
        rw [List.take_add_one, HXI.out]
        exact rfresh_grow HNB.out.size ht2.out hc2.out
      · obtain ⟨k, hk⟩ : ∃ k, addE (l.take i) x = k := ⟨_, rfl⟩
        have hk0 : k ≠ 0 := by rw [← hk]; exact hE
        have CA := Lib.hid (radd_not HT.out x k hk hk0)
        have hst : newE [] l = k := by rw [← hk]; exact newE_stop _ l i x HXI.out HE.out hE
        have HST := Lib.hid hst
        have hkb : ((k : Int) == 0) = false := beq_eq_false_iff_ne.2 (by omega)
        have hkn : ((k : Int) != 0) = true := by simp [bne, hkb]
        clear hE hk hst
        go_wp2_with (go_at_call 19; (with_reducible refine CA.out.mono ?_); rintro e w2 ⟨rfl, ht2, hc2⟩)
        go_ret2
        refine .inr ⟨by rw [HST.out]; exact hk0, by rw [HST.out]; rfl, Lib.hid (fresh_below HNB.out hc2.out)⟩
    · have hin : i = n := by omega
      have hnl : ¬ ((i : Int) < (n : Int)) := by omega
      have ht : l.take i = l := List.take_of_length_le (by rw [hin, hn.out]; exact Nat.le_refl _)
      rw [ht] at HE HT
      go_wp2
      go_ret2
      exact .inl ⟨HE.out, T, rfl, HT, HNB⟩
end Go.Proofs.Ytceamidobdfhbaa.It
