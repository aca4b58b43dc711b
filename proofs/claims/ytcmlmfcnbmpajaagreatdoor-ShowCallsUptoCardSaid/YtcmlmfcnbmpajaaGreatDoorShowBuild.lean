/- The library's strings.Builder, as a field of package show's lines or by itself: copyCheck, Len, WriteByte, WriteString, String, proved by walking their text at a block of either type; FormatInt at base 10 by the shelf's contract. Conditions: a builder that the call itself has made and only written; texts of at most 2^47 bytes. -/
import Derived.Test.YtcmlmfcnbmpajaaGreatDoorSheetOne
import Derived.Test.YtcmlmfcnbmpajaaGreatDoorLexTick
import Derived.Lib.Builder
import Derived.Lib.AppendStr
import Derived.Lib.UnsafeStr
import Derived.Laws.Externs
namespace Go.Proofs.YtcmlmfcnbmpajaaGreatDoor.Sw
open Go.ChangeShapes Go.WideShapes Go.ChangeAt Go.RowKit
open Lx Sh
set_option linter.unusedVariables false
set_option linter.unusedSimpArgs false

theorem below_grow (w : World) (k : Nat) (os : Array Obj) : Below w.heap.size w (Go.Sort.grow (w.drewN k) os) :=
  ⟨rfl, rfl, rfl, by simp [Go.Sort.grow, World.drewN], fun b hb => by
    simp only [Go.Sort.grow]
    rw [Array.getElem?_append_left (by simpa [World.drewN] using hb)]
    rfl⟩
/-- a number's digits -/
theorem format_any (n : Int) (w : World) (hE : Tk.Env w) (h0 : -9223372036854775808 ≤ n) (h1 : n ≤ 9223372036854775807) :
    Calls Tryz.prog 84 #[.int .i64 n, .int .i64 10] w fun e w' => e = .returned (.string ⟨(Lib.itoa n).toArray⟩) ∧ Below w.heap.size w w' := by
  refine (Tryz.strconv_FormatInt_10 n h0 h1 w hE.tab).mono ?_
  rintro e w' ⟨rfl, k, os, rfl⟩
  exact ⟨rfl, below_grow _ _ _⟩

/-- the two types of blocks in which a builder lies -/
def BT (T : TypeId) : Prop := T = 90 ∨ T = 71
theorem btL : BT 90 := .inl rfl
theorem btB : BT 71 := .inr rfl
theorem BT.ne {T : TypeId} (h : BT T) : T ≠ 5 := by rcases h with rfl | rfl <;> decide
theorem bt_size : (Tryz.prog.info? 71).map (·.size) = some 2 := by kernel_rfl
theorem BT.lies {T : TypeId} (h : BT T) : liesAt Tryz.prog Tryz.prog.depth T (2 / Tryz.prog.cellsOf T) 0 71 1 = true := by
  rcases h with rfl | rfl <;> kernel_rfl
theorem info_u8 : (Tryz.prog.info? 5).map (fun i => (i.zero, i.size, i.bytes)) = some (some (.int .u8 0), 1, 1) := by kernel_rfl
theorem cells_u8 : Tryz.prog.cellsOf 5 = 1 := by kernel_rfl

/-- block k is a row of bytes -/
def U8 (w : World) (k : Nat) : Prop := ∃ cs fr, w.heap[k]? = some (.cells cs 5 fr)
/-- what a call that writes one builder may change: its block, and rows of bytes from B on -/
def Mine (w : World) (B b : Nat) (k : Nat) : Prop := k = b ∨ (B ≤ k ∧ U8 w k)
def LCh (w : World) (B b : Nat) (w' : World) : Prop := Ch (Mine w B b) w w'
theorem LCh.refl (w : World) (B b : Nat) : LCh w B b w := Ch.refl _ _
theorem LCh.trans {w w' w'' : World} {B b : Nat} (h : LCh w B b w') (k : LCh w' B b w'') : LCh w B b w'' :=
  Ch.trans' h k fun i hi hy => by
    by_cases hx : Mine w B b i
    · exact hx
    · rcases hy with hy | ⟨h1, cs, fr, h2⟩
      · exact .inl hy
      · exact .inr ⟨h1, cs, fr, (h.block i hi hx).symm.trans h2⟩
theorem LCh.after {w w' w'' : World} {B b : Nat} (h : LCh w B b w') (k : Below w'.heap.size w' w'') : LCh w B b w'' := h.trans (.of_below k)
theorem LCh.below {w w' : World} {B b : Nat} (h : LCh w B b w') {B0 : Nat} (h0 : B0 ≤ w.heap.size) (hb : B0 ≤ b) (hB : B0 ≤ B) : Below B0 w w' :=
  Ch.below h h0 fun k hk => by rcases hk with rfl | ⟨h1, _⟩ <;> omega
theorem LCh.blk {w w' : World} {B b g : Nat} {t : TypeId} {l : List Value} (h : LCh w B b w') (hb : Blk w g t l) (hg : g ≠ b) (ht : t ≠ 5) : Blk w' g t l :=
  Ch.blk h hb fun hx => by
    rcases hx with rfl | ⟨_, cs, fr, h2⟩
    · exact hg rfl
    · unfold Blk at hb
      rw [hb] at h2
      simp only [Option.some.injEq, Obj.cells.injEq] at h2
      exact ht h2.2.1

/-- a builder in block b of type T that holds the bytes l; its buffer lies from B on -/
def LineAt (w : World) (T : TypeId) (B b : Nat) (l : List UInt8) : Prop :=
  ∃ p v, Blk w b T [p, v] ∧ (p = .pointer none ∨ p = .pointer (some ⟨b, 0, none⟩)) ∧ w.ownsRow B 5 1 v l.length (Lib.byteCells l)
theorem LineAt.lt {w : World} {T : TypeId} {B b : Nat} {l : List UInt8} (h : LineAt w T B b l) : b < w.heap.size := by obtain ⟨p, v, h, _⟩ := h; exact h.lt
theorem LineAt.after {w w' : World} {T : TypeId} {B b : Nat} {l : List UInt8} (h : LineAt w T B b l) (hb : Below w.heap.size w w') : LineAt w' T B b l := by
  obtain ⟨p, v, h1, h2, h3⟩ := h
  exact ⟨p, v, h1.after hb, h2, own_after h3 hb⟩
/-- a new one -/
theorem LineAt.new (w : World) (T : TypeId) (B : Nat) : LineAt (w.alloc (.cells #[.pointer none, .slice none 0 0] T)) T B w.heap.size [] :=
  ⟨_, _, Blk.new w T [.pointer none, .slice none 0 0], .inl rfl, World.ownsRow_nil _ _ _ _⟩
theorem own_u8 {w : World} {B n : Nat} {v : Value} {xs : List Value} (h : w.ownsRow B 5 1 v n xs) (b : Nat) : ∀ k, v.ownBlock = some k → Mine w B b k := by
  intro k hk
  rcases h.2 with ⟨rfl, _⟩ | ⟨g, cap, cur, rfl, hg, hb, _⟩
  · simp [Value.ownBlock] at hk
  · simp only [Value.ownBlock, Option.some.injEq] at hk
    subst hk
    exact .inr ⟨hg, cur, (0, 0), hb⟩
theorem own_not {w : World} {B n b : Nat} {T : TypeId} {l : List Value} {v : Value} {xs : List Value} (h : w.ownsRow B 5 1 v n xs) (hb : Blk w b T l) (hT : BT T) : v.ownBlock ≠ some b := by
  intro hk
  exact own_ne_blk h hb (fun e => hT.ne e.symm) b hk rfl
/-- a new buffer laid into the field -/
theorem LineAt.put {w0 w : World} {T : TypeId} {B b : Nat} {p v v' : Value} {l : List UInt8} (hT : BT T) (hb : Blk w b T [p, v]) (hp : p = .pointer none ∨ p = .pointer (some ⟨b, 0, none⟩)) (hown : w.ownsRow B 5 1 v' l.length (Lib.byteCells l)) :
    LineAt (w.setCell ⟨b, 1, none⟩ v') T B b l := by
  refine ⟨p, v', hb.set_ 1 v', hp, ?_⟩
  exact hown.kept (row := some b) ⟨rfl, rfl, rfl, by simp [World.setCell], fun k _ hk => Below.heap_setCell _ _ _ _ (fun e => hk (by simp [e]))⟩ (Or.inr (own_not hown hb hT))

set_option maxHeartbeats 1000000 in
set_option maxRecDepth 100000 in
theorem check_used (b : Nat) (w : World) (h0 : w.cell? ⟨b, 0, none⟩ = some (.pointer (some ⟨b, 0, none⟩))) :
    Calls Tryz.prog 68 #[.pointer (some ⟨b, 0, none⟩)] w fun e w' => e = .returned (.tuple #[]) ∧ w' = w := by
  obtain ⟨j, hj, _⟩ := Option.map_eq_some_iff.1 bt_size
  go_enter Tryz.func68, Tryz.ntmps68
  go_wp2
  rw [Lib.run_neq_ptr_same w _ Tryz.underlying68 hj]
  go_wp2
  go_end0
  exact ⟨rfl, rfl⟩

set_option maxHeartbeats 1000000 in
set_option maxRecDepth 100000 in
theorem check_fresh (b : Nat) (T : TypeId) (hT : BT T) (w : World) (h0 : w.cell? ⟨b, 0, none⟩ = some (.pointer none)) (hsh : w.shape? b = some (T, 2)) (hfz : w.frozen? ⟨b, 0, none⟩ = false) :
    Calls Tryz.prog 68 #[.pointer (some ⟨b, 0, none⟩)] w fun e w' => e = .returned (.tuple #[]) ∧ w' = w.setCell ⟨b, 0, none⟩ (.pointer (some ⟨b, 0, none⟩)) := by
  obtain ⟨j, hj, hjs⟩ := Option.map_eq_some_iff.1 bt_size
  have hl := Lib.hid hT.lies
  clear hT
  go_enter Tryz.func68, Tryz.ntmps68
  go_wp2
  rw [Lib.run_to_unsafe w ⟨b, 0, none⟩ Tryz.underlying68 Tryz.underlying137 hj (by rw [hjs]; decide) hsh (Nat.zero_lt_succ 1)]
  simp only [Result.andThen]
  rw [Oper.upon_value]
  go_wp2
  rw [run_callFunc_extern Tryz.func95 (by kernel_rfl) (by kernel_rfl) (by kernel_rfl) (e := Extern.AbiNoEscape.same) (by kernel_rfl)]
  rw [Lib.run_noEscape]
  simp only [Result.andThen]
  rw [Oper.upon_value]
  go_wp2
  rw [Lib.run_from_unsafe w ⟨b, 0, none⟩ Tryz.underlying137 Tryz.underlying68 hj hsh hl.out]
  simp only [Result.andThen]
  rw [Oper.upon_value]
  go_wp2
  go_end0
  exact ⟨rfl, rfl⟩

/-- behind copyCheck the builder holds its own address -/
def UsedAt (w : World) (T : TypeId) (B b : Nat) (l : List UInt8) (v : Value) : Prop :=
  Blk w b T [.pointer (some ⟨b, 0, none⟩), v] ∧ w.ownsRow B 5 1 v l.length (Lib.byteCells l)
theorem check_any (T : TypeId) (hT : BT T) (B b : Nat) (l : List UInt8) (w : World) (h : LineAt w T B b l) :
    Calls Tryz.prog 68 #[.pointer (some ⟨b, 0, none⟩)] w fun e w' => e = .returned (.tuple #[]) ∧ ∃ v, UsedAt w' T B b l v ∧ LCh w B b w' := by
  obtain ⟨p, v, h1, rfl | rfl, h3⟩ := h
  · refine (check_fresh b T hT w (h1.cell 0) (by unfold Blk at h1; simp [World.shape?, h1]) (h1.frozen 0)).mono ?_
    rintro e w' ⟨rfl, rfl⟩
    refine ⟨rfl, v, ⟨h1.set_ 0 _, ?_⟩, (Ch.refl _ _).setCell (p := ⟨b, 0, none⟩) (.inl (.inl rfl)) _⟩
    exact h3.kept (row := some b) ⟨rfl, rfl, rfl, by simp [World.setCell], fun k _ hk => Below.heap_setCell _ _ _ _ (fun e => hk (by simp [e]))⟩ (Or.inr (own_not h3 h1 hT))
  · refine (check_used b w (h1.cell 0)).mono ?_
    rintro e w' ⟨rfl, rfl⟩
    exact ⟨rfl, v, ⟨h1, h3⟩, LCh.refl _ _ _⟩

set_option maxHeartbeats 1000000 in
set_option maxRecDepth 100000 in
theorem len_any (T : TypeId) (B b : Nat) (l : List UInt8) (w : World) (h : LineAt w T B b l) :
    Calls Tryz.prog 83 #[.pointer (some ⟨b, 0, none⟩)] w fun e w' => e = .returned (.int .i64 (l.length : Int)) ∧ w = w' := by
  obtain ⟨p, v, hbk, hp, hown⟩ := h
  obtain ⟨A, cap, rfl, -, -⟩ := own_form hown
  have c1 : w.cell? ⟨b, 1, none⟩ = some (.slice A l.length cap) := hbk.cell 1
  clear hp hown hbk
  go_enter Tryz.func83, Tryz.ntmps83
  go_wp2
  go_ret
  exact ⟨rfl, rfl⟩

def WrPost (w : World) (T : TypeId) (B b : Nat) (l : List UInt8) (r : Value) (e : Ending) (w' : World) : Prop := e = .returned r ∧ LineAt w' T B b l ∧ LCh w B b w'
set_option maxHeartbeats 2000000 in
set_option maxRecDepth 100000 in
theorem wbyte_any (T : TypeId) (hT : BT T) (B b : Nat) (l : List UInt8) (c : UInt8) (w : World) (h : LineAt w T B b l) (hlen : l.length + 1 ≤ 140737488355328) (hBw : B ≤ w.heap.size) :
    Calls Tryz.prog 31 #[.pointer (some ⟨b, 0, none⟩), .int .u8 (c.toNat : Int)] w (WrPost w T B b (l ++ [c]) .nilIface) := by
  obtain ⟨i0, hi, hz0, hz1, hz2⟩ := info_parts info_u8
  have HT := Lib.hid hT
  have HL := Lib.hid h
  clear hT h
  go_enter Tryz.func31, Tryz.ntmps31
  go_wp2_with (go_at_call 68; refine (check_any T HT.out B b l _ HL.out).mono ?_)
  rintro e w1 ⟨rfl, v, ⟨hbk, hown⟩, hch⟩
  have hsz : w.heap.size ≤ w1.heap.size := Ch.size hch
  have c1 : w1.cell? ⟨b, 1, none⟩ = some v := hbk.cell 1
  have HBK := Lib.hid hbk
  have HCH := Lib.hid hch
  have HO := Lib.hid hown
  clear hbk hch
  go_wp2_with (at_builtin; refine wpList_append_own _ rfl _ _ 69 rfl B 5 i0 (.int .u8 0) 1 1 Tryz.underlying69 hi hz0 hz1 hz2 rfl (by decide) _ _ _ rfl (hown.alloc _) ⟨w1.heap.size, 0, none⟩ 1 1 [.int .u8 (c.toNat : Int)] rfl rfl ?c1 ?c2 ?c3 ?c4 ?c5 ?_)
  case c1 =>
    intro j u hj
    match j, hj with
    | 0, hj => simp at hj; subst hj; simp [Addr.add]
  case c2 => intro u hu; simp at hu; subst hu; rfl
  case c3 => unfold maxLen; omega
  case c4 => omega
  case c5 => simp; omega
  intro v' w2 hown' hgrow _
  have hb2 : Blk w2 b T [.pointer (some ⟨b, 0, none⟩), v] := (HBK.out.alloc _).grown hgrow (fun e => own_not HO.out HBK.out HT.out e.symm)
  have d1 : w2.cell? ⟨b, 1, none⟩ = some v := hb2.cell 1
  have f1 : w2.frozen? ⟨b, 1, none⟩ = false := hb2.frozen 1
  have HB2 := Lib.hid hb2
  have HC2 : Hid (LCh w B b w2) := Lib.hid ((HCH.out.after (one_box _ _)).trans (Ch.of_grown hgrow (fun k hk => own_u8 (HO.out.alloc _) b k hk.symm)))
  clear hb2 hgrow
  obtain ⟨A, cap, rfl, -, -⟩ := own_form hown'
  have HO2 := Lib.hid hown'
  clear hown' hown
  go_wp2
  go_ret
  refine ⟨rfl, ?_, ?_⟩
  · exact LineAt.put (w0 := w) HT.out HB2.out (.inr rfl) (by have := HO2.out; simpa [Lib.byteCells] using this)
  · exact HC2.out.trans ((Ch.refl _ _).setCell (p := ⟨b, 1, none⟩) (.inl (.inl rfl)) _)

theorem wblank_any (T : TypeId) (hT : BT T) (B b : Nat) (l : List UInt8) (w : World) (h : LineAt w T B b l) (hlen : l.length + 1 ≤ 140737488355328) (hBw : B ≤ w.heap.size) :
    Calls Tryz.prog 31 #[.pointer (some ⟨b, 0, none⟩), .int .u8 32] w (WrPost w T B b (l ++ [32]) .nilIface) := wbyte_any T hT B b l 32 w h hlen hBw
theorem wnl_any (T : TypeId) (hT : BT T) (B b : Nat) (l : List UInt8) (w : World) (h : LineAt w T B b l) (hlen : l.length + 1 ≤ 140737488355328) (hBw : B ≤ w.heap.size) :
    Calls Tryz.prog 31 #[.pointer (some ⟨b, 0, none⟩), .int .u8 10] w (WrPost w T B b (l ++ [10]) .nilIface) := wbyte_any T hT B b l 10 w h hlen hBw
set_option maxHeartbeats 2000000 in
set_option maxRecDepth 100000 in
theorem wstr_any (T : TypeId) (hT : BT T) (B b : Nat) (l : List UInt8) (s : ByteArray) (w : World) (h : LineAt w T B b l) (hlen : l.length + s.size ≤ 140737488355328) (hBw : B ≤ w.heap.size) :
    Calls Tryz.prog 30 #[.pointer (some ⟨b, 0, none⟩), .string s] w (WrPost w T B b (l ++ s.data.toList) (.tuple #[.int .i64 s.size, .nilIface])) := by
  obtain ⟨i0, hi, hz0, hz1, hz2⟩ := info_parts info_u8
  have HT := Lib.hid hT
  have HL := Lib.hid h
  clear hT h
  go_enter Tryz.func30, Tryz.ntmps30
  go_wp2_with (go_at_call 68; refine (check_any T HT.out B b l _ HL.out).mono ?_)
  rintro e w1 ⟨rfl, v, ⟨hbk, hown⟩, hch⟩
  have hsz : w.heap.size ≤ w1.heap.size := Ch.size hch
  have c1 : w1.cell? ⟨b, 1, none⟩ = some v := hbk.cell 1
  have HBK := Lib.hid hbk
  have HCH := Lib.hid hch
  have HO := Lib.hid hown
  clear hbk hch
  go_wp2_with (at_builtin; refine Lib.wpList_append_own_string _ rfl _ _ 69 9 rfl B 5 i0 Tryz.underlying69 Tryz.underlying9 hi hz0 hz1 hz2 _ _ _ rfl hown s rfl ?c3 ?c4 ?c5 ?_)
  case c3 => unfold maxLen; omega
  case c4 => omega
  case c5 => omega
  intro v' w2 hown' hgrow _
  have hb2 : Blk w2 b T [.pointer (some ⟨b, 0, none⟩), v] := HBK.out.grown hgrow (fun e => own_not HO.out HBK.out HT.out e.symm)
  have d1 : w2.cell? ⟨b, 1, none⟩ = some v := hb2.cell 1
  have f1 : w2.frozen? ⟨b, 1, none⟩ = false := hb2.frozen 1
  have HB2 := Lib.hid hb2
  have HC2 : Hid (LCh w B b w2) := Lib.hid (HCH.out.trans (Ch.of_grown hgrow (fun k hk => own_u8 HO.out b k hk.symm)))
  clear hb2 hgrow
  obtain ⟨A, cap, rfl, -, -⟩ := own_form hown'
  have HO2 := Lib.hid hown'
  clear hown' hown
  go_wp2
  go_ret2
  refine ⟨rfl, ?_, ?_⟩
  · exact LineAt.put (w0 := w) HT.out HB2.out (.inr rfl) (by have := HO2.out; rw [Lib.strCells_eq, ← Lib.byteCells_append] at this; rw [List.length_append, ← Lib.size_eq]; exact this)
  · exact HC2.out.trans ((Ch.refl _ _).setCell (p := ⟨b, 1, none⟩) (.inl (.inl rfl)) _)

theorem bsize (a : List UInt8) : (⟨a.toArray⟩ : ByteArray).size = a.length := by rw [Lib.size_eq]
theorem wlist_any (T : TypeId) (hT : BT T) (B b : Nat) (l a : List UInt8) (w : World) (h : LineAt w T B b l) (hlen : l.length + a.length ≤ 140737488355328) (hBw : B ≤ w.heap.size) :
    Calls Tryz.prog 30 #[.pointer (some ⟨b, 0, none⟩), .string ⟨a.toArray⟩] w (WrPost w T B b (l ++ a) (.tuple #[.int .i64 (a.length : Int), .nilIface])) := by
  have := wstr_any T hT B b l ⟨a.toArray⟩ w h (by rw [bsize]; exact hlen) hBw
  rw [bsize] at this
  exact this

theorem unsafe_none (W : World) (q : Option Addr) : (Builtin.unsafeString_ #[114, 3] 9 #[.pointer q, .int .i64 0]).run Tryz.prog W = .ok (.string .empty) W :=
  Lib.run_unsafeString_none W _ _ _ q
def StrPost (w : World) (B : Nat) (l : List UInt8) (e : Ending) (w' : World) : Prop := e = .returned (.string ⟨l.toArray⟩) ∧ Below B w w'
set_option maxHeartbeats 2000000 in
set_option maxRecDepth 100000 in
theorem string_some (T : TypeId) (hT : BT T) (B b : Nat) (l : List UInt8) (w : World) (h : LineAt w T B b l) (h0 : l ≠ []) :
    Calls Tryz.prog 32 #[.pointer (some ⟨b, 0, none⟩)] w (StrPost w B l) := by
  obtain ⟨p, v, hbk, hp, hown⟩ := h
  have hl0 : l.length ≠ 0 := by simpa using h0
  obtain ⟨g, cap, cur, rfl, hbg, hg, hnc, hcm, hcs, htake⟩ : ∃ g cap cur, v = .slice (some ⟨g, 0, none⟩) l.length cap ∧ B ≤ g ∧ w.heap[g]? = some (.cells cur 5 (0, 0)) ∧ l.length ≤ cap ∧ cap ≤ maxLen ∧ cur.size = cap * 1 ∧ cur.toList.take (l.length * 1) = Lib.byteCells l := by
    rcases hown.2 with ⟨_, hz⟩ | ⟨g, cap, cur, hv, r⟩
    · exact absurd hz (by simpa [Lib.byteCells] using h0)
    · exact ⟨g, cap, cur, hv, r⟩
  have c1 : w.drew.cell? ⟨b, 1, none⟩ = some (.slice (some ⟨g, 0, none⟩) l.length cap) := hbk.cell 1
  have hSD : (Builtin.unsafeSliceData_ #[69] 114 #[.slice (some ⟨g, 0, none⟩) l.length cap]).run Tryz.prog w.drew = .ok (.pointer (some ⟨g, 0, none⟩)) w.drew :=
    Lib.run_unsafeSliceData_row _ _ _ _ _ _ (by omega)
  have hUS : (Builtin.unsafeString_ #[114, 3] 9 #[.pointer (some ⟨g, 0, none⟩), .int .i64 l.length]).run Tryz.prog w.drew = .ok (.string ⟨l.toArray⟩) (w.drew.freeze ⟨g, 0, none⟩ l.length) := by
    refine Lib.run_unsafeString_row w.drew 114 3 9 5 Tryz.underlying114 cells_u8 g cur.size (by have hg' : w.drew.heap[g]? = some (.cells cur 5 (0, 0)) := hg; simp [World.shape?, hg']) l h0 (by omega) (by unfold maxLen at hcm; omega) ?_
    intro j x hx
    have := hown.cells (g := g) rfl j (.int .u8 x.toNat) (by simp [Lib.byteCells, hx])
    exact this
  have HB := Lib.hid hbg
  clear hown hbk hp hg htake hnc hcm hcs h0
  go_enter Tryz.func32, Tryz.ntmps32
  go_wp2
  go_region
  all_goals (go_wp2; go_ret; exact ⟨rfl, Lib.below_freeze (Below.drew (Below.refl B w)) (p := ⟨g, 0, none⟩) HB.out _⟩)
end Go.Proofs.YtcmlmfcnbmpajaaGreatDoor.Sw
