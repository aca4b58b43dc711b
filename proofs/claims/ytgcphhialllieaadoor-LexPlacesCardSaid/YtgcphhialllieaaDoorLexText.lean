/- Package lex's Text: the bytes of a row of tokens. Conditions: the text has at most a million bytes; numbers are int64; the library's variables hold what start-up lays. -/
import Derived.Test.YtgcphhialllieaaDoorLexKit
import Derived.Test.YtgcphhialllieaaDoorLexTick
import Derived.Lib.AppendStr
import Derived.Lib.UnsafeStr
namespace Go.Proofs.YtgcphhialllieaaDoor.Lx
open Go.ChangeShapes Go.WideShapes Go.ChangeAt Go.RowKit
set_option linter.unusedVariables false

/-- the bytes of a token; of a row of tokens, b: is there one in the line already? -/
def tokB (t : Tok) : List UInt8 := if t.kind = 4 then [10] else if t.kind = 3 then Lib.itoa t.num else t.text
def textF : Bool → List Tok → List UInt8
  | _, [] => []
  | b, t :: r => (if b && !(t.kind == 4) then [32] else []) ++ tokB t ++ textF (!(t.kind == 4)) r

theorem info_u8 : (Tryd.prog.info? 5).map (fun i => (i.zero, i.size, i.bytes)) = some (some (.int .u8 0), 1, 1) := by kernel_rfl
/-- bytes of the call's own, more behind them -/
def Bytes (base : Nat) (w : World) (v : Value) (bs : List UInt8) : Prop := w.ownsRow base 5 1 v bs.length (Lib.byteCells bs)
def AppPost (base : Nat) (w : World) (bs : List UInt8) (e : Ending) (w' : World) : Prop := ∃ v', e = .returned v' ∧ Bytes base w' v' bs ∧ Below base w w'
theorem bytes_app {base : Nat} {w : World} {v : Value} {bs p : List UInt8} {n : Nat} {cs : List Value} (h : w.ownsRow base 5 1 v (bs.length + n) (Lib.byteCells bs ++ cs)) (hn : n = p.length) (hc : cs = Lib.byteCells p) : Bytes base w v (bs ++ p) := by
  unfold Bytes
  rw [List.length_append, Lib.byteCells_append, ← hn, ← hc]
  exact h

theorem lit_at (w : World) (n : Nat) (l : Array Value) (t : TypeId) (xs : List Value) (hn : n = w.heap.size) (h : xs.toArray = l) : Rd (w.alloc (.cells l t)) (· < (w.alloc (.cells l t)).heap.size) (some ⟨n, 0, none⟩) xs := by subst hn; exact lit_rd w l t xs h
set_option maxHeartbeats 1000000 in
theorem app_end (base : Nat) (w : World) (v : Value) (bs : List UInt8) (x : List UInt8) (n l c : Int) (hB : Bytes base w v bs) (hb : base ≤ w.heap.size) (hN : bs.length ≤ 1000000) :
    Calls Tryd.prog 22 #[v, .agg #[.int .i64 4, .string ⟨x.toArray⟩, .int .i64 n, .int .i64 l, .int .i64 c]] w (AppPost base w (bs ++ [10])) := by
  have HO : Hid (∀ W' : World, Below w.heap.size w W' → Hid (W'.ownsRow base 5 1 v bs.length (Lib.byteCells bs))) := Lib.hid (fun W' h => own_after hB h)
  clear hB
  go_enter Tryd.func22, Tryd.ntmps22
  go_wp2_with (at_builtin; refine wpList_append_rd rfl (.tmp 9) (.tmp 10) 28 rfl base 5 _ 1 1 Tryd.underlying28 info_u8 rfl (by omega) (by omega) v bs.length (Lib.byteCells bs) rfl (HO.out _ (two_box _ _ _)).out _ _ 1 1 (Lib.byteCells [10]) rfl rfl (lit_at _ _ _ _ _ (by simp) rfl) (by simp [Lib.byteCells, Value.oneCell']) (by omega) (by simp; omega) ?_; intro v' w1 hown hbel)
  go_ret
  exact ⟨_, rfl, bytes_app hown.out rfl rfl, ((two_box w _ _).mono hb).trans hbel.out⟩

set_option maxHeartbeats 1000000 in
theorem app_num (base : Nat) (w : World) (v : Value) (bs : List UInt8) (x : List UInt8) (n l c : Int) (hB : Bytes base w v bs) (hb : base ≤ w.heap.size) (hN : bs.length ≤ 1000000) (h1 : -9223372036854775808 ≤ n) (h2 : n ≤ 9223372036854775807)
    (hT : Lib.TabBelow Tryd.prog base w "internal/strconv.uint64pow10" .u64 Lib.pow10Tab) :
    Calls Tryd.prog 22 #[v, .agg #[.int .i64 3, .string ⟨x.toArray⟩, .int .i64 n, .int .i64 l, .int .i64 c]] w (AppPost base w (bs ++ Lib.itoa n)) := by
  have hb0 : Below base w (w.alloc (.cells #[.int .i64 3, .string ⟨x.toArray⟩, .int .i64 n, .int .i64 l, .int .i64 c] 31)) := (Below.refl _ _).alloc hb _
  have hc := Tryd.strconv_AppendInt_10 base bs.length n h1 h2 v (Lib.byteCells bs) _ (World.ownsRow.alloc hB (.cells #[.int .i64 3, .string ⟨x.toArray⟩, .int .i64 n, .int .i64 l, .int .i64 c] 31)) (by simp; omega) (by omega) (hT.on hb0)
  have HCC := Lib.hid hc
  have HB0 := Lib.hid hb0
  clear hB hc hb0 hT
  go_enter Tryd.func22, Tryd.ntmps22
  go_wp2_with (go_at_call 36; refine HCC.out.mono ?_; rintro e w1 ⟨v1, rfl, hown, hnx, -⟩; have HW := Lib.hid hown; have HN := Lib.hid hnx; clear hown hnx)
  go_ret
  exact ⟨_, rfl, bytes_app HW.out rfl rfl, HB0.out.trans HN.out⟩
set_option maxHeartbeats 1000000 in
theorem app_text (base : Nat) (w : World) (v : Value) (bs : List UInt8) (k : Int) (x : List UInt8) (n l c : Int) (k4 : (k == 4) = false) (k3 : (k == 3) = false) (hB : Bytes base w v bs) (hb : base ≤ w.heap.size) (hN : bs.length + x.length ≤ 1000000) :
    Calls Tryd.prog 22 #[v, .agg #[.int .i64 k, .string ⟨x.toArray⟩, .int .i64 n, .int .i64 l, .int .i64 c]] w (AppPost base w (bs ++ x)) := by
  have hb0 : Below base w (w.alloc (.cells #[.int .i64 k, .string ⟨x.toArray⟩, .int .i64 n, .int .i64 l, .int .i64 c] 31)) := (Below.refl _ _).alloc hb _
  have HO := Lib.hid (World.ownsRow.alloc hB (.cells #[.int .i64 k, .string ⟨x.toArray⟩, .int .i64 n, .int .i64 l, .int .i64 c] 31))
  have HB0 := Lib.hid hb0
  have hsz : (ByteArray.mk x.toArray).size = x.length := by rw [Lib.size_eq]
  have HS := Lib.hid hsz
  clear hB hb0
  obtain ⟨i, hi, hz, hsize, hby⟩ := info_parts info_u8
  have HI := Lib.hid (And.intro hi (And.intro hz (And.intro hsize hby)))
  clear hi hz hsize hby hsz
  go_enter Tryd.func22, Tryd.ntmps22
  go_wp2_with (at_builtin; refine Lib.wpList_append_own_string _ rfl (.tmp 18) (.tmp 20) 28 9 rfl base 5 i Tryd.underlying28 Tryd.underlying9 HI.out.1 HI.out.2.1 HI.out.2.2.1 HI.out.2.2.2 v bs.length (Lib.byteCells bs) rfl HO.out ⟨x.toArray⟩ rfl (by rw [HS.out]; unfold maxLen; omega) (by rw [HS.out]; omega) (by simp; omega) ?_; intro v' w1 hown hg hnil; have HW := Lib.hid hown; have HG := Lib.hid hg; clear hown hg hnil)
  go_ret
  refine ⟨_, rfl, bytes_app HW.out HS.out ?_, ?_⟩
  · rfl
  · exact HB0.out.grown HG.out (by simp; omega) (fun k hk => (HO.out.lt k hk).1)

theorem app_any (base : Nat) (w : World) (v : Value) (bs : List UInt8) (t : Tok) (hB : Bytes base w v bs) (hb : base ≤ w.heap.size) (hN : bs.length + (tokB t).length ≤ 1000000) (h1 : -9223372036854775808 ≤ t.num) (h2 : t.num ≤ 9223372036854775807)
    (hT : Lib.TabBelow Tryd.prog base w "internal/strconv.uint64pow10" .u64 Lib.pow10Tab) :
    Calls Tryd.prog 22 #[v, .agg #[.int .i64 t.kind, .string ⟨t.text.toArray⟩, .int .i64 t.num, .int .i64 t.line, .int .i64 t.col]] w (AppPost base w (bs ++ tokB t)) := by
  obtain ⟨k, x, n, l, c⟩ := t
  unfold tokB at hN ⊢
  by_cases h4 : k = 4
  · subst h4
    rw [if_pos rfl]
    exact app_end base w v bs x n l c hB hb (by omega)
  · by_cases h3 : k = 3
    · subst h3
      rw [if_neg (show ¬ (3 : Int) = 4 by decide), if_pos rfl]
      exact app_num base w v bs x n l c hB hb (by omega) h1 h2 hT
    · rw [if_neg h4, if_neg h3] at hN
      rw [if_neg h4, if_neg h3]
      exact app_text base w v bs k x n l c (beq_eq_false_iff_ne.2 h4) (beq_eq_false_iff_ne.2 h3) hB hb hN
theorem conv_nil (w : World) : (convert 28 9 (.slice none 0 0)).run Tryd.prog w = .ok (.string ⟨#[]⟩) w := by kernel_rfl
theorem conv_bytes {base : Nat} {w : World} {v : Value} {bs : List UInt8} (h : Bytes base w v bs) : (convert 28 9 v).run Tryd.prog w = .ok (.string ⟨bs.toArray⟩) w := by
  have h2 := h.2
  rcases h2 with ⟨rfl, h0⟩ | ⟨g, cap, cur, rfl, -, -, -, -, -, -⟩
  · obtain rfl : bs = [] := List.eq_nil_of_length_eq_zero h0
    exact conv_nil w
  · exact run_convert_bytes_back (P := Tryd.prog) w 28 9 5 ⟨g, 0, none⟩ cap bs Tryd.underlying28 Tryd.underlying5 Tryd.underlying9 (fun j hj => World.ownsRow.cells h (g := g) rfl j _ (by simp [Lib.byteCells, hj]))

theorem tx_next {w w1 : World} {zs : List Tok} {n k : Nat} {v1 : Value} {tx p q : List UInt8} {b' : Bool} (hk : k < n) (hT : textF false zs = tx ++ (p ++ q ++ textF b' (zs.drop (k + 1)))) (hb : Bytes w.heap.size w1 v1 (tx ++ p ++ q)) (hl : Below w.heap.size w w1) :
    ∃ (k' : Nat) (b : Bool) (V3 : Value) (tx : List UInt8), V3 = v1 ∧ Value.bool b' = .bool b ∧ Value.int .i64 ((k + 1 : Nat) : Int) = .int .i64 k' ∧ k' ≤ n ∧ Hid (Bytes w.heap.size w1 V3 tx) ∧ Hid (textF false zs = tx ++ textF b (zs.drop k')) ∧ Hid (Below w.heap.size w w1) :=
  ⟨k + 1, b', v1, tx ++ p ++ q, rfl, rfl, rfl, by omega, hb, by show _ = _; rw [hT]; simp, hl⟩
/-- what an append leaves: the row it makes is the call's own; nothing below base is changed -/
theorem wpList_append_rdg {P : Program} {w : World} {ops : Array Oper} {rest : List Oper} {o : Oper} {a : Act} {Q : Exit → Act → World → Prop} (hgd : o.guard = none) (s x : Operand) (t : TypeId)
    (ho : o.op = .call { callee := .builtin .append, args := #[s, x], argTypes := #[t, t] })
    (base : Nat) (e : TypeId) (z : Value) (size bytes : Nat) (ht : P.underlying t = some (.slice e)) (hinfo : (P.info? e).map (fun i => (i.zero, i.size, i.bytes)) = some (some z, size, bytes)) (hzs : z.cells.size = size) (hsz : 0 < size) (hb16 : bytes ≤ 64)
    (v : Value) (n : Nat) (xs : List Value) (hs : a.eval s = v) (hown : w.ownsRow base e size v n xs) (S : Nat → Prop) (A : Option Addr) (m c : Nat) (news : List Value) (hx : a.eval x = .slice A m c) (hl : news.length = m * size) (hr : Rd w S A news) (h1 : ∀ u ∈ news, u.oneCell' = true)
    (hN : n + m ≤ 4000000) (hbase : base ≤ w.heap.size)
    (h : ∀ v' w', Hid (w'.ownsRow base e size v' (n + m) (xs ++ news)) → Hid (Below base w w') → Hid (w.grownBy w' v.ownBlock) → wpList P ops Q rest (a.put o.dst v') w') : wpList P ops Q (o :: rest) a w := by
  refine wpList_plain hgd fun K hK => ?_
  obtain ⟨i, hi, hz, hsize, hby⟩ := info_parts hinfo
  obtain ⟨v', w', hrun, h2, h3, h4⟩ := run_append_rd (P := P) w base t o.type e i z size bytes ht hi hz hsize hby hzs hsz v n xs hown S A m c news hl hr h1 (by simp only [maxLen]; omega)
    (by have : (n + m) * bytes ≤ 4000000 * 64 := Nat.mul_le_mul hN hb16
        omega) hbase
  unfold Oper.wp
  simp only [execOp, ho, resolve, invoke, builtin, Sem.run_bind, Sem.run_pure, Result.andThen_ok, List.map_toArray, List.map_cons, List.map_nil, hs, hx, hrun]
  exact hK _ _ (h v' w' h2 ((Below.refl _ _).grown h3 hbase (fun k hk => (hown.lt k hk).1)) h3)

theorem box_kept {w wr w1 : World} {v : Value} {n : Nat} {xs l : List Value} {o : Obj} {t : TypeId} (ho : wr.ownsRow w.heap.size 5 1 v n xs) (hg : ((wr.alloc (.cells l.toArray t)).alloc o).grownBy w1 v.ownBlock) : Blk w1 wr.heap.size t l :=
  ((Blk.new wr t l).alloc o).grown hg (fun e => by have := (ho.lt _ e.symm).2; omega)
def TxRel (w : World) (zs : List Tok) (n : Nat) (v3 v4 v10 : Value) (wr : World) : Prop :=
  ∃ (k : Nat) (b : Bool) (V3 : Value) (tx : List UInt8), V3 = v3 ∧ v4 = .bool b ∧ v10 = .int .i64 k ∧ k ≤ n ∧ Hid (Bytes w.heap.size wr V3 tx) ∧ Hid (textF false zs = tx ++ textF b (zs.drop k)) ∧ Hid (Below w.heap.size w wr)
def numOk (zs : List Tok) : Prop := ∀ t ∈ zs, -9223372036854775808 ≤ t.num ∧ t.num ≤ 9223372036854775807
def TextPost (zs : List Tok) (w : World) (e : Ending) (w' : World) : Prop := e = .returned (.string ⟨(textF false zs).toArray⟩) ∧ Below w.heap.size w w'

set_option maxHeartbeats 1000000 in
theorem text_any (w : World) (A : Option Addr) (n c : Nat) (zs : List Tok) (hn : Hid (n = zs.length)) (hN : n ≤ 1000000) (hx : Rd w (· < w.heap.size) A (tc zs)) (hl : (textF false zs).length ≤ 1000000) (hk : numOk zs) (hE : Tk.Env w) :
    Calls Tryd.prog 13 #[.slice A n c] w (TextPost zs w) := by
  have HX := Lib.hid hx
  have HL := Lib.hid hl
  have HK := Lib.hid hk
  have HT := Lib.hid (Lib.tabBelow_of_tabIs hE.tab)
  have HI : Hid (TxRel w zs n (.slice none 0 0) (.bool false) (.int .i64 ((0 : Nat) : Int)) w) := Lib.hid ⟨0, false, _, [], rfl, rfl, rfl, by omega, World.ownsRow_nil _ _ _ _, rfl, Below.refl _ _⟩
  clear hx hl hk hE
  go_enter Tryd.func13, Tryd.ntmps13
  go_wp2
  go_loopw [3, 4, 10] (fun v3 v4 v10 wr => TxRel w zs n v3 v4 v10 wr) (fun _ _ v _ => n - (intOf v).toNat)
  case atStart => exact HI.out
  case round =>
    obtain ⟨k, b, V3, tx, rfl, rfl, rfl, hk, hB, hT, hbel⟩ := hrel
    by_cases hlt : k < n
    · obtain ⟨t, ht⟩ := tok_at zs hn hlt
      obtain ⟨ad, rfl, hS, ⟨a0, a1, a2, a3, a4⟩⟩ := (HX.out.below2 hbel.out).tok ht
      have hm := HK.out t (List.mem_of_getElem? ht)
      have HM := Lib.hid hm
      have hdr : zs.drop k = t :: zs.drop (k + 1) := by
        have hkl : k < zs.length := by rw [← hn.out]; exact hlt
        rw [List.drop_eq_getElem_cons hkl]
        rw [List.getElem?_eq_getElem hkl] at ht
        rw [Option.some.inj ht]
      have hT2 : textF false zs = tx ++ ((if b && !(t.kind == 4) then [32] else []) ++ tokB t ++ textF (!(t.kind == 4)) (zs.drop (k + 1))) := by
        rw [hT.out, hdr]; rfl
      have HT2 := Lib.hid hT2
      have hlen : tx.length + (if b && !(t.kind == 4) then [32] else [] : List UInt8).length + (tokB t).length ≤ 1000000 := by
        have h1 := HL.out
        rw [hT2] at h1
        simp only [List.length_append] at h1
        omega
      have HLN := Lib.hid hlen
      obtain ⟨kd, x, nm, ln, cl⟩ := t
      clear hm hT hdr hT2 hlen ht
      have hi : (k : Int) < (n : Int) := by omega
      by_cases h4 : kd = 4
      · subst h4
        cases b
        all_goals
          go_wp2_with (first | (go_at_call 22; refine (app_any w.heap.size _ _ tx ⟨4, x, nm, ln, cl⟩ (hB.out.alloc _) (by have := hbel.out.size; simp; omega) (by have := HLN.out; simpa [tokB] using this) HM.out.1 HM.out.2 (HT.out.on (hbel.out.alloc hbel.out.size _))).mono ?_; rintro e w2 ⟨v2, rfl, hb2, hl2⟩; have HB2 := Lib.hid hb2; have HL2 := Lib.hid hl2; clear hb2 hl2))
          go_roundw
          case rel => exact tx_next (p := []) (q := tokB ⟨4, x, nm, ln, cl⟩) hlt (by first | exact HT2.out | simpa using HT2.out) (by simpa using HB2.out) ((hbel.out.alloc hbel.out.size _).trans HL2.out)
          case measure => simp [intOf]; omega
      · have hk4 : (kd == 4) = false := beq_eq_false_iff_ne.2 h4
        clear h4
        cases b with
        | false =>
          go_wp2_with (first | (go_at_call 22; refine (app_any w.heap.size _ _ tx ⟨kd, x, nm, ln, cl⟩ (hB.out.alloc _) (by have := hbel.out.size; simp; omega) (by have := HLN.out; simpa [hk4] using this) HM.out.1 HM.out.2 (HT.out.on (hbel.out.alloc hbel.out.size _))).mono ?_; rintro e w2 ⟨v2, rfl, hb2, hl2⟩; have HB2 := Lib.hid hb2; have HL2 := Lib.hid hl2; clear hb2 hl2))
          go_roundw
          case rel => exact tx_next (p := []) (q := tokB ⟨kd, x, nm, ln, cl⟩) (b' := true) hlt (by have := HT2.out; simpa [hk4] using this) (by simpa using HB2.out) ((hbel.out.alloc hbel.out.size _).trans HL2.out)
          case measure => simp [intOf]; omega
        | true =>
          have HO : Hid (∀ W' : World, Below wr.heap.size wr W' → Hid (W'.ownsRow w.heap.size 5 1 V3 tx.length (Lib.byteCells tx))) := Lib.hid (fun W' h => own_after hB.out h)
          go_wp2_with (first | (go_at_call 22; refine (app_any w.heap.size _ _ (tx ++ [32]) ⟨kd, x, nm, ln, cl⟩ HO1.out (by have := hbel.out.size; have := HB1.out.size; omega) (by have := HLN.out; simpa [hk4] using this) HM.out.1 HM.out.2 (HT.out.on (hbel.out.trans HB1.out))).mono ?_; rintro e w2 ⟨v2, rfl, hb2, hl2⟩; have HB2 := Lib.hid hb2; have HL2 := Lib.hid hl2; clear hb2 hl2) | (at_builtin; refine wpList_append_rdg rfl (.tmp 22) (.tmp 23) 28 rfl w.heap.size 5 _ 1 1 Tryd.underlying28 info_u8 rfl (by omega) (by omega) V3 tx.length (Lib.byteCells tx) rfl (HO.out _ (two_box _ _ _)).out _ _ 1 1 (Lib.byteCells [32]) rfl rfl (lit_at _ _ _ _ _ (by simp) rfl) (by simp [Lib.byteCells, Value.oneCell']) (by have := HLN.out; simp at this; omega) (by have := hbel.out.size; simp; omega) ?_; intro v1 w1 hown hb1 hg1; have KB := box_kept (l := [.int .i64 kd, .string ⟨x.toArray⟩, .int .i64 nm, .int .i64 ln, .int .i64 cl]) hB.out hg1.out; have q0 : w1.cell? ⟨wr.heap.size, 0, none⟩ = some (.int .i64 kd) := KB.cell 0; have q1 : w1.cell? ⟨wr.heap.size, 1, none⟩ = some (.string ⟨x.toArray⟩) := KB.cell 1; have q2 : w1.cell? ⟨wr.heap.size, 2, none⟩ = some (.int .i64 nm) := KB.cell 2; have q3 : w1.cell? ⟨wr.heap.size, 3, none⟩ = some (.int .i64 ln) := KB.cell 3; have q4 : w1.cell? ⟨wr.heap.size, 4, none⟩ = some (.int .i64 cl) := KB.cell 4; clear KB hg1; have HO1 := Lib.hid (bytes_app hown.out rfl rfl); have HB1 := Lib.hid (((two_box wr _ _).mono hbel.out.size).trans hb1.out); clear hown hb1))
          go_roundw
          case rel => exact tx_next (p := [32]) (q := tokB ⟨kd, x, nm, ln, cl⟩) (b' := true) hlt (by have := HT2.out; simpa [hk4] using this) HB2.out ((hbel.out.trans HB1.out).trans HL2.out)
          case measure => simp [intOf]; omega
    · have hd0 : zs.drop k = [] := List.drop_eq_nil_of_le (by rw [← hn.out]; omega)
      have hcv := conv_bytes hB.out
      have HR : Hid (textF false zs = tx) := Lib.hid (by rw [hT.out, hd0]; simp [textF])
      clear hd0
      go_wp2
      go_ret
      exact ⟨Tk.ret_s HR.out, hbel.out⟩
end Go.Proofs.YtgcphhialllieaaDoor.Lx
