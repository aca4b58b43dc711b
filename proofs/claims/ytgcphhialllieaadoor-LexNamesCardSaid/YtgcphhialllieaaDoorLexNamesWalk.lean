/- The chapter's examples, walked. Conditions: the library's variables hold what start-up lays. -/
import Derived.Test.YtgcphhialllieaaDoorLexLives
import Derived.Test.YtgcphhialllieaaDoorLexName
import Derived.Test.YtgcphhialllieaaDoorLexText
namespace Go.Proofs.YtgcphhialllieaaDoor.Lx
open Go.ChangeShapes Go.WideShapes Go.ChangeAt Go.RowKit
set_option linter.unusedVariables false

theorem run_mk {t e : TypeId} {z : Value} {bytes : Nat} (ht : Tryd.prog.underlying t = some (.slice e)) (hinfo : (Tryd.prog.info? e).map (fun i => (i.zero, i.size, i.bytes)) = some (some z, 1, bytes)) (hb : bytes ≤ 16) (hz1 : z.cells = #[z])
    (k n : Nat) (hk : k ≤ n) (hn : n ≤ 2000000) (w : World) : (Instr.makeSlice t (.int .i64 (k : Int)) (.int .i64 (n : Int))).run Tryd.prog w = .ok (.slice (some ⟨w.heap.size, 0, none⟩) k n) (w.alloc (.cells (List.replicate n z).toArray e)) := by
  obtain ⟨i, hi, hz, hs, hby⟩ := info_parts hinfo
  have h := run_make (P := Tryd.prog) w t e i z ht hi hz .i64 .i64 (k : Int) (n : Int) (by omega) (by omega) (by
    have h1 : ((i.bytes : Int)) ≤ 16 := by omega
    have h2 : (i.bytes : Int) * (n : Int) ≤ 16 * 2000000 := Int.mul_le_mul h1 (by omega) (by omega) (by omega)
    omega) (by omega)
  rw [← toList_madeCells_one, ← hz1]
  simpa [hs] using h
/-- a text of so many bytes 0 -/
theorem zeros_text (w : World) : ∃ (N : Nat) (Z : ByteArray) (ZC : Array Value), Hid (Z.size = 65537) ∧
    (∀ W : World, (Instr.makeSlice 28 (.int .i64 65537) (.int .i64 65537)).run Tryd.prog W = .ok (.slice (some ⟨W.heap.size, 0, none⟩) N N) (W.alloc (.cells ZC 5))) ∧
    (convert 28 9 (.slice (some ⟨w.heap.size, 0, none⟩) N N)).run Tryd.prog (w.alloc (.cells ZC 5)) = .ok (.string Z) (w.alloc (.cells ZC 5)) := by
  obtain ⟨N, hN⟩ : ∃ N : Nat, N = 65537 := ⟨_, rfl⟩
  refine ⟨N, ⟨(List.replicate N (0 : UInt8)).toArray⟩, (List.replicate N (Value.int .u8 0)).toArray, ?_, fun W => ?_, ?_⟩
  · show _ = _; rw [Lib.size_eq]; show (List.replicate N (0 : UInt8)).toArray.toList.length = _; rw [List.toList_toArray, List.length_replicate, hN]
  · have h := run_mk Tryd.underlying28 info_u8 (by omega) rfl N N (Nat.le_refl _) (by omega) W
    have e : ((N : Nat) : Int) = 65537 := by rw [hN]; rfl
    rw [e] at h
    exact h
  · have ho := World.ownsRow_lit (base := w.heap.size) (e := 5) (size := 1) w (List.replicate N (Value.int .u8 0)).toArray N (Nat.le_refl _) (by unfold maxLen; omega) (by rw [List.size_toArray, List.length_replicate, Nat.mul_one])
    have hb : Bytes w.heap.size (w.alloc (.cells (List.replicate N (Value.int .u8 0)).toArray 5)) (.slice (some ⟨w.heap.size, 0, none⟩) N N) (List.replicate N (0 : UInt8)) := by
      unfold Bytes Lib.byteCells
      rw [List.length_replicate, List.map_replicate]
      rw [List.toList_toArray] at ho
      exact ho
    exact conv_bytes hb

def namesT : List Tok := [⟨3, [55], 7, 1, 1⟩, ⟨1, [97], 0, 1, 3⟩, ⟨4, [], 0, 1, 4⟩]
theorem tok_same {w : World} {S : Nat → Prop} {ad : Addr} {zs : List Tok} (h : Rd w S (some ad) (tc zs)) {k : Nat} {t : Tok} (hk : zs[k]? = some t) : TokC w (ad.add (k * 5)) t := by
  obtain ⟨a, e, _, ht⟩ := h.tok hk
  injection e with e
  rw [e]; exact ht
theorem names_text : textF false namesT = [55, 32, 97, 10] := by decide +kernel
theorem n1 : lexAll ⟨#[97, 10, 32, 32, 49, 48, 57, 57, 53, 49, 49, 54, 50, 55, 55, 55, 55]⟩ = .bad 3 2 3 := by rfl
theorem n2 : lexAll ⟨#[97, 98, 99, 100, 101, 102, 103, 104, 105, 106, 107, 108, 109, 110, 111, 112, 113, 114, 115, 116, 117, 118, 119, 120, 121]⟩ = .bad 3 1 1 := by rfl
theorem n3 : lexAll ⟨#[97, 32, 65]⟩ = .bad 7 1 3 := by rfl
theorem n4 : lexAll ⟨#[55, 32, 97]⟩ = .ok namesT := by rfl
set_option maxRecDepth 100000 in
set_option maxHeartbeats 2000000 in
theorem names_all (w : World) (hE : Tk.Env w) : Calls Tryd.prog 3 #[] w fun e w' => e = .returned (.bool true) ∧ Below w.heap.size w w' := by
  obtain ⟨N, Z, ZC, HZ, hmk, hcv⟩ := zeros_text w
  have HE := Lib.hid hE
  have C0 := Lib.hid (fun w' (h : Below w.heap.size w w') => all_bad (s := Z) (er := 3) (l := 1) (c := 1) (by unfold lexAll; rw [if_pos (by rw [HZ.out]; omega)]) w' (hE.on h))
  have C1 := Lib.hid (fun w' (h : Below w.heap.size w w') => all_bad n1 w' (hE.on h))
  have C2 := Lib.hid (fun w' (h : Below w.heap.size w w') => all_bad n2 w' (hE.on h))
  have C3 := Lib.hid (fun w' (h : Below w.heap.size w w') => all_bad n3 w' (hE.on h))
  have C4 : Hid (∀ w', Below w.heap.size w w' → Calls Tryd.prog 9 #[.string ⟨#[55, 32, 97]⟩] w' fun e w2 => ∃ A c, e = .returned (.tuple #[.slice A 3 c, .agg #[.int .i64 0, .int .i64 0, .int .i64 0]]) ∧ Rd w2 (fun b => w'.heap.size ≤ b ∧ b < w2.heap.size) A (tc namesT) ∧ Below w'.heap.size w' w2) :=
    Lib.hid (fun w' h => (all_ok n4 w' (hE.on h)).mono fun e w2 ⟨A, c, h1, _, h2, h3⟩ => ⟨A, c, h1, h2, h3⟩)
  have N1 : Hid (∀ w', Calls Tryd.prog 11 #[.string ⟨#[97, 45, 98, 95, 50]⟩] w' (NamePost w' true)) := Lib.hid (fun w' => name_any ⟨#[97, 45, 98, 95, 50]⟩ w')
  have N2 : Hid (∀ w', Calls Tryd.prog 11 #[.string ⟨#[111, 112, 101, 110]⟩] w' (NamePost w' false)) := Lib.hid (fun w' => name_any ⟨#[111, 112, 101, 110]⟩ w')
  have N3 : Hid (∀ w', Calls Tryd.prog 11 #[.string ⟨#[50, 97]⟩] w' (NamePost w' false)) := Lib.hid (fun w' => name_any ⟨#[50, 97]⟩ w')
  have Q1 : Hid (∀ w', Calls Tryd.prog 12 #[.string ⟨#[115, 116, 97, 121]⟩] w' fun e w'' => e = .returned (.bool true) ∧ w' = w'') := Lib.hid (fun w' => reserved_any ⟨#[115, 116, 97, 121]⟩ w')
  have Q2 : Hid (∀ w', Calls Tryd.prog 12 #[.string ⟨#[100, 101, 108, 97, 121]⟩] w' fun e w'' => e = .returned (.bool false) ∧ w' = w'') := Lib.hid (fun w' => reserved_any ⟨#[100, 101, 108, 97, 121]⟩ w')
  have TX : Hid (∀ w' A c, Below w.heap.size w w' → Rd w' (· < w'.heap.size) A (tc namesT) → Calls Tryd.prog 13 #[.slice A 3 c] w' fun e w'' => e = .returned (.string ⟨#[55, 32, 97, 10]⟩) ∧ Below w'.heap.size w' w'') :=
    Lib.hid (fun w' A c h hr => text_any w' A 3 c namesT rfl (by omega) hr (by rw [names_text]; decide) (by intro t ht; simp [namesT] at ht; rcases ht with rfl | rfl | rfl <;> simp) (hE.on h) |>.mono fun e w'' h' => by
      obtain ⟨h1, h2⟩ := h'
      rw [names_text] at h1
      exact ⟨h1, h2⟩)
  clear hE
  go_enter Tryd.func3, Tryd.ntmps3
  go_wp2_with (first
    | (go_at_call 9; ((with_reducible refine (C0.out _ (one_box _ _)).mono ?_); rintro e w1 ⟨rfl, hb⟩; have G1 := Lib.hid (keep_trans (one_box _ _) hb); clear hb))
    | (go_at_call 9; ((with_reducible refine (C1.out _ (keep_trans G1.out (one_box _ _))).mono ?_); rintro e w2 ⟨rfl, hb⟩; have K1 := Lib.hid ((Blk.new w1 25 [.int .i64 3, .int .i64 1, .int .i64 1]).after hb); have G2 := Lib.hid (keep_trans (keep_trans G1.out (one_box _ _)) hb); clear hb))
    | (go_at_call 9; ((with_reducible refine (C2.out _ (keep_trans G2.out (one_box _ _))).mono ?_); rintro e w3 ⟨rfl, hb⟩; have K2 := Lib.hid ((Blk.new w2 25 [.int .i64 3, .int .i64 2, .int .i64 3]).after hb); have H3 := Lib.hid (keep_trans (one_box w2 (.cells #[.int .i64 3, .int .i64 2, .int .i64 3] 25)) hb); have G3 := Lib.hid (keep_trans G2.out H3.out); clear hb))
    | (go_at_call 9; ((with_reducible refine (C3.out _ (keep_trans G3.out (one_box _ _))).mono ?_); rintro e w4 ⟨rfl, hb⟩; have K3 := Lib.hid ((Blk.new w3 25 [.int .i64 3, .int .i64 1, .int .i64 1]).after hb); have H4 := Lib.hid (keep_trans (one_box w3 (.cells #[.int .i64 3, .int .i64 1, .int .i64 1] 25)) hb); have G4 := Lib.hid (keep_trans G3.out H4.out); clear hb))
    | (go_at_call 9; ((with_reducible refine (C4.out _ (keep_trans G4.out (one_box _ _))).mono ?_); rintro e w5 ⟨A, c, rfl, hrd, hb⟩; have R5 := Lib.hid hrd.old; have K4 := Lib.hid ((Blk.new w4 25 [.int .i64 7, .int .i64 1, .int .i64 3]).after hb); have H5 := Lib.hid (keep_trans (one_box w4 (.cells #[.int .i64 7, .int .i64 1, .int .i64 3] 25)) hb); have G5 := Lib.hid (keep_trans G4.out H5.out); clear hb hrd))
    | (go_at_call 10; refine (lives_any _ (HE.out.on (keep_trans G5.out (one_box _ _)))).mono ?_; rintro e w6 ⟨rfl, hb⟩; have H6 := Lib.hid (keep_trans (one_box w5 (.cells #[.int .i64 0, .int .i64 0, .int .i64 0] 25)) hb); have F5 := Lib.hid ((Blk.new w5 25 [.int .i64 0, .int .i64 0, .int .i64 0]).after hb); have F4 := Lib.hid (K4.out.after H6.out); have F3 := Lib.hid (K3.out.after (keep_trans H5.out H6.out)); have F2 := Lib.hid (K2.out.after (keep_trans (keep_trans H4.out H5.out) H6.out)); have F1 := Lib.hid (K1.out.after (keep_trans (keep_trans (keep_trans H3.out H4.out) H5.out) H6.out)); have R6 := Lib.hid (R5.out.later H6.out); have G6 := Lib.hid (keep_trans G5.out H6.out); clear hb; have f10 : w6.cell? ⟨w1.heap.size, 0, none⟩ = some (.int .i64 3) := F1.out.cell 0; have f11 : w6.cell? ⟨w1.heap.size, 1, none⟩ = some (.int .i64 1) := F1.out.cell 1; have f12 : w6.cell? ⟨w1.heap.size, 2, none⟩ = some (.int .i64 1) := F1.out.cell 2; have f20 : w6.cell? ⟨w2.heap.size, 0, none⟩ = some (.int .i64 3) := F2.out.cell 0; have f21 : w6.cell? ⟨w2.heap.size, 1, none⟩ = some (.int .i64 2) := F2.out.cell 1; have f22 : w6.cell? ⟨w2.heap.size, 2, none⟩ = some (.int .i64 3) := F2.out.cell 2; have f30 : w6.cell? ⟨w3.heap.size, 0, none⟩ = some (.int .i64 3) := F3.out.cell 0; have f31 : w6.cell? ⟨w3.heap.size, 1, none⟩ = some (.int .i64 1) := F3.out.cell 1; have f32 : w6.cell? ⟨w3.heap.size, 2, none⟩ = some (.int .i64 1) := F3.out.cell 2; have f40 : w6.cell? ⟨w4.heap.size, 0, none⟩ = some (.int .i64 7) := F4.out.cell 0; have f41 : w6.cell? ⟨w4.heap.size, 1, none⟩ = some (.int .i64 1) := F4.out.cell 1; have f42 : w6.cell? ⟨w4.heap.size, 2, none⟩ = some (.int .i64 3) := F4.out.cell 2; have f50 : w6.cell? ⟨w5.heap.size, 0, none⟩ = some (.int .i64 0) := F5.out.cell 0; have f51 : w6.cell? ⟨w5.heap.size, 1, none⟩ = some (.int .i64 0) := F5.out.cell 1; have f52 : w6.cell? ⟨w5.heap.size, 2, none⟩ = some (.int .i64 0) := F5.out.cell 2; obtain ⟨ad, rfl, -, t0⟩ := R6.out.tok (k := 0) (t := ⟨3, [55], 7, 1, 1⟩) rfl; have t2 := (tok_same R6.out (k := 2) (t := ⟨4, [], 0, 1, 4⟩) rfl); have u0 : w6.cell? ⟨ad.block, ad.off + 2, none⟩ = some (.int .i64 7) := t0.c2; have v0 : w6.cell? ⟨ad.block, ad.off + 10, none⟩ = some (.int .i64 4) := t2.c0; have v1 : w6.cell? ⟨ad.block, ad.off + 10 + 1, none⟩ = some (.string ⟨#[]⟩) := t2.c1; have v2 : w6.cell? ⟨ad.block, ad.off + 10 + 2, none⟩ = some (.int .i64 0) := t2.c2; have v3 : w6.cell? ⟨ad.block, ad.off + 10 + 3, none⟩ = some (.int .i64 1) := t2.c3; have v4 : w6.cell? ⟨ad.block, ad.off + 10 + 4, none⟩ = some (.int .i64 4) := t2.c4; clear t0 t2)
    | (go_at_call 11; ((with_reducible refine (N1.out _).mono ?_); rintro e w7 ⟨rfl, hb⟩; have GN := Lib.hid (keep_trans G6.out hb); have RN := Lib.hid (R6.out.later hb); clear hb))
    | (go_at_call 11; ((with_reducible refine (N2.out _).mono ?_); rintro e w7 ⟨rfl, hb⟩; have GN := Lib.hid (keep_trans GN.out hb); have RN := Lib.hid (RN.out.later hb); clear hb))
    | (go_at_call 11; ((with_reducible refine (N3.out _).mono ?_); rintro e w7 ⟨rfl, hb⟩; have GN := Lib.hid (keep_trans GN.out hb); have RN := Lib.hid (RN.out.later hb); clear hb))
    | (go_at_call 12; ((with_reducible refine (Q1.out _).mono ?_); rintro e w8 ⟨rfl, rfl⟩))
    | (go_at_call 12; ((with_reducible refine (Q2.out _).mono ?_); rintro e w8 ⟨rfl, rfl⟩))
    | (go_at_call 13; refine (TX.out _ _ _ GN.out RN.out).mono ?_; rintro e w9 ⟨rfl, hb⟩; have GT := Lib.hid (keep_trans GN.out hb); clear hb))
  go_ret
  exact ⟨rfl, GT.out⟩
end Go.Proofs.YtgcphhialllieaaDoor.Lx
