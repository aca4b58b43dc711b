/- Package sheet's put, at each kind of things: the line's end is taken, the thing laid behind the others, or there is too much. Conditions: the row is the call's own. · The sheet that is read so far, as it lies; what a line leaves. · A sheet as it lies in memory. · Package sheet's reader: each kind of line, proved by walking its text. Conditions: a token is to come. -/
import Derived.Test.YteonmabfhilcfaaGreatDoorSheetOne
import Derived.RegionDies
namespace Go.Proofs.YteonmabfhilcfaaGreatDoor.Sh
open Go.ChangeShapes Go.WideShapes Go.ChangeAt Go.RowKit
open Lx
set_option linter.unusedVariables false

theorem info_Str : (Tryz.prog.info? 9).map (fun i => (i.zero, i.size, i.bytes)) = some (some (.string ⟨#[]⟩), 1, 16) := by kernel_rfl
set_option maxRecDepth 100000 in
set_option maxHeartbeats 2000000 in
theorem put_Str {w : World} {B : Nat} {toks ts : List Tok} {q : List Value} {first : Tok} (h : Cur w B toks (fc first ++ q) ts) (he : EndL ts) (n : Nat) (v : Value) (xs : List Value) (hown : w.ownsRow (B + 1) 9 1 v n xs) (hn : n ≤ 1024) (x0 : List UInt8) :
    Calls Tryz.prog 111 #[.pointer (some ⟨B, 0, none⟩), v, .int .i64 256, .string ⟨x0.toArray⟩] w (PutPost w B toks (fc first ++ q) 9 1 v n xs [.string ⟨x0.toArray⟩] (endM n 256 first ts)) := by
  have HA := Lib.hid (fun w1 (hw : Below w.heap.size w w1) => take_any (h.after hw) he 4)
  have HO := Lib.hid hown
  have HX := Lib.hid h.lt
  obtain ⟨A, c, rfl, hnc, hrd⟩ := own_form hown
  obtain ⟨fk, fx, fn, fl, fcol⟩ := first
  unfold endM
  cases hp : takeM 4 ts with
  | bad er l cc =>
    rw [hp] at HA
    clear hp h he hown hrd hnc
    rw [bind_bad]
    go_enter Tryz.func111, Tryz.ntmps111
    go_wp2_with (go_at_call 110; refine (HA.out _ (Below.refl _ _)).mono ?_; rintro e w1 ⟨rfl, hc⟩)
    exact ⟨rfl, rfl, (Ch.of_below (Below.refl _ _)).trans hc⟩
  | ok t r =>
    rw [hp] at HA
    rw [bind_ok]
    clear hp h he hown hrd hnc
    dsimp only
    by_cases hm : 256 ≤ n
    · rw [if_pos hm]
      have hmi : (256 : Int) ≤ (n : Int) := by omega
      have HR := Lib.hid (fun w' => refuse_any (.pointer (some ⟨B, 0, none⟩)) 3 ⟨fk, fx, fn, fl, fcol⟩ w')
      clear hm
      go_enter Tryz.func111, Tryz.ntmps111
      go_wp2_with (first
        | (go_at_call 110; refine (HA.out _ (Below.refl _ _)).mono ?_; rintro e w1 ⟨rfl, hc, hch⟩; have HC := Lib.hid hc; have HCH := Lib.hid ((Ch.of_below (Below.refl _ _)).trans hch); obtain ⟨f0, f1, f2, f3, f4⟩ := first_cells hc; dsimp only at f0 f1 f2 f3 f4; clear hc hch)
        | (go_at_call 57; refine (HR.out _).mono ?_; rintro e w2 ⟨rfl, hb2⟩))
      exact ⟨rfl, rfl, HCH.out.trans (.of_below hb2)⟩
    · rw [if_neg hm]
      have hmi : (n : Int) < (256 : Int) := by omega
      clear hm
      go_enter Tryz.func111, Tryz.ntmps111
      go_wp2_with (first
        | (go_at_call 110; refine (HA.out _ (Below.refl _ _)).mono ?_; rintro e w1 ⟨rfl, hc, hch⟩; have HC := Lib.hid hc; have HCH := Lib.hid ((Ch.of_below (Below.refl _ _)).trans hch); have HO1 := Lib.hid (HCH.out.own HO.out (fun k hk e => by have := (HO.out.lt k hk).1; omega)); clear hc hch)
        | (at_builtin; refine wpList_append_ch rfl (.tmp 21) (.tmp 23) 22 rfl (B + 1) 9 _ 1 16 Tryz.underlying22 info_Str rfl (by omega) (by omega) (.slice A n c) n xs rfl (HO1.out.alloc _) _ _ 1 1 [.string ⟨x0.toArray⟩] rfl rfl (lit_at _ _ _ _ _ (by simp) rfl) (by simp [Value.oneCell']) (by omega) (by have := HX.out; have := HCH.out.size; simp; omega) ?_; intro v' w2 hown2 hg2 hob))
      go_ret
      exact put_done HC.out HCH.out HO.out hown2.out hg2.out hob.out

theorem info_Path : (Tryz.prog.info? 58).map (fun i => (i.zero, i.size, i.bytes)) = some (some (.agg #[.string ⟨#[]⟩, .string ⟨#[]⟩, .string ⟨#[]⟩, .int .i64 0]), 4, 56) := by kernel_rfl
set_option maxRecDepth 100000 in
set_option maxHeartbeats 2000000 in
theorem put_Path {w : World} {B : Nat} {toks ts : List Tok} {q : List Value} {first : Tok} (h : Cur w B toks (fc first ++ q) ts) (he : EndL ts) (n : Nat) (v : Value) (xs : List Value) (hown : w.ownsRow (B + 1) 58 4 v n xs) (hn : n ≤ 1024) (x0 : List UInt8) (x1 : List UInt8) (x2 : List UInt8) (x3 : Int) :
    Calls Tryz.prog 113 #[.pointer (some ⟨B, 0, none⟩), v, .int .i64 1024, .agg #[.string ⟨x0.toArray⟩, .string ⟨x1.toArray⟩, .string ⟨x2.toArray⟩, .int .i64 x3]] w (PutPost w B toks (fc first ++ q) 58 4 v n xs [.string ⟨x0.toArray⟩, .string ⟨x1.toArray⟩, .string ⟨x2.toArray⟩, .int .i64 x3] (endM n 1024 first ts)) := by
  have HA := Lib.hid (fun w1 (hw : Below w.heap.size w w1) => take_any (h.after hw) he 4)
  have HO := Lib.hid hown
  have HX := Lib.hid h.lt
  obtain ⟨A, c, rfl, hnc, hrd⟩ := own_form hown
  obtain ⟨fk, fx, fn, fl, fcol⟩ := first
  unfold endM
  cases hp : takeM 4 ts with
  | bad er l cc =>
    rw [hp] at HA
    clear hp h he hown hrd hnc
    rw [bind_bad]
    go_enter Tryz.func113, Tryz.ntmps113
    go_wp2_with (go_at_call 110; refine (HA.out _ (one_box _ _)).mono ?_; rintro e w1 ⟨rfl, hc⟩)
    exact ⟨rfl, rfl, (Ch.of_below (one_box _ _)).trans hc⟩
  | ok t r =>
    rw [hp] at HA
    rw [bind_ok]
    clear hp h he hown hrd hnc
    dsimp only
    by_cases hm : 1024 ≤ n
    · rw [if_pos hm]
      have hmi : (1024 : Int) ≤ (n : Int) := by omega
      have HR := Lib.hid (fun w' => refuse_any (.pointer (some ⟨B, 0, none⟩)) 3 ⟨fk, fx, fn, fl, fcol⟩ w')
      clear hm
      go_enter Tryz.func113, Tryz.ntmps113
      go_wp2_with (first
        | (go_at_call 110; refine (HA.out _ (one_box _ _)).mono ?_; rintro e w1 ⟨rfl, hc, hch⟩; have HC := Lib.hid hc; have HCH := Lib.hid ((Ch.of_below (one_box _ _)).trans hch); obtain ⟨f0, f1, f2, f3, f4⟩ := first_cells hc; dsimp only at f0 f1 f2 f3 f4; clear hc hch)
        | (go_at_call 57; refine (HR.out _).mono ?_; rintro e w2 ⟨rfl, hb2⟩))
      exact ⟨rfl, rfl, HCH.out.trans (.of_below hb2)⟩
    · rw [if_neg hm]
      have hmi : (n : Int) < (1024 : Int) := by omega
      clear hm
      go_enter Tryz.func113, Tryz.ntmps113
      go_wp2_with (first
        | (go_at_call 110; refine (HA.out _ (one_box _ _)).mono ?_; rintro e w1 ⟨rfl, hc, hch⟩; have HC := Lib.hid hc; have HCH := Lib.hid ((Ch.of_below (one_box _ _)).trans hch); have HO1 := Lib.hid (HCH.out.own HO.out (fun k hk e => by have := (HO.out.lt k hk).1; omega)); have KB := Lib.hid (hch.blk (Blk.new w 58 [.string ⟨x0.toArray⟩, .string ⟨x1.toArray⟩, .string ⟨x2.toArray⟩, .int .i64 x3]) (by have := HX.out; omega)); have k0 : ∀ o, (w1.alloc o).cell? ⟨w.heap.size, 0, none⟩ = some (.string ⟨x0.toArray⟩) := fun o => (KB.out.alloc o).cell 0; have k0' : w1.cell? ⟨w.heap.size, 0, none⟩ = some (.string ⟨x0.toArray⟩) := KB.out.cell 0; have k1 : ∀ o, (w1.alloc o).cell? ⟨w.heap.size, 1, none⟩ = some (.string ⟨x1.toArray⟩) := fun o => (KB.out.alloc o).cell 1; have k1' : w1.cell? ⟨w.heap.size, 1, none⟩ = some (.string ⟨x1.toArray⟩) := KB.out.cell 1; have k2 : ∀ o, (w1.alloc o).cell? ⟨w.heap.size, 2, none⟩ = some (.string ⟨x2.toArray⟩) := fun o => (KB.out.alloc o).cell 2; have k2' : w1.cell? ⟨w.heap.size, 2, none⟩ = some (.string ⟨x2.toArray⟩) := KB.out.cell 2; have k3 : ∀ o, (w1.alloc o).cell? ⟨w.heap.size, 3, none⟩ = some (.int .i64 x3) := fun o => (KB.out.alloc o).cell 3; have k3' : w1.cell? ⟨w.heap.size, 3, none⟩ = some (.int .i64 x3) := KB.out.cell 3; clear hc hch)
        | (at_builtin; refine wpList_append_ch rfl (.tmp 21) (.tmp 23) 23 rfl (B + 1) 58 _ 4 56 Tryz.underlying23 info_Path rfl (by omega) (by omega) (.slice A n c) n xs rfl (HO1.out.alloc _) _ _ 1 1 [.string ⟨x0.toArray⟩, .string ⟨x1.toArray⟩, .string ⟨x2.toArray⟩, .int .i64 x3] rfl rfl (lit_at _ _ _ _ _ (by simp) rfl) (by simp [Value.oneCell']) (by omega) (by have := HX.out; have := HCH.out.size; simp; omega) ?_; intro v' w2 hown2 hg2 hob))
      go_ret
      exact put_done HC.out HCH.out HO.out hown2.out hg2.out hob.out

theorem info_Door : (Tryz.prog.info? 41).map (fun i => (i.zero, i.size, i.bytes)) = some (some (.agg #[.string ⟨#[]⟩, .string ⟨#[]⟩, .string ⟨#[]⟩, .int .i64 0, .int .i64 0, .int .i64 0, .int .i64 0]), 7, 80) := by kernel_rfl
set_option maxRecDepth 100000 in
set_option maxHeartbeats 2000000 in
theorem put_Door {w : World} {B : Nat} {toks ts : List Tok} {q : List Value} {first : Tok} (h : Cur w B toks (fc first ++ q) ts) (he : EndL ts) (n : Nat) (v : Value) (xs : List Value) (hown : w.ownsRow (B + 1) 41 7 v n xs) (hn : n ≤ 1024) (x0 : List UInt8) (x1 : List UInt8) (x2 : List UInt8) (x3 : Int) (x4 : Int) (x5 : Int) (x6 : Int) :
    Calls Tryz.prog 115 #[.pointer (some ⟨B, 0, none⟩), v, .int .i64 256, .agg #[.string ⟨x0.toArray⟩, .string ⟨x1.toArray⟩, .string ⟨x2.toArray⟩, .int .i64 x3, .int .i64 x4, .int .i64 x5, .int .i64 x6]] w (PutPost w B toks (fc first ++ q) 41 7 v n xs [.string ⟨x0.toArray⟩, .string ⟨x1.toArray⟩, .string ⟨x2.toArray⟩, .int .i64 x3, .int .i64 x4, .int .i64 x5, .int .i64 x6] (endM n 256 first ts)) := by
  have HA := Lib.hid (fun w1 (hw : Below w.heap.size w w1) => take_any (h.after hw) he 4)
  have HO := Lib.hid hown
  have HX := Lib.hid h.lt
  obtain ⟨A, c, rfl, hnc, hrd⟩ := own_form hown
  obtain ⟨fk, fx, fn, fl, fcol⟩ := first
  unfold endM
  cases hp : takeM 4 ts with
  | bad er l cc =>
    rw [hp] at HA
    clear hp h he hown hrd hnc
    rw [bind_bad]
    go_enter Tryz.func115, Tryz.ntmps115
    go_wp2_with (go_at_call 110; refine (HA.out _ (one_box _ _)).mono ?_; rintro e w1 ⟨rfl, hc⟩)
    exact ⟨rfl, rfl, (Ch.of_below (one_box _ _)).trans hc⟩
  | ok t r =>
    rw [hp] at HA
    rw [bind_ok]
    clear hp h he hown hrd hnc
    dsimp only
    by_cases hm : 256 ≤ n
    · rw [if_pos hm]
      have hmi : (256 : Int) ≤ (n : Int) := by omega
      have HR := Lib.hid (fun w' => refuse_any (.pointer (some ⟨B, 0, none⟩)) 3 ⟨fk, fx, fn, fl, fcol⟩ w')
      clear hm
      go_enter Tryz.func115, Tryz.ntmps115
      go_wp2_with (first
        | (go_at_call 110; refine (HA.out _ (one_box _ _)).mono ?_; rintro e w1 ⟨rfl, hc, hch⟩; have HC := Lib.hid hc; have HCH := Lib.hid ((Ch.of_below (one_box _ _)).trans hch); obtain ⟨f0, f1, f2, f3, f4⟩ := first_cells hc; dsimp only at f0 f1 f2 f3 f4; clear hc hch)
        | (go_at_call 57; refine (HR.out _).mono ?_; rintro e w2 ⟨rfl, hb2⟩))
      exact ⟨rfl, rfl, HCH.out.trans (.of_below hb2)⟩
    · rw [if_neg hm]
      have hmi : (n : Int) < (256 : Int) := by omega
      clear hm
      go_enter Tryz.func115, Tryz.ntmps115
      go_wp2_with (first
        | (go_at_call 110; refine (HA.out _ (one_box _ _)).mono ?_; rintro e w1 ⟨rfl, hc, hch⟩; have HC := Lib.hid hc; have HCH := Lib.hid ((Ch.of_below (one_box _ _)).trans hch); have HO1 := Lib.hid (HCH.out.own HO.out (fun k hk e => by have := (HO.out.lt k hk).1; omega)); have KB := Lib.hid (hch.blk (Blk.new w 41 [.string ⟨x0.toArray⟩, .string ⟨x1.toArray⟩, .string ⟨x2.toArray⟩, .int .i64 x3, .int .i64 x4, .int .i64 x5, .int .i64 x6]) (by have := HX.out; omega)); have k0 : ∀ o, (w1.alloc o).cell? ⟨w.heap.size, 0, none⟩ = some (.string ⟨x0.toArray⟩) := fun o => (KB.out.alloc o).cell 0; have k0' : w1.cell? ⟨w.heap.size, 0, none⟩ = some (.string ⟨x0.toArray⟩) := KB.out.cell 0; have k1 : ∀ o, (w1.alloc o).cell? ⟨w.heap.size, 1, none⟩ = some (.string ⟨x1.toArray⟩) := fun o => (KB.out.alloc o).cell 1; have k1' : w1.cell? ⟨w.heap.size, 1, none⟩ = some (.string ⟨x1.toArray⟩) := KB.out.cell 1; have k2 : ∀ o, (w1.alloc o).cell? ⟨w.heap.size, 2, none⟩ = some (.string ⟨x2.toArray⟩) := fun o => (KB.out.alloc o).cell 2; have k2' : w1.cell? ⟨w.heap.size, 2, none⟩ = some (.string ⟨x2.toArray⟩) := KB.out.cell 2; have k3 : ∀ o, (w1.alloc o).cell? ⟨w.heap.size, 3, none⟩ = some (.int .i64 x3) := fun o => (KB.out.alloc o).cell 3; have k3' : w1.cell? ⟨w.heap.size, 3, none⟩ = some (.int .i64 x3) := KB.out.cell 3; have k4 : ∀ o, (w1.alloc o).cell? ⟨w.heap.size, 4, none⟩ = some (.int .i64 x4) := fun o => (KB.out.alloc o).cell 4; have k4' : w1.cell? ⟨w.heap.size, 4, none⟩ = some (.int .i64 x4) := KB.out.cell 4; have k5 : ∀ o, (w1.alloc o).cell? ⟨w.heap.size, 5, none⟩ = some (.int .i64 x5) := fun o => (KB.out.alloc o).cell 5; have k5' : w1.cell? ⟨w.heap.size, 5, none⟩ = some (.int .i64 x5) := KB.out.cell 5; have k6 : ∀ o, (w1.alloc o).cell? ⟨w.heap.size, 6, none⟩ = some (.int .i64 x6) := fun o => (KB.out.alloc o).cell 6; have k6' : w1.cell? ⟨w.heap.size, 6, none⟩ = some (.int .i64 x6) := KB.out.cell 6; clear hc hch)
        | (at_builtin; refine wpList_append_ch rfl (.tmp 21) (.tmp 23) 24 rfl (B + 1) 41 _ 7 80 Tryz.underlying24 info_Door rfl (by omega) (by omega) (.slice A n c) n xs rfl (HO1.out.alloc _) _ _ 1 1 [.string ⟨x0.toArray⟩, .string ⟨x1.toArray⟩, .string ⟨x2.toArray⟩, .int .i64 x3, .int .i64 x4, .int .i64 x5, .int .i64 x6] rfl rfl (lit_at _ _ _ _ _ (by simp) rfl) (by simp [Value.oneCell']) (by omega) (by have := HX.out; have := HCH.out.size; simp; omega) ?_; intro v' w2 hown2 hg2 hob))
      go_ret
      exact put_done HC.out HCH.out HO.out hown2.out hg2.out hob.out

theorem info_Route : (Tryz.prog.info? 48).map (fun i => (i.zero, i.size, i.bytes)) = some (some (.agg #[.string ⟨#[]⟩, .slice none 0 0, .slice none 0 0, .slice none 0 0]), 4, 88) := by kernel_rfl
set_option maxRecDepth 100000 in
set_option maxHeartbeats 2000000 in
theorem put_Route {w : World} {B : Nat} {toks ts : List Tok} {q : List Value} {first : Tok} (h : Cur w B toks (fc first ++ q) ts) (he : EndL ts) (n : Nat) (v : Value) (xs : List Value) (hown : w.ownsRow (B + 1) 48 4 v n xs) (hn : n ≤ 1024) (x0 : List UInt8) (x1 : Option Addr) (x1n x1c : Nat) (x2 : Option Addr) (x2n x2c : Nat) (x3 : Option Addr) (x3n x3c : Nat) :
    Calls Tryz.prog 119 #[.pointer (some ⟨B, 0, none⟩), v, .int .i64 256, .agg #[.string ⟨x0.toArray⟩, .slice x1 x1n x1c, .slice x2 x2n x2c, .slice x3 x3n x3c]] w (PutPost w B toks (fc first ++ q) 48 4 v n xs [.string ⟨x0.toArray⟩, .slice x1 x1n x1c, .slice x2 x2n x2c, .slice x3 x3n x3c] (endM n 256 first ts)) := by
  have HA := Lib.hid (fun w1 (hw : Below w.heap.size w w1) => take_any (h.after hw) he 4)
  have HO := Lib.hid hown
  have HX := Lib.hid h.lt
  obtain ⟨A, c, rfl, hnc, hrd⟩ := own_form hown
  obtain ⟨fk, fx, fn, fl, fcol⟩ := first
  unfold endM
  cases hp : takeM 4 ts with
  | bad er l cc =>
    rw [hp] at HA
    clear hp h he hown hrd hnc
    rw [bind_bad]
    go_enter Tryz.func119, Tryz.ntmps119
    go_wp2_with (go_at_call 110; refine (HA.out _ (one_box _ _)).mono ?_; rintro e w1 ⟨rfl, hc⟩)
    exact ⟨rfl, rfl, (Ch.of_below (one_box _ _)).trans hc⟩
  | ok t r =>
    rw [hp] at HA
    rw [bind_ok]
    clear hp h he hown hrd hnc
    dsimp only
    by_cases hm : 256 ≤ n
    · rw [if_pos hm]
      have hmi : (256 : Int) ≤ (n : Int) := by omega
      have HR := Lib.hid (fun w' => refuse_any (.pointer (some ⟨B, 0, none⟩)) 3 ⟨fk, fx, fn, fl, fcol⟩ w')
      clear hm
      go_enter Tryz.func119, Tryz.ntmps119
      go_wp2_with (first
        | (go_at_call 110; refine (HA.out _ (one_box _ _)).mono ?_; rintro e w1 ⟨rfl, hc, hch⟩; have HC := Lib.hid hc; have HCH := Lib.hid ((Ch.of_below (one_box _ _)).trans hch); obtain ⟨f0, f1, f2, f3, f4⟩ := first_cells hc; dsimp only at f0 f1 f2 f3 f4; clear hc hch)
        | (go_at_call 57; refine (HR.out _).mono ?_; rintro e w2 ⟨rfl, hb2⟩))
      exact ⟨rfl, rfl, HCH.out.trans (.of_below hb2)⟩
    · rw [if_neg hm]
      have hmi : (n : Int) < (256 : Int) := by omega
      clear hm
      go_enter Tryz.func119, Tryz.ntmps119
      go_wp2_with (first
        | (go_at_call 110; refine (HA.out _ (one_box _ _)).mono ?_; rintro e w1 ⟨rfl, hc, hch⟩; have HC := Lib.hid hc; have HCH := Lib.hid ((Ch.of_below (one_box _ _)).trans hch); have HO1 := Lib.hid (HCH.out.own HO.out (fun k hk e => by have := (HO.out.lt k hk).1; omega)); have KB := Lib.hid (hch.blk (Blk.new w 48 [.string ⟨x0.toArray⟩, .slice x1 x1n x1c, .slice x2 x2n x2c, .slice x3 x3n x3c]) (by have := HX.out; omega)); have k0 : ∀ o, (w1.alloc o).cell? ⟨w.heap.size, 0, none⟩ = some (.string ⟨x0.toArray⟩) := fun o => (KB.out.alloc o).cell 0; have k0' : w1.cell? ⟨w.heap.size, 0, none⟩ = some (.string ⟨x0.toArray⟩) := KB.out.cell 0; have k1 : ∀ o, (w1.alloc o).cell? ⟨w.heap.size, 1, none⟩ = some (.slice x1 x1n x1c) := fun o => (KB.out.alloc o).cell 1; have k1' : w1.cell? ⟨w.heap.size, 1, none⟩ = some (.slice x1 x1n x1c) := KB.out.cell 1; have k2 : ∀ o, (w1.alloc o).cell? ⟨w.heap.size, 2, none⟩ = some (.slice x2 x2n x2c) := fun o => (KB.out.alloc o).cell 2; have k2' : w1.cell? ⟨w.heap.size, 2, none⟩ = some (.slice x2 x2n x2c) := KB.out.cell 2; have k3 : ∀ o, (w1.alloc o).cell? ⟨w.heap.size, 3, none⟩ = some (.slice x3 x3n x3c) := fun o => (KB.out.alloc o).cell 3; have k3' : w1.cell? ⟨w.heap.size, 3, none⟩ = some (.slice x3 x3n x3c) := KB.out.cell 3; clear hc hch)
        | (at_builtin; refine wpList_append_ch rfl (.tmp 21) (.tmp 23) 25 rfl (B + 1) 48 _ 4 88 Tryz.underlying25 info_Route rfl (by omega) (by omega) (.slice A n c) n xs rfl (HO1.out.alloc _) _ _ 1 1 [.string ⟨x0.toArray⟩, .slice x1 x1n x1c, .slice x2 x2n x2c, .slice x3 x3n x3c] rfl rfl (lit_at _ _ _ _ _ (by simp) rfl) (by simp [Value.oneCell']) (by omega) (by have := HX.out; have := HCH.out.size; simp; omega) ?_; intro v' w2 hown2 hg2 hob))
      go_ret
      exact put_done HC.out HCH.out HO.out hown2.out hg2.out hob.out

theorem info_Trip : (Tryz.prog.info? 43).map (fun i => (i.zero, i.size, i.bytes)) = some (some (.agg #[.string ⟨#[]⟩, .string ⟨#[]⟩, .int .i64 0, .int .i64 0, .int .i64 0]), 5, 56) := by kernel_rfl
set_option maxRecDepth 100000 in
set_option maxHeartbeats 2000000 in
theorem put_Trip {w : World} {B : Nat} {toks ts : List Tok} {q : List Value} {first : Tok} (h : Cur w B toks (fc first ++ q) ts) (he : EndL ts) (n : Nat) (v : Value) (xs : List Value) (hown : w.ownsRow (B + 1) 43 5 v n xs) (hn : n ≤ 1024) (x0 : List UInt8) (x1 : List UInt8) (x2 : Int) (x3 : Int) (x4 : Int) :
    Calls Tryz.prog 122 #[.pointer (some ⟨B, 0, none⟩), v, .int .i64 1024, .agg #[.string ⟨x0.toArray⟩, .string ⟨x1.toArray⟩, .int .i64 x2, .int .i64 x3, .int .i64 x4]] w (PutPost w B toks (fc first ++ q) 43 5 v n xs [.string ⟨x0.toArray⟩, .string ⟨x1.toArray⟩, .int .i64 x2, .int .i64 x3, .int .i64 x4] (endM n 1024 first ts)) := by
  have HA := Lib.hid (fun w1 (hw : Below w.heap.size w w1) => take_any (h.after hw) he 4)
  have HO := Lib.hid hown
  have HX := Lib.hid h.lt
  obtain ⟨A, c, rfl, hnc, hrd⟩ := own_form hown
  obtain ⟨fk, fx, fn, fl, fcol⟩ := first
  unfold endM
  cases hp : takeM 4 ts with
  | bad er l cc =>
    rw [hp] at HA
    clear hp h he hown hrd hnc
    rw [bind_bad]
    go_enter Tryz.func122, Tryz.ntmps122
    go_wp2_with (go_at_call 110; refine (HA.out _ (one_box _ _)).mono ?_; rintro e w1 ⟨rfl, hc⟩)
    exact ⟨rfl, rfl, (Ch.of_below (one_box _ _)).trans hc⟩
  | ok t r =>
    rw [hp] at HA
    rw [bind_ok]
    clear hp h he hown hrd hnc
    dsimp only
    by_cases hm : 1024 ≤ n
    · rw [if_pos hm]
      have hmi : (1024 : Int) ≤ (n : Int) := by omega
      have HR := Lib.hid (fun w' => refuse_any (.pointer (some ⟨B, 0, none⟩)) 3 ⟨fk, fx, fn, fl, fcol⟩ w')
      clear hm
      go_enter Tryz.func122, Tryz.ntmps122
      go_wp2_with (first
        | (go_at_call 110; refine (HA.out _ (one_box _ _)).mono ?_; rintro e w1 ⟨rfl, hc, hch⟩; have HC := Lib.hid hc; have HCH := Lib.hid ((Ch.of_below (one_box _ _)).trans hch); obtain ⟨f0, f1, f2, f3, f4⟩ := first_cells hc; dsimp only at f0 f1 f2 f3 f4; clear hc hch)
        | (go_at_call 57; refine (HR.out _).mono ?_; rintro e w2 ⟨rfl, hb2⟩))
      exact ⟨rfl, rfl, HCH.out.trans (.of_below hb2)⟩
    · rw [if_neg hm]
      have hmi : (n : Int) < (1024 : Int) := by omega
      clear hm
      go_enter Tryz.func122, Tryz.ntmps122
      go_wp2_with (first
        | (go_at_call 110; refine (HA.out _ (one_box _ _)).mono ?_; rintro e w1 ⟨rfl, hc, hch⟩; have HC := Lib.hid hc; have HCH := Lib.hid ((Ch.of_below (one_box _ _)).trans hch); have HO1 := Lib.hid (HCH.out.own HO.out (fun k hk e => by have := (HO.out.lt k hk).1; omega)); have KB := Lib.hid (hch.blk (Blk.new w 43 [.string ⟨x0.toArray⟩, .string ⟨x1.toArray⟩, .int .i64 x2, .int .i64 x3, .int .i64 x4]) (by have := HX.out; omega)); have k0 : ∀ o, (w1.alloc o).cell? ⟨w.heap.size, 0, none⟩ = some (.string ⟨x0.toArray⟩) := fun o => (KB.out.alloc o).cell 0; have k0' : w1.cell? ⟨w.heap.size, 0, none⟩ = some (.string ⟨x0.toArray⟩) := KB.out.cell 0; have k1 : ∀ o, (w1.alloc o).cell? ⟨w.heap.size, 1, none⟩ = some (.string ⟨x1.toArray⟩) := fun o => (KB.out.alloc o).cell 1; have k1' : w1.cell? ⟨w.heap.size, 1, none⟩ = some (.string ⟨x1.toArray⟩) := KB.out.cell 1; have k2 : ∀ o, (w1.alloc o).cell? ⟨w.heap.size, 2, none⟩ = some (.int .i64 x2) := fun o => (KB.out.alloc o).cell 2; have k2' : w1.cell? ⟨w.heap.size, 2, none⟩ = some (.int .i64 x2) := KB.out.cell 2; have k3 : ∀ o, (w1.alloc o).cell? ⟨w.heap.size, 3, none⟩ = some (.int .i64 x3) := fun o => (KB.out.alloc o).cell 3; have k3' : w1.cell? ⟨w.heap.size, 3, none⟩ = some (.int .i64 x3) := KB.out.cell 3; have k4 : ∀ o, (w1.alloc o).cell? ⟨w.heap.size, 4, none⟩ = some (.int .i64 x4) := fun o => (KB.out.alloc o).cell 4; have k4' : w1.cell? ⟨w.heap.size, 4, none⟩ = some (.int .i64 x4) := KB.out.cell 4; clear hc hch)
        | (at_builtin; refine wpList_append_ch rfl (.tmp 21) (.tmp 23) 26 rfl (B + 1) 43 _ 5 56 Tryz.underlying26 info_Trip rfl (by omega) (by omega) (.slice A n c) n xs rfl (HO1.out.alloc _) _ _ 1 1 [.string ⟨x0.toArray⟩, .string ⟨x1.toArray⟩, .int .i64 x2, .int .i64 x3, .int .i64 x4] rfl rfl (lit_at _ _ _ _ _ (by simp) rfl) (by simp [Value.oneCell']) (by omega) (by have := HX.out; have := HCH.out.size; simp; omega) ?_; intro v' w2 hown2 hg2 hob))
      go_ret
      exact put_done HC.out HCH.out HO.out hown2.out hg2.out hob.out

theorem info_Haz : (Tryz.prog.info? 45).map (fun i => (i.zero, i.size, i.bytes)) = some (some (.agg #[.string ⟨#[]⟩, .string ⟨#[]⟩, .int .i64 0, .int .i64 0, .int .i64 0]), 5, 56) := by kernel_rfl
set_option maxRecDepth 100000 in
set_option maxHeartbeats 2000000 in
theorem put_Haz {w : World} {B : Nat} {toks ts : List Tok} {q : List Value} {first : Tok} (h : Cur w B toks (fc first ++ q) ts) (he : EndL ts) (n : Nat) (v : Value) (xs : List Value) (hown : w.ownsRow (B + 1) 45 5 v n xs) (hn : n ≤ 1024) (x0 : List UInt8) (x1 : List UInt8) (x2 : Int) (x3 : Int) (x4 : Int) :
    Calls Tryz.prog 123 #[.pointer (some ⟨B, 0, none⟩), v, .int .i64 256, .agg #[.string ⟨x0.toArray⟩, .string ⟨x1.toArray⟩, .int .i64 x2, .int .i64 x3, .int .i64 x4]] w (PutPost w B toks (fc first ++ q) 45 5 v n xs [.string ⟨x0.toArray⟩, .string ⟨x1.toArray⟩, .int .i64 x2, .int .i64 x3, .int .i64 x4] (endM n 256 first ts)) := by
  have HA := Lib.hid (fun w1 (hw : Below w.heap.size w w1) => take_any (h.after hw) he 4)
  have HO := Lib.hid hown
  have HX := Lib.hid h.lt
  obtain ⟨A, c, rfl, hnc, hrd⟩ := own_form hown
  obtain ⟨fk, fx, fn, fl, fcol⟩ := first
  unfold endM
  cases hp : takeM 4 ts with
  | bad er l cc =>
    rw [hp] at HA
    clear hp h he hown hrd hnc
    rw [bind_bad]
    go_enter Tryz.func123, Tryz.ntmps123
    go_wp2_with (go_at_call 110; refine (HA.out _ (one_box _ _)).mono ?_; rintro e w1 ⟨rfl, hc⟩)
    exact ⟨rfl, rfl, (Ch.of_below (one_box _ _)).trans hc⟩
  | ok t r =>
    rw [hp] at HA
    rw [bind_ok]
    clear hp h he hown hrd hnc
    dsimp only
    by_cases hm : 256 ≤ n
    · rw [if_pos hm]
      have hmi : (256 : Int) ≤ (n : Int) := by omega
      have HR := Lib.hid (fun w' => refuse_any (.pointer (some ⟨B, 0, none⟩)) 3 ⟨fk, fx, fn, fl, fcol⟩ w')
      clear hm
      go_enter Tryz.func123, Tryz.ntmps123
      go_wp2_with (first
        | (go_at_call 110; refine (HA.out _ (one_box _ _)).mono ?_; rintro e w1 ⟨rfl, hc, hch⟩; have HC := Lib.hid hc; have HCH := Lib.hid ((Ch.of_below (one_box _ _)).trans hch); obtain ⟨f0, f1, f2, f3, f4⟩ := first_cells hc; dsimp only at f0 f1 f2 f3 f4; clear hc hch)
        | (go_at_call 57; refine (HR.out _).mono ?_; rintro e w2 ⟨rfl, hb2⟩))
      exact ⟨rfl, rfl, HCH.out.trans (.of_below hb2)⟩
    · rw [if_neg hm]
      have hmi : (n : Int) < (256 : Int) := by omega
      clear hm
      go_enter Tryz.func123, Tryz.ntmps123
      go_wp2_with (first
        | (go_at_call 110; refine (HA.out _ (one_box _ _)).mono ?_; rintro e w1 ⟨rfl, hc, hch⟩; have HC := Lib.hid hc; have HCH := Lib.hid ((Ch.of_below (one_box _ _)).trans hch); have HO1 := Lib.hid (HCH.out.own HO.out (fun k hk e => by have := (HO.out.lt k hk).1; omega)); have KB := Lib.hid (hch.blk (Blk.new w 45 [.string ⟨x0.toArray⟩, .string ⟨x1.toArray⟩, .int .i64 x2, .int .i64 x3, .int .i64 x4]) (by have := HX.out; omega)); have k0 : ∀ o, (w1.alloc o).cell? ⟨w.heap.size, 0, none⟩ = some (.string ⟨x0.toArray⟩) := fun o => (KB.out.alloc o).cell 0; have k0' : w1.cell? ⟨w.heap.size, 0, none⟩ = some (.string ⟨x0.toArray⟩) := KB.out.cell 0; have k1 : ∀ o, (w1.alloc o).cell? ⟨w.heap.size, 1, none⟩ = some (.string ⟨x1.toArray⟩) := fun o => (KB.out.alloc o).cell 1; have k1' : w1.cell? ⟨w.heap.size, 1, none⟩ = some (.string ⟨x1.toArray⟩) := KB.out.cell 1; have k2 : ∀ o, (w1.alloc o).cell? ⟨w.heap.size, 2, none⟩ = some (.int .i64 x2) := fun o => (KB.out.alloc o).cell 2; have k2' : w1.cell? ⟨w.heap.size, 2, none⟩ = some (.int .i64 x2) := KB.out.cell 2; have k3 : ∀ o, (w1.alloc o).cell? ⟨w.heap.size, 3, none⟩ = some (.int .i64 x3) := fun o => (KB.out.alloc o).cell 3; have k3' : w1.cell? ⟨w.heap.size, 3, none⟩ = some (.int .i64 x3) := KB.out.cell 3; have k4 : ∀ o, (w1.alloc o).cell? ⟨w.heap.size, 4, none⟩ = some (.int .i64 x4) := fun o => (KB.out.alloc o).cell 4; have k4' : w1.cell? ⟨w.heap.size, 4, none⟩ = some (.int .i64 x4) := KB.out.cell 4; clear hc hch)
        | (at_builtin; refine wpList_append_ch rfl (.tmp 21) (.tmp 23) 27 rfl (B + 1) 45 _ 5 56 Tryz.underlying27 info_Haz rfl (by omega) (by omega) (.slice A n c) n xs rfl (HO1.out.alloc _) _ _ 1 1 [.string ⟨x0.toArray⟩, .string ⟨x1.toArray⟩, .int .i64 x2, .int .i64 x3, .int .i64 x4] rfl rfl (lit_at _ _ _ _ _ (by simp) rfl) (by simp [Value.oneCell']) (by omega) (by have := HX.out; have := HCH.out.size; simp; omega) ?_; intro v' w2 hown2 hg2 hob))
      go_ret
      exact put_done HC.out HCH.out HO.out hown2.out hg2.out hob.out
end Go.Proofs.YteonmabfhilcfaaGreatDoor.Sh
namespace Go.Proofs.YteonmabfhilcfaaGreatDoor.Sh
open Go.ChangeShapes Go.WideShapes Go.ChangeAt Go.RowKit
open Lx
set_option linter.unusedVariables false

/-- the cells of routes, whose own rows lie in blocks of S -/
def Rts (w : World) (S : Nat → Prop) : List RouteM → List Value → Prop
  | [], c => c = []
  | r :: l, c => ∃ (sa : Option Addr) (sc : Nat) (ra : Option Addr) (rc : Nat) (ya : Option Addr) (yc : Nat) (rest : List Value),
      c = .string ⟨r.name.toArray⟩ :: .slice sa r.stops.length sc :: .slice ra r.rides.length rc :: .slice ya r.stays.length yc :: rest ∧
      Rd w S sa (cs strC r.stops) ∧ Rd w S ra (cs intC r.rides) ∧ Rd w S ya (cs intC r.stays) ∧ Rts w S l rest
theorem Rts.keep {w w' : World} {S : Nat → Prop} (hk : ∀ b, S b → w'.heap[b]? = w.heap[b]?) : ∀ {l : List RouteM} {c : List Value}, Rts w S l c → Rts w' S l c
  | [], _, h => h
  | _ :: _, _, ⟨sa, sc, ra, rc, ya, yc, rest, e, h1, h2, h3, h4⟩ => ⟨sa, sc, ra, rc, ya, yc, rest, e, h1.keep hk, h2.keep hk, h3.keep hk, Rts.keep hk h4⟩
theorem Rts.more {w : World} {S S' : Nat → Prop} (hs : ∀ b, S b → S' b) : ∀ {l : List RouteM} {c : List Value}, Rts w S l c → Rts w S' l c
  | [], _, h => h
  | _ :: _, _, ⟨sa, sc, ra, rc, ya, yc, rest, e, h1, h2, h3, h4⟩ => ⟨sa, sc, ra, rc, ya, yc, rest, e, h1.more hs, h2.more hs, h3.more hs, Rts.more hs h4⟩
theorem Rts.length {w : World} {S : Nat → Prop} : ∀ {l : List RouteM} {c : List Value}, Rts w S l c → c.length = l.length * 4
  | [], _, h => by rw [show _ = _ from h]; rfl
  | _ :: _, _, ⟨_, _, _, _, _, _, _, e, _, _, _, h4⟩ => by rw [e]; simp [Rts.length h4]; omega
theorem Rts.snoc {w : World} {S : Nat → Prop} {r : RouteM} {d : List Value} (hr : Rts w S [r] d) : ∀ {l : List RouteM} {c : List Value}, Rts w S l c → Rts w S (l ++ [r]) (c ++ d)
  | [], _, h => by rw [show _ = _ from h]; exact hr
  | _ :: _, _, ⟨sa, sc, ra, rc, ya, yc, rest, e, h1, h2, h3, h4⟩ => ⟨sa, sc, ra, rc, ya, yc, rest ++ d, by rw [e]; rfl, h1, h2, h3, Rts.snoc hr h4⟩

/-- beyond the reader, and in none of the rows that are appended to -/
def Away (w : World) (B : Nat) (vs : List Value) (b : Nat) : Prop := B < b ∧ b < w.heap.size ∧ ∀ v ∈ vs, v.ownBlock ≠ some b
theorem Away.on {w w' : World} {B : Nat} {vs vs' : List Value} {b : Nat} (h : Away w B vs b) (hs : w.heap.size ≤ w'.heap.size) (hv : ∀ v' ∈ vs', v' ∈ vs ∨ ∃ v ∈ vs, v'.ownBlock = v.ownBlock ∨ ∃ k, v'.ownBlock = some k ∧ w.heap.size ≤ k) : Away w' B vs' b := by
  refine ⟨h.1, Nat.lt_of_lt_of_le h.2.1 hs, fun v' hv' => ?_⟩
  rcases hv v' hv' with hm | ⟨v, hm, e | ⟨k, e, hk⟩⟩
  · exact h.2.2 v' hm
  · rw [e]; exact h.2.2 v hm
  · rw [e]; intro e2; injection e2 with e2; have := h.2.1; omega
/-- the reader's rows: six of the call's own, all beyond the reader; those of routes are none that is appended to -/
structure ShRows (w : World) (B : Nat) (x : SheetM) (v1 v2 v3 v4 v5 v6 : Value) : Prop where
  r1 : w.ownsRow (B + 1) 9 1 v1 x.stops.length (cs strC x.stops)
  r2 : w.ownsRow (B + 1) 58 4 v2 x.paths.length (cs paC x.paths)
  r3 : w.ownsRow (B + 1) 41 7 v3 x.doors.length (cs doC x.doors)
  r4 : ∃ c, w.ownsRow (B + 1) 48 4 v4 x.routes.length c ∧ Rts w (Away w B [v1, v2, v3, v4, v5, v6]) x.routes c
  r5 : w.ownsRow (B + 1) 43 5 v5 x.trips.length (cs trC x.trips)
  r6 : w.ownsRow (B + 1) 45 5 v6 x.hazards.length (cs haC x.hazards)
  n1 : x.stops.length ≤ 256
  n2 : x.paths.length ≤ 1024
  n3 : x.doors.length ≤ 256
  n4 : x.routes.length ≤ 256
  n5 : x.trips.length ≤ 1024
  n6 : x.hazards.length ≤ 256
abbrev shq (x : SheetM) (v1 v2 v3 v4 v5 v6 : Value) : List Value := [.int .i64 x.horizon, v1, v2, v3, v4, v5, v6]
def SRdr (w : World) (B : Nat) (toks : List Tok) (x : SheetM) (first : Tok) (ts : List Tok) : Prop :=
  ∃ v1 v2 v3 v4 v5 v6, Cur w B toks (fc first ++ shq x v1 v2 v3 v4 v5 v6) ts ∧ ShRows w B x v1 v2 v3 v4 v5 v6
/-- blocks below B are as they were, and so are maps -/
structure Up (B : Nat) (w w' : World) : Prop where
  below : Below B w w'
  maps : ∀ (k : Nat) (es : Array MapEntry) (c : Nat), w.heap[k]? = some (Obj.map es c) → w'.heap[k]? = some (Obj.map es c)
theorem Up.trans {B : Nat} {w w' w'' : World} (h : Up B w w') (k : Up B w' w'') : Up B w w'' := ⟨h.below.trans k.below, fun i es c e => k.maps i es c (h.maps i es c e)⟩
theorem up_of {B : Nat} {w w' : World} {X : Nat → Prop} (h : Ch X w w') (hB : B ≤ w.heap.size) (hx : ∀ k, X k → B ≤ k ∧ ∀ (es : Array MapEntry) (c : Nat), w.heap[k]? ≠ some (Obj.map es c)) : Up B w w' :=
  ⟨h.below hB fun k hk => (hx k hk).1, fun k es c e => (h.block k (Array.getElem?_eq_some_iff.1 e).1 (fun hX => (hx k hX).2 es c e)).trans e⟩
theorem up_below {B : Nat} {w w' w'' : World} (h : Up B w w') (hB : B ≤ w'.heap.size) (hb : Below w'.heap.size w' w'') : Up B w w'' :=
  ⟨h.below.trans (hb.mono hB), fun k es c e => (hb.block k (Array.getElem?_eq_some_iff.1 (h.maps k es c e)).1).trans (h.maps k es c e)⟩
abbrev Rdb (w : World) (B : Nat) : Prop := ∃ l, Blk w B 72 l
theorem not_map {w : World} {g t : Nat} {l : List Value} (h : Blk w g t l) : ∀ (es : Array MapEntry) (c : Nat), w.heap[g]? ≠ some (Obj.map es c) := fun es c e => by unfold Blk at h; rw [h] at e; cases e
theorem own_not_map {w : World} {b e s n : Nat} {v : Value} {xs : List Value} (h : w.ownsRow b e s v n xs) : ∀ k, v.ownBlock = some k → ∀ (es : Array MapEntry) (c : Nat), w.heap[k]? ≠ some (Obj.map es c) := by
  intro k hk es c e'
  rcases h.2 with ⟨rfl, _⟩ | ⟨g, cap, cur, rfl, _, hg, _⟩
  · cases hk
  · simp [Value.ownBlock] at hk; subst hk; rw [hg] at e'; cases e'
theorem ch_up {w w' : World} {B : Nat} (hb : Rdb w B) (h : Ch (· = B) w w') : Up B w w' := by
  obtain ⟨l, hl⟩ := hb
  exact up_of h (Nat.le_of_lt hl.lt) fun k e => by subst e; exact ⟨Nat.le_refl _, not_map hl⟩
theorem up_done {w w1 w2 w3 : World} {B e s n : Nat} {v : Value} {xs : List Value} (hb : Rdb w B) (hr : w.ownsRow (B + 1) e s v n xs) (h1 : Ch (· = B) w w1) (h2 : Ch (fun b => b = B ∨ some b = v.ownBlock) w1 w2) (h3 : Ch (· = B) w2 w3) : Up B w w3 := by
  obtain ⟨l, hl⟩ := hb
  refine up_of (((h1.mono fun k _ e => .inl e : Ch (fun b => b = B ∨ some b = v.ownBlock) w w1).trans h2).trans (h3.mono fun k _ e => .inl e)) (Nat.le_of_lt hl.lt) fun k e => ?_
  rcases e with e | e
  · subst e; exact ⟨Nat.le_refl _, not_map hl⟩
  · exact ⟨by have := (hr.lt k e.symm).1; omega, own_not_map hr k e.symm⟩
/-- what a line leaves -/
def LPost (w : World) (B : Nat) (toks : List Tok) (first : Tok) : PR SheetM → Ending → World → Prop
  | .ok x r, e, w' => e = .returned (.tuple #[]) ∧ SRdr w' B toks x first r ∧ Up B w w'
  | .bad er l c, e, w' => e = .panicked (gave er l c) ∧ Up B w w'
/-- rows that are not touched -/
theorem ShRows.ch {w w' : World} {B : Nat} {x : SheetM} {v1 v2 v3 v4 v5 v6 : Value} (h : ShRows w B x v1 v2 v3 v4 v5 v6) {X : Nat → Prop} (hc : Ch X w w') (hx : ∀ k, B < k → ¬ X k) : ShRows w' B x v1 v2 v3 v4 v5 v6 := by
  have f : ∀ {e size n : Nat} {v : Value} {xs : List Value}, w.ownsRow (B + 1) e size v n xs → w'.ownsRow (B + 1) e size v n xs := fun ho => hc.own ho fun k hk => hx k (ho.lt k hk).1
  obtain ⟨c, h4, h4'⟩ := h.r4
  exact ⟨f h.r1, f h.r2, f h.r3, ⟨c, f h4, (h4'.keep fun b hb => hc.block b hb.2.1 (hx b hb.1)).more fun b hb => hb.on hc.size fun _ h => .inl h⟩, f h.r5, f h.r6, h.n1, h.n2, h.n3, h.n4, h.n5, h.n6⟩
/-- the reader's cells behind a store of one of them -/
theorem Cur.store {w : World} {B : Nat} {toks ts : List Tok} {q : List Value} (h : Cur w B toks q ts) (i : Nat) (u : Value) : Cur (w.setCell ⟨B, i + 2, none⟩ u) B toks (q.set i u) ts := by
  obtain ⟨A, c, at_, hb, h1, h2, h3, h4, h5⟩ := h
  refine ⟨A, c, at_, ?_, h1, h2, h3, h4, h5.keep fun b hb' => Below.heap_setCell _ _ _ _ (by show b ≠ B; omega)⟩
  have := hb.set_ (i + 2) u
  simpa using this
theorem Cur.cell {w : World} {B : Nat} {toks ts : List Tok} {q : List Value} (h : Cur w B toks q ts) (i : Nat) : w.cell? ⟨B, i + 2, none⟩ = q[i]? := by
  obtain ⟨A, c, at_, hb, _⟩ := h
  have := hb.cell (i + 2)
  simpa using this
theorem Cur.frozen {w : World} {B : Nat} {toks ts : List Tok} {q : List Value} (h : Cur w B toks q ts) (i : Nat) : w.frozen? ⟨B, i, none⟩ = false := by
  obtain ⟨A, c, at_, hb, _⟩ := h
  exact hb.frozen i
theorem Cur.drew {w : World} {B : Nat} {toks ts : List Tok} {q : List Value} (h : Cur w B toks q ts) : Cur w.drew B toks q ts := h
theorem end_room {n most : Nat} {first : Tok} {ts r : List Tok} {u : Unit} (h : endM n most first ts = .ok u r) : n < most := by
  obtain ⟨t, r', h1, h2⟩ := bind_eq_ok h
  split at h2
  · cases h2
  · omega

/-- behind the append of a stop -/
theorem stop_done {w w1 w2 : World} {B : Nat} {toks r : List Tok} {x : SheetM} {first : Tok} {v1 v2 v3 v4 v5 v6 : Value} {A' : Option Addr} {c' : Nat} (a : List UInt8)
    (hs : ShRows w B x v1 v2 v3 v4 v5 v6) (hbk : Rdb w B) (hc2 : Cur w2 B toks (fc first ++ shq x v1 v2 v3 v4 v5 v6) r) (hch : Ch (· = B) w w1) (ho : w2.ownsRow (B + 1) 9 1 (.slice A' (x.stops.length + 1) c') (x.stops.length + 1) (cs strC x.stops ++ [.string ⟨a.toArray⟩]))
    (hch2 : Ch (fun b => b = B ∨ some b = v1.ownBlock) w1 w2) (hob : (Value.slice A' (x.stops.length + 1) c').ownBlock = v1.ownBlock ∨ ∃ k, (Value.slice A' (x.stops.length + 1) c').ownBlock = some k ∧ w1.heap.size ≤ k) (hlt : x.stops.length < 256) :
    LPost w B toks first (.ok { x with stops := x.stops ++ [a] } r) (.returned (.tuple #[])) (w2.setCell ⟨B, 8, none⟩ (.slice A' (x.stops.length + 1) c')) := by
  have hs1 := hs.ch hch (fun k hk e => by omega)
  have hk : Ch (· = B) w2 (w2.setCell ⟨B, 8, none⟩ (.slice A' (x.stops.length + 1) c')) := ch_set _ _ _ _
  have f : ∀ {e size n : Nat} {v : Value} {xs : List Value}, e ≠ 9 → w1.ownsRow (B + 1) e size v n xs → (w2.setCell ⟨B, 8, none⟩ (.slice A' (x.stops.length + 1) c')).ownsRow (B + 1) e size v n xs := fun hne h =>
    hk.own (hch2.own h fun k hkk e => by
      rcases e with e | e
      · have := (h.lt k hkk).1; omega
      · exact own_ne h hs1.r1 hne k hkk e.symm) fun k hkk e => by have := (h.lt k hkk).1; omega
  obtain ⟨c4, h4, h4'⟩ := hs1.r4
  refine ⟨rfl, ⟨_, v2, v3, v4, v5, v6, hc2.store 6 _, ⟨?_, f (by decide) hs1.r2, f (by decide) hs1.r3, ⟨c4, f (by decide) h4, ?_⟩, f (by decide) hs1.r5, f (by decide) hs1.r6, ?_, hs1.n2, hs1.n3, hs1.n4, hs1.n5, hs1.n6⟩⟩, ?_⟩
  case' refine_1 =>
    have := hk.own ho fun k hkk e => by have := (ho.lt k hkk).1; omega
    rw [List.length_append, cs_append, cs_one]
    exact this
  case' refine_2 =>
    refine (h4'.keep fun b hb => (hk.block b ?_ (by have := hb.1; omega)).trans (hch2.block b hb.2.1 ?_)).more fun b hb => hb.on (Nat.le_trans hch2.size hk.size) ?_
    · exact Nat.lt_of_lt_of_le hb.2.1 hch2.size
    · rintro (e | e)
      · have := hb.1; omega
      · exact hb.2.2 v1 (by simp) e.symm
    · intro v' hv'
      simp only [List.mem_cons, List.not_mem_nil, or_false] at hv'
      rcases hv' with rfl | rfl | rfl | rfl | rfl | rfl
      · exact .inr ⟨v1, by simp, hob⟩
      · exact .inl (by simp)
      · exact .inl (by simp)
      · exact .inl (by simp)
      · exact .inl (by simp)
      · exact .inl (by simp)
  · rw [List.length_append]; simp; omega
  · exact up_done hbk hs.r1 hch hch2 hk

/-- behind the append of a path -/
theorem path_done {w w1 w2 : World} {B : Nat} {toks r : List Tok} {x : SheetM} {first : Tok} {v1 v2 v3 v4 v5 v6 : Value} {A' : Option Addr} {c' : Nat} (n a b : List UInt8) (l : Int)
    (hs : ShRows w B x v1 v2 v3 v4 v5 v6) (hbk : Rdb w B) (hc2 : Cur w2 B toks (fc first ++ shq x v1 v2 v3 v4 v5 v6) r) (hch : Ch (· = B) w w1) (ho : w2.ownsRow (B + 1) 58 4 (.slice A' (x.paths.length + 1) c') (x.paths.length + 1) (cs paC x.paths ++ [.string ⟨n.toArray⟩, .string ⟨a.toArray⟩, .string ⟨b.toArray⟩, .int .i64 l]))
    (hch2 : Ch (fun b => b = B ∨ some b = v2.ownBlock) w1 w2) (hob : (Value.slice A' (x.paths.length + 1) c').ownBlock = v2.ownBlock ∨ ∃ k, (Value.slice A' (x.paths.length + 1) c').ownBlock = some k ∧ w1.heap.size ≤ k) (hlt : x.paths.length < 1024) :
    LPost w B toks first (.ok { x with paths := x.paths ++ [⟨n, a, b, l⟩] } r) (.returned (.tuple #[])) (w2.setCell ⟨B, 9, none⟩ (.slice A' (x.paths.length + 1) c')) := by
  have hs1 := hs.ch hch (fun k hk e => by omega)
  have hk : Ch (· = B) w2 (w2.setCell ⟨B, 9, none⟩ (.slice A' (x.paths.length + 1) c')) := ch_set _ _ _ _
  have f : ∀ {e size n : Nat} {v : Value} {xs : List Value}, e ≠ 58 → w1.ownsRow (B + 1) e size v n xs → (w2.setCell ⟨B, 9, none⟩ (.slice A' (x.paths.length + 1) c')).ownsRow (B + 1) e size v n xs := fun hne h =>
    hk.own (hch2.own h fun k hkk e => by
      rcases e with e | e
      · have := (h.lt k hkk).1; omega
      · exact own_ne h hs1.r2 hne k hkk e.symm) fun k hkk e => by have := (h.lt k hkk).1; omega
  obtain ⟨c4, h4, h4'⟩ := hs1.r4
  refine ⟨rfl, ⟨v1, _, v3, v4, v5, v6, hc2.store 7 _, ⟨f (by decide) hs1.r1, ?_, f (by decide) hs1.r3, ⟨c4, f (by decide) h4, ?_⟩, f (by decide) hs1.r5, f (by decide) hs1.r6, hs1.n1, ?_, hs1.n3, hs1.n4, hs1.n5, hs1.n6⟩⟩, ?_⟩
  case' refine_1 =>
    have := hk.own ho fun k hkk e => by have := (ho.lt k hkk).1; omega
    rw [List.length_append, cs_append, cs_one]
    exact this
  case' refine_2 =>
    refine (h4'.keep fun b hb => (hk.block b ?_ (by have := hb.1; omega)).trans (hch2.block b hb.2.1 ?_)).more fun b hb => hb.on (Nat.le_trans hch2.size hk.size) ?_
    · exact Nat.lt_of_lt_of_le hb.2.1 hch2.size
    · rintro (e | e)
      · have := hb.1; omega
      · exact hb.2.2 v2 (by simp) e.symm
    · intro v' hv'
      simp only [List.mem_cons, List.not_mem_nil, or_false] at hv'
      rcases hv' with rfl | rfl | rfl | rfl | rfl | rfl
      · exact .inl (by simp)
      · exact .inr ⟨v2, by simp, hob⟩
      · exact .inl (by simp)
      · exact .inl (by simp)
      · exact .inl (by simp)
      · exact .inl (by simp)
  · rw [List.length_append]; simp; omega
  · exact up_done hbk hs.r2 hch hch2 hk

/-- behind the append of a door -/
theorem door_done {w w1 w2 : World} {B : Nat} {toks r : List Tok} {x : SheetM} {first : Tok} {v1 v2 v3 v4 v5 v6 : Value} {A' : Option Addr} {c' : Nat} (n a b : List UInt8) (l f e t : Int)
    (hs : ShRows w B x v1 v2 v3 v4 v5 v6) (hbk : Rdb w B) (hc2 : Cur w2 B toks (fc first ++ shq x v1 v2 v3 v4 v5 v6) r) (hch : Ch (· = B) w w1) (ho : w2.ownsRow (B + 1) 41 7 (.slice A' (x.doors.length + 1) c') (x.doors.length + 1) (cs doC x.doors ++ [.string ⟨n.toArray⟩, .string ⟨a.toArray⟩, .string ⟨b.toArray⟩, .int .i64 l, .int .i64 f, .int .i64 e, .int .i64 t]))
    (hch2 : Ch (fun b => b = B ∨ some b = v3.ownBlock) w1 w2) (hob : (Value.slice A' (x.doors.length + 1) c').ownBlock = v3.ownBlock ∨ ∃ k, (Value.slice A' (x.doors.length + 1) c').ownBlock = some k ∧ w1.heap.size ≤ k) (hlt : x.doors.length < 256) :
    LPost w B toks first (.ok { x with doors := x.doors ++ [⟨n, a, b, l, ⟨f, e, t⟩⟩] } r) (.returned (.tuple #[])) (w2.setCell ⟨B, 10, none⟩ (.slice A' (x.doors.length + 1) c')) := by
  have hs1 := hs.ch hch (fun k hk e => by omega)
  have hk : Ch (· = B) w2 (w2.setCell ⟨B, 10, none⟩ (.slice A' (x.doors.length + 1) c')) := ch_set _ _ _ _
  have f : ∀ {e size n : Nat} {v : Value} {xs : List Value}, e ≠ 41 → w1.ownsRow (B + 1) e size v n xs → (w2.setCell ⟨B, 10, none⟩ (.slice A' (x.doors.length + 1) c')).ownsRow (B + 1) e size v n xs := fun hne h =>
    hk.own (hch2.own h fun k hkk e => by
      rcases e with e | e
      · have := (h.lt k hkk).1; omega
      · exact own_ne h hs1.r3 hne k hkk e.symm) fun k hkk e => by have := (h.lt k hkk).1; omega
  obtain ⟨c4, h4, h4'⟩ := hs1.r4
  refine ⟨rfl, ⟨v1, v2, _, v4, v5, v6, hc2.store 8 _, ⟨f (by decide) hs1.r1, f (by decide) hs1.r2, ?_, ⟨c4, f (by decide) h4, ?_⟩, f (by decide) hs1.r5, f (by decide) hs1.r6, hs1.n1, hs1.n2, ?_, hs1.n4, hs1.n5, hs1.n6⟩⟩, ?_⟩
  case' refine_1 =>
    have := hk.own ho fun k hkk e => by have := (ho.lt k hkk).1; omega
    rw [List.length_append, cs_append, cs_one]
    exact this
  case' refine_2 =>
    refine (h4'.keep fun b hb => (hk.block b ?_ (by have := hb.1; omega)).trans (hch2.block b hb.2.1 ?_)).more fun b hb => hb.on (Nat.le_trans hch2.size hk.size) ?_
    · exact Nat.lt_of_lt_of_le hb.2.1 hch2.size
    · rintro (e | e)
      · have := hb.1; omega
      · exact hb.2.2 v3 (by simp) e.symm
    · intro v' hv'
      simp only [List.mem_cons, List.not_mem_nil, or_false] at hv'
      rcases hv' with rfl | rfl | rfl | rfl | rfl | rfl
      · exact .inl (by simp)
      · exact .inl (by simp)
      · exact .inr ⟨v3, by simp, hob⟩
      · exact .inl (by simp)
      · exact .inl (by simp)
      · exact .inl (by simp)
  · rw [List.length_append]; simp; omega
  · exact up_done hbk hs.r3 hch hch2 hk

/-- behind the append of a trip -/
theorem trip_done {w w1 w2 : World} {B : Nat} {toks r : List Tok} {x : SheetM} {first : Tok} {v1 v2 v3 v4 v5 v6 : Value} {A' : Option Addr} {c' : Nat} (n a : List UInt8) (f e t : Int)
    (hs : ShRows w B x v1 v2 v3 v4 v5 v6) (hbk : Rdb w B) (hc2 : Cur w2 B toks (fc first ++ shq x v1 v2 v3 v4 v5 v6) r) (hch : Ch (· = B) w w1) (ho : w2.ownsRow (B + 1) 43 5 (.slice A' (x.trips.length + 1) c') (x.trips.length + 1) (cs trC x.trips ++ [.string ⟨n.toArray⟩, .string ⟨a.toArray⟩, .int .i64 f, .int .i64 e, .int .i64 t]))
    (hch2 : Ch (fun b => b = B ∨ some b = v5.ownBlock) w1 w2) (hob : (Value.slice A' (x.trips.length + 1) c').ownBlock = v5.ownBlock ∨ ∃ k, (Value.slice A' (x.trips.length + 1) c').ownBlock = some k ∧ w1.heap.size ≤ k) (hlt : x.trips.length < 1024) :
    LPost w B toks first (.ok { x with trips := x.trips ++ [⟨n, a, f, e, t⟩] } r) (.returned (.tuple #[])) (w2.setCell ⟨B, 12, none⟩ (.slice A' (x.trips.length + 1) c')) := by
  have hs1 := hs.ch hch (fun k hk e => by omega)
  have hk : Ch (· = B) w2 (w2.setCell ⟨B, 12, none⟩ (.slice A' (x.trips.length + 1) c')) := ch_set _ _ _ _
  have f : ∀ {e size n : Nat} {v : Value} {xs : List Value}, e ≠ 43 → w1.ownsRow (B + 1) e size v n xs → (w2.setCell ⟨B, 12, none⟩ (.slice A' (x.trips.length + 1) c')).ownsRow (B + 1) e size v n xs := fun hne h =>
    hk.own (hch2.own h fun k hkk e => by
      rcases e with e | e
      · have := (h.lt k hkk).1; omega
      · exact own_ne h hs1.r5 hne k hkk e.symm) fun k hkk e => by have := (h.lt k hkk).1; omega
  obtain ⟨c4, h4, h4'⟩ := hs1.r4
  refine ⟨rfl, ⟨v1, v2, v3, v4, _, v6, hc2.store 10 _, ⟨f (by decide) hs1.r1, f (by decide) hs1.r2, f (by decide) hs1.r3, ⟨c4, f (by decide) h4, ?_⟩, ?_, f (by decide) hs1.r6, hs1.n1, hs1.n2, hs1.n3, hs1.n4, ?_, hs1.n6⟩⟩, ?_⟩
  case' refine_2 =>
    have := hk.own ho fun k hkk e => by have := (ho.lt k hkk).1; omega
    rw [List.length_append, cs_append, cs_one]
    exact this
  case' refine_1 =>
    refine (h4'.keep fun b hb => (hk.block b ?_ (by have := hb.1; omega)).trans (hch2.block b hb.2.1 ?_)).more fun b hb => hb.on (Nat.le_trans hch2.size hk.size) ?_
    · exact Nat.lt_of_lt_of_le hb.2.1 hch2.size
    · rintro (e | e)
      · have := hb.1; omega
      · exact hb.2.2 v5 (by simp) e.symm
    · intro v' hv'
      simp only [List.mem_cons, List.not_mem_nil, or_false] at hv'
      rcases hv' with rfl | rfl | rfl | rfl | rfl | rfl
      · exact .inl (by simp)
      · exact .inl (by simp)
      · exact .inl (by simp)
      · exact .inl (by simp)
      · exact .inr ⟨v5, by simp, hob⟩
      · exact .inl (by simp)
  · rw [List.length_append]; simp; omega
  · exact up_done hbk hs.r5 hch hch2 hk

/-- behind the append of a haz -/
theorem haz_done {w w1 w2 : World} {B : Nat} {toks r : List Tok} {x : SheetM} {first : Tok} {v1 v2 v3 v4 v5 v6 : Value} {A' : Option Addr} {c' : Nat} (n a : List UInt8) (f e t : Int)
    (hs : ShRows w B x v1 v2 v3 v4 v5 v6) (hbk : Rdb w B) (hc2 : Cur w2 B toks (fc first ++ shq x v1 v2 v3 v4 v5 v6) r) (hch : Ch (· = B) w w1) (ho : w2.ownsRow (B + 1) 45 5 (.slice A' (x.hazards.length + 1) c') (x.hazards.length + 1) (cs haC x.hazards ++ [.string ⟨n.toArray⟩, .string ⟨a.toArray⟩, .int .i64 f, .int .i64 e, .int .i64 t]))
    (hch2 : Ch (fun b => b = B ∨ some b = v6.ownBlock) w1 w2) (hob : (Value.slice A' (x.hazards.length + 1) c').ownBlock = v6.ownBlock ∨ ∃ k, (Value.slice A' (x.hazards.length + 1) c').ownBlock = some k ∧ w1.heap.size ≤ k) (hlt : x.hazards.length < 256) :
    LPost w B toks first (.ok { x with hazards := x.hazards ++ [⟨n, a, ⟨f, e, t⟩⟩] } r) (.returned (.tuple #[])) (w2.setCell ⟨B, 13, none⟩ (.slice A' (x.hazards.length + 1) c')) := by
  have hs1 := hs.ch hch (fun k hk e => by omega)
  have hk : Ch (· = B) w2 (w2.setCell ⟨B, 13, none⟩ (.slice A' (x.hazards.length + 1) c')) := ch_set _ _ _ _
  have f : ∀ {e size n : Nat} {v : Value} {xs : List Value}, e ≠ 45 → w1.ownsRow (B + 1) e size v n xs → (w2.setCell ⟨B, 13, none⟩ (.slice A' (x.hazards.length + 1) c')).ownsRow (B + 1) e size v n xs := fun hne h =>
    hk.own (hch2.own h fun k hkk e => by
      rcases e with e | e
      · have := (h.lt k hkk).1; omega
      · exact own_ne h hs1.r6 hne k hkk e.symm) fun k hkk e => by have := (h.lt k hkk).1; omega
  obtain ⟨c4, h4, h4'⟩ := hs1.r4
  refine ⟨rfl, ⟨v1, v2, v3, v4, v5, _, hc2.store 11 _, ⟨f (by decide) hs1.r1, f (by decide) hs1.r2, f (by decide) hs1.r3, ⟨c4, f (by decide) h4, ?_⟩, f (by decide) hs1.r5, ?_, hs1.n1, hs1.n2, hs1.n3, hs1.n4, hs1.n5, ?_⟩⟩, ?_⟩
  case' refine_2 =>
    have := hk.own ho fun k hkk e => by have := (ho.lt k hkk).1; omega
    rw [List.length_append, cs_append, cs_one]
    exact this
  case' refine_1 =>
    refine (h4'.keep fun b hb => (hk.block b ?_ (by have := hb.1; omega)).trans (hch2.block b hb.2.1 ?_)).more fun b hb => hb.on (Nat.le_trans hch2.size hk.size) ?_
    · exact Nat.lt_of_lt_of_le hb.2.1 hch2.size
    · rintro (e | e)
      · have := hb.1; omega
      · exact hb.2.2 v6 (by simp) e.symm
    · intro v' hv'
      simp only [List.mem_cons, List.not_mem_nil, or_false] at hv'
      rcases hv' with rfl | rfl | rfl | rfl | rfl | rfl
      · exact .inl (by simp)
      · exact .inl (by simp)
      · exact .inl (by simp)
      · exact .inl (by simp)
      · exact .inl (by simp)
      · exact .inr ⟨v6, by simp, hob⟩
  · rw [List.length_append]; simp; omega
  · exact up_done hbk hs.r6 hch hch2 hk
end Go.Proofs.YteonmabfhilcfaaGreatDoor.Sh
namespace Go.Proofs.YteonmabfhilcfaaGreatDoor.Sh
open Go.ChangeShapes Go.WideShapes Go.ChangeAt Go.RowKit
open Lx
set_option linter.unusedVariables false

/-- where a sheet's rows lie, and what room they have -/
structure ShA where
  a1 : Option Addr
  a2 : Option Addr
  a3 : Option Addr
  a4 : Option Addr
  a5 : Option Addr
  a6 : Option Addr
  c1 : Nat
  c2 : Nat
  c3 : Nat
  c4 : Nat
  c5 : Nat
  c6 : Nat
abbrev shV (x : SheetM) (p : ShA) : Value := .agg #[.int .i64 x.horizon, .slice p.a1 x.stops.length p.c1, .slice p.a2 x.paths.length p.c2, .slice p.a3 x.doors.length p.c3, .slice p.a4 x.routes.length p.c4, .slice p.a5 x.trips.length p.c5, .slice p.a6 x.hazards.length p.c6]
/-- the sheet x lies at p, in blocks of S -/
structure Sh (w : World) (S : Nat → Prop) (x : SheetM) (p : ShA) : Prop where
  r1 : Rd w S p.a1 (cs strC x.stops)
  r2 : Rd w S p.a2 (cs paC x.paths)
  r3 : Rd w S p.a3 (cs doC x.doors)
  r4 : ∃ c, Rd w S p.a4 c ∧ Rts w S x.routes c
  r5 : Rd w S p.a5 (cs trC x.trips)
  r6 : Rd w S p.a6 (cs haC x.hazards)
theorem Sh.keep {w w' : World} {S : Nat → Prop} {x : SheetM} {p : ShA} (h : Sh w S x p) (hk : ∀ b, S b → w'.heap[b]? = w.heap[b]?) : Sh w' S x p := by
  obtain ⟨c, h4, h4'⟩ := h.r4
  exact ⟨h.r1.keep hk, h.r2.keep hk, h.r3.keep hk, ⟨c, h4.keep hk, h4'.keep hk⟩, h.r5.keep hk, h.r6.keep hk⟩
theorem Sh.more {w : World} {S S' : Nat → Prop} {x : SheetM} {p : ShA} (h : Sh w S x p) (hs : ∀ b, S b → S' b) : Sh w S' x p := by
  obtain ⟨c, h4, h4'⟩ := h.r4
  exact ⟨h.r1.more hs, h.r2.more hs, h.r3.more hs, ⟨c, h4.more hs, h4'.more hs⟩, h.r5.more hs, h.r6.more hs⟩
theorem Sh.later {w w' : World} {x : SheetM} {p : ShA} (h : Sh w (· < w.heap.size) x p) (hb : Below w.heap.size w w') : Sh w' (· < w'.heap.size) x p :=
  (h.keep fun b hl => hb.block b hl).more fun b h1 => by have := hb.size; omega
theorem Sh.below {w w' : World} {B : Nat} {x : SheetM} {p : ShA} (h : Sh w (· < B) x p) (hb : Below B w w') : Sh w' (· < B) x p := h.keep fun b hl => hb.block b hl
theorem own_rd' {w : World} {b e s n k c : Nat} {A : Option Addr} {xs : List Value} (h : w.ownsRow b e s (.slice A n c) k xs) : Rd w (fun i => b ≤ i ∧ i < w.heap.size) A xs := by
  obtain ⟨A', c', e', -, hr⟩ := own_form h
  injection e' with e1 e2 e3; subst e1; exact hr
/-- there is room for what is there -/
def ShCap (x : SheetM) (p : ShA) : Prop := x.stops.length ≤ p.c1 ∧ x.paths.length ≤ p.c2 ∧ x.doors.length ≤ p.c3 ∧ x.routes.length ≤ p.c4 ∧ x.trips.length ≤ p.c5 ∧ x.hazards.length ≤ p.c6
/-- what the reader has read -/
theorem ShRows.sh {w : World} {B : Nat} {x : SheetM} {v1 v2 v3 v4 v5 v6 : Value} (h : ShRows w B x v1 v2 v3 v4 v5 v6) :
    ∃ p : ShA, v1 = .slice p.a1 x.stops.length p.c1 ∧ v2 = .slice p.a2 x.paths.length p.c2 ∧ v3 = .slice p.a3 x.doors.length p.c3 ∧ v4 = .slice p.a4 x.routes.length p.c4 ∧ v5 = .slice p.a5 x.trips.length p.c5 ∧ v6 = .slice p.a6 x.hazards.length p.c6 ∧ Sh w (fun b => B < b ∧ b < w.heap.size) x p ∧ ShCap x p := by
  obtain ⟨c, h4, h4'⟩ := h.r4
  obtain ⟨a1, c1, rfl, k1, g1⟩ := own_form h.r1
  obtain ⟨a2, c2, rfl, k2, g2⟩ := own_form h.r2
  obtain ⟨a3, c3, rfl, k3, g3⟩ := own_form h.r3
  obtain ⟨a4, c4, rfl, k4, g4⟩ := own_form h4
  obtain ⟨a5, c5, rfl, k5, g5⟩ := own_form h.r5
  obtain ⟨a6, c6, rfl, k6, g6⟩ := own_form h.r6
  refine ⟨⟨a1, a2, a3, a4, a5, a6, c1, c2, c3, c4, c5, c6⟩, rfl, rfl, rfl, rfl, rfl, rfl, ⟨g1, g2, g3, ⟨c, g4, h4'.more fun b hb => ⟨hb.1, hb.2.1⟩⟩, g5, g6⟩, k1, k2, k3, k4, k5, k6⟩
/-- what is parsed -/
def zSh : Value := .agg #[.int .i64 0, .slice none 0 0, .slice none 0 0, .slice none 0 0, .slice none 0 0, .slice none 0 0, .slice none 0 0]
def ParsePost (w : World) : PR SheetM → Ending → World → Prop
  | .ok x _, e, w' => ∃ p : ShA, ShCap x p ∧ e = .returned (.tuple #[shV x p, .agg #[.int .i64 0, .int .i64 0, .int .i64 0]]) ∧ Sh w' (fun b => w.heap.size ≤ b ∧ b < w'.heap.size) x p ∧ Below w.heap.size w w'
  | .bad er l c, e, w' => e = .returned (.tuple #[.agg #[.int .i64 0, .slice none 0 0, .slice none 0 0, .slice none 0 0, .slice none 0 0, .slice none 0 0, .slice none 0 0], .agg #[.int .i64 er, .int .i64 l, .int .i64 c]]) ∧ Below w.heap.size w w'
end Go.Proofs.YteonmabfhilcfaaGreatDoor.Sh
namespace Go.Proofs.YteonmabfhilcfaaGreatDoor.Sh
open Go.ChangeShapes Go.WideShapes Go.ChangeAt Go.RowKit
open Lx
set_option linter.unusedVariables false

set_option maxRecDepth 100000 in
set_option maxHeartbeats 2000000 in
theorem stop_any {w : World} {B : Nat} {toks ts : List Tok} {x : SheetM} {first : Tok} (h : SRdr w B toks x first ts) (he : EndL ts) :
    Calls Tryz.prog 88 #[.pointer (some ⟨B, 0, none⟩)] w (LPost w B toks first (stopL x first ts)) := by
  obtain ⟨v1, v2, v3, v4, v5, v6, hc, hs⟩ := h
  have HBK := Lib.hid (Cur.blk hc)
  have HA := Lib.hid (fun w1 (hw : Ch (fun _ => False) w w1) => name_any (hc.ch hw (fun _ _ => id)) he)
  have b0 : ∀ k, (w.drewN k).cell? ⟨B, 8, none⟩ = some v1 := fun k => hc.cell 6
  have b1 : w.cell? ⟨B, 8, none⟩ = some v1 := hc.cell 6
  unfold stopL
  cases hp : nameM ts with
  | bad er l cc =>
    rw [hp] at HA
    rw [bind_bad]
    clear hp he hs hc
    go_enter Tryz.func88, Tryz.ntmps88
    go_wp2
    go_region_dies
    all_goals
      refine (HA.out _ (by first | exact Ch.refl _ _ | exact (Ch.refl _ _).drew)).mono ?_
      rintro e w1 ⟨rfl, hc⟩
      exact ⟨rfl, rfl, ch_up HBK.out ((by first | exact (Ch.refl _ _) | exact (Ch.refl _ _).drew : Ch (· = B) w _).trans hc)⟩
  | ok a r =>
    rw [hp] at HA
    rw [bind_ok]
    have he1 := (keeps_name _ _ _ he hp).1
    have HS := Lib.hid hs
    have hn := hs.n1
    obtain ⟨n, hnn⟩ : ∃ n, n = x.stops.length := ⟨_, rfl⟩
    obtain ⟨A, c, hv1, hnc, -⟩ := own_form hs.r1
    have HP := Lib.hid (fun w1 (h1 : Cur w1 B toks (fc first ++ shq x v1 v2 v3 v4 v5 v6) r) (hw : Ch (· = B) w w1) => put_Str h1 he1 x.stops.length v1 (cs strC x.stops) ((hs.ch hw (fun k hk e => by omega)).r1) (by omega) a)
    have HC := Lib.hid hc
    cases hq : endM x.stops.length 256 first r with
    | bad er l cc =>
      rw [hq] at HP
      rw [bind_bad]
      clear hp hq he he1 hs hc hn hnn hv1 hnc
      go_enter Tryz.func88, Tryz.ntmps88
      go_wp2
      go_region_dies
      all_goals
        rename_i K hK
        refine (HA.out _ (by first | exact Ch.refl _ _ | exact (Ch.refl _ _).drew)).mono ?_
        rintro e w1 ⟨rfl, hc, hch⟩
        have b2 : w1.cell? ⟨B, 8, none⟩ = some v1 := hc.cell 6
        refine hK _ _ ?_
      · refine wpAny_ready (rs := [9]) (by kernel_rfl) (by simp) ?_
        refine AllReady.cons rfl (fun K2 hK2 => ?_) AllReady.nil
        go_simp
        refine (HP.out _ (by first | exact hc | exact hc.drew) (by first | exact hch | exact (Ch.refl _ _).drew.trans hch)).mono ?_
        rintro e w2 ⟨rfl, hc2⟩
        exact ⟨rfl, rfl, ch_up HBK.out ((by first | exact hch | exact (Ch.refl _ _).drew.trans hch : Ch (· = B) w _).trans hc2)⟩
      · refine wpAny_ready (rs := [6]) (by kernel_rfl) (by simp) ?_
        refine AllReady.cons rfl (fun K2 hK2 => ?_) AllReady.nil
        go_simp
        refine hK2 _ _ ?_
        refine wpAny_ready (rs := [9]) (by kernel_rfl) (by simp) ?_
        refine AllReady.cons rfl (fun K3 hK3 => ?_) AllReady.nil
        go_simp
        refine (HP.out _ (by first | exact hc | exact hc.drew) (by first | exact hch | exact (Ch.refl _ _).drew.trans hch)).mono ?_
        rintro e w2 ⟨rfl, hc2⟩
        exact ⟨rfl, rfl, ch_up HBK.out ((by first | exact hch | exact (Ch.refl _ _).drew.trans hch : Ch (· = B) w _).trans hc2)⟩
    | ok u r2 =>
      rw [hq] at HP
      have HR := Lib.hid (end_room hq)
      rw [bind_ok]
      clear hp hq he he1 hs hc hn hnn hv1 hnc
      go_enter Tryz.func88, Tryz.ntmps88
      go_wp2
      go_region_with (first
        | (go_at_call 112; refine (HA.out _ (by first | exact Ch.refl _ _ | exact (Ch.refl _ _).drew)).mono ?_; rintro e w1 ⟨rfl, hc, hch⟩; have b2 : w1.cell? ⟨B, 8, none⟩ = some v1 := hc.cell 6)
        | (go_at_call 111; refine (HP.out _ (by first | exact hc | exact hc.drew) (by first | exact hch | exact (Ch.refl _ _).drew.trans hch)).mono ?_; rintro e w2 ⟨A', c', rfl, ho2, hc2, hch2, hob⟩; have b3 : w2.cell? ⟨B, 8, none⟩ = some v1 := hc2.cell 6; have b4 : w2.frozen? ⟨B, 8, none⟩ = false := hc2.frozen 8))
      all_goals
        refine bodyPost_ret (results_none rfl _ _ _) rfl ?_
        exact stop_done a HS.out HBK.out hc2 (by first | exact hch | exact (Ch.refl _ _).drew.trans hch) ho2 hch2 hob HR.out
end Go.Proofs.YteonmabfhilcfaaGreatDoor.Sh
