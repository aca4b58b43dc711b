/- Package sheet's reader: path lines, proved by walking their text. Conditions: a token is to come. · Package sheet's reader: door lines, proved by walking their text. Conditions: a token is to come. · Package sheet's reader: trip lines, proved by walking their text. Conditions: a token is to come. · Package sheet's reader: hazard lines, proved by walking their text. Conditions: a token is to come. -/
import Derived.Test.YteonmabfhilcfaaGreatDoorSheetPut
namespace Go.Proofs.YteonmabfhilcfaaGreatDoor.Sh
open Go.ChangeShapes Go.WideShapes Go.ChangeAt Go.RowKit
open Lx
set_option linter.unusedVariables false
set_option linter.unusedSimpArgs false

set_option maxRecDepth 100000 in
set_option maxHeartbeats 2000000 in
theorem path_f1 {w : World} {B : Nat} {toks ts : List Tok} {x : SheetM} {first : Tok} (h : SRdr w B toks x first ts) (he : EndL ts)   (er l0 c0 : Int) (eb : nameM ts = .bad er l0 c0) :
    Calls Tryz.prog 89 #[.pointer (some ⟨B, 0, none⟩)] w fun e w' => e = .panicked (gave er l0 c0) ∧ Up B w w' := by
  obtain ⟨v1, v2, v3, v4, v5, v6, hc, hs⟩ := h
  have HBK := Lib.hid (Cur.blk hc)
  have H1 := Lib.hid (fun w1 (hw : Cur w1 B toks (fc first ++ shq x v1 v2 v3 v4 v5 v6) ts) => eb ▸ name_any hw he)
  have hc0 := hc
  clear eb hs hc he 
  go_enter Tryz.func89, Tryz.ntmps89
  go_wp2_with (first | (go_at_call 112; (with_reducible refine (H1.out _ hc0).mono ?_); rintro e w1 ⟨rfl, hch1⟩))
  exact ⟨rfl, rfl, ch_up HBK.out hch1⟩

set_option maxRecDepth 100000 in
set_option maxHeartbeats 2000000 in
theorem path_f2 {w : World} {B : Nat} {toks ts : List Tok} {x : SheetM} {first : Tok} (h : SRdr w B toks x first ts) (he : EndL ts) (n : List UInt8) (r1 : List Tok) (e1 : nameM ts = .ok n r1) (er l0 c0 : Int) (eb : nameM r1 = .bad er l0 c0) :
    Calls Tryz.prog 89 #[.pointer (some ⟨B, 0, none⟩)] w fun e w' => e = .panicked (gave er l0 c0) ∧ Up B w w' := by
  obtain ⟨v1, v2, v3, v4, v5, v6, hc, hs⟩ := h
  have HBK := Lib.hid (Cur.blk hc)
  have H1 := Lib.hid (fun w1 (hw : Cur w1 B toks (fc first ++ shq x v1 v2 v3 v4 v5 v6) ts) => e1 ▸ name_any hw he)
  have he1 := (keeps_name _ _ _ he e1).1
  have H2 := Lib.hid (fun w1 (hw : Cur w1 B toks (fc first ++ shq x v1 v2 v3 v4 v5 v6) r1) => eb ▸ name_any hw he1)
  have hc0 := hc
  clear eb hs hc he e1 he1
  go_enter Tryz.func89, Tryz.ntmps89
  go_wp2_with (first | (go_at_call 112; (with_reducible refine (H1.out _ hc0).mono ?_); rintro e w1 ⟨rfl, hc1, hch1⟩) | (go_at_call 112; (with_reducible refine (H2.out _ hc1).mono ?_); rintro e w2 ⟨rfl, hch2⟩))
  exact ⟨rfl, rfl, ch_up HBK.out (hch1.trans hch2)⟩

set_option maxRecDepth 100000 in
set_option maxHeartbeats 2000000 in
theorem path_f3 {w : World} {B : Nat} {toks ts : List Tok} {x : SheetM} {first : Tok} (h : SRdr w B toks x first ts) (he : EndL ts) (n : List UInt8) (a : List UInt8) (r1 r2 : List Tok) (e1 : nameM ts = .ok n r1) (e2 : nameM r1 = .ok a r2) (er l0 c0 : Int) (eb : nameM r2 = .bad er l0 c0) :
    Calls Tryz.prog 89 #[.pointer (some ⟨B, 0, none⟩)] w fun e w' => e = .panicked (gave er l0 c0) ∧ Up B w w' := by
  obtain ⟨v1, v2, v3, v4, v5, v6, hc, hs⟩ := h
  have HBK := Lib.hid (Cur.blk hc)
  have H1 := Lib.hid (fun w1 (hw : Cur w1 B toks (fc first ++ shq x v1 v2 v3 v4 v5 v6) ts) => e1 ▸ name_any hw he)
  have he1 := (keeps_name _ _ _ he e1).1
  have H2 := Lib.hid (fun w1 (hw : Cur w1 B toks (fc first ++ shq x v1 v2 v3 v4 v5 v6) r1) => e2 ▸ name_any hw he1)
  have he2 := (keeps_name _ _ _ he1 e2).1
  have H3 := Lib.hid (fun w1 (hw : Cur w1 B toks (fc first ++ shq x v1 v2 v3 v4 v5 v6) r2) => eb ▸ name_any hw he2)
  have hc0 := hc
  clear eb hs hc he e1 he1 e2 he2
  go_enter Tryz.func89, Tryz.ntmps89
  go_wp2_with (first | (go_at_call 112; (with_reducible refine (H1.out _ hc0).mono ?_); rintro e w1 ⟨rfl, hc1, hch1⟩) | (go_at_call 112; (with_reducible refine (H2.out _ hc1).mono ?_); rintro e w2 ⟨rfl, hc2, hch2⟩) | (go_at_call 112; (with_reducible refine (H3.out _ hc2).mono ?_); rintro e w3 ⟨rfl, hch3⟩))
  exact ⟨rfl, rfl, ch_up HBK.out ((hch1.trans hch2).trans hch3)⟩

set_option maxRecDepth 100000 in
set_option maxHeartbeats 2000000 in
theorem path_f4 {w : World} {B : Nat} {toks ts : List Tok} {x : SheetM} {first : Tok} (h : SRdr w B toks x first ts) (he : EndL ts) (n : List UInt8) (a : List UInt8) (b : List UInt8) (r1 r2 r3 : List Tok) (e1 : nameM ts = .ok n r1) (e2 : nameM r1 = .ok a r2) (e3 : nameM r2 = .ok b r3) (er l0 c0 : Int) (eb : numM r3 = .bad er l0 c0) :
    Calls Tryz.prog 89 #[.pointer (some ⟨B, 0, none⟩)] w fun e w' => e = .panicked (gave er l0 c0) ∧ Up B w w' := by
  obtain ⟨v1, v2, v3, v4, v5, v6, hc, hs⟩ := h
  have HBK := Lib.hid (Cur.blk hc)
  have H1 := Lib.hid (fun w1 (hw : Cur w1 B toks (fc first ++ shq x v1 v2 v3 v4 v5 v6) ts) => e1 ▸ name_any hw he)
  have he1 := (keeps_name _ _ _ he e1).1
  have H2 := Lib.hid (fun w1 (hw : Cur w1 B toks (fc first ++ shq x v1 v2 v3 v4 v5 v6) r1) => e2 ▸ name_any hw he1)
  have he2 := (keeps_name _ _ _ he1 e2).1
  have H3 := Lib.hid (fun w1 (hw : Cur w1 B toks (fc first ++ shq x v1 v2 v3 v4 v5 v6) r2) => e3 ▸ name_any hw he2)
  have he3 := (keeps_name _ _ _ he2 e3).1
  have H4 := Lib.hid (fun w1 (hw : Cur w1 B toks (fc first ++ shq x v1 v2 v3 v4 v5 v6) r3) => eb ▸ num_any hw he3)
  have hc0 := hc
  clear eb hs hc he e1 he1 e2 he2 e3 he3
  go_enter Tryz.func89, Tryz.ntmps89
  go_wp2_with (first | (go_at_call 112; (with_reducible refine (H1.out _ hc0).mono ?_); rintro e w1 ⟨rfl, hc1, hch1⟩) | (go_at_call 112; (with_reducible refine (H2.out _ hc1).mono ?_); rintro e w2 ⟨rfl, hc2, hch2⟩) | (go_at_call 112; (with_reducible refine (H3.out _ hc2).mono ?_); rintro e w3 ⟨rfl, hc3, hch3⟩) | (go_at_call 109; (with_reducible refine (H4.out _ hc3).mono ?_); rintro e w4 ⟨rfl, hch4⟩))
  exact ⟨rfl, rfl, ch_up HBK.out (((hch1.trans hch2).trans hch3).trans hch4)⟩

set_option maxRecDepth 100000 in
set_option maxHeartbeats 4000000 in
theorem path_ok {w : World} {B : Nat} {toks ts : List Tok} {x : SheetM} {first : Tok} (h : SRdr w B toks x first ts) (he : EndL ts) (n : List UInt8) (a : List UInt8) (b : List UInt8) (l : Int) (r1 r2 r3 r4 : List Tok) (e1 : nameM ts = .ok n r1) (e2 : nameM r1 = .ok a r2) (e3 : nameM r2 = .ok b r3) (e4 : numM r3 = .ok l r4) :
    Calls Tryz.prog 89 #[.pointer (some ⟨B, 0, none⟩)] w (LPost w B toks first ((endM x.paths.length 1024 first r4).bind fun _ r => .ok { x with paths := x.paths ++ [⟨n, a, b, l⟩] } r)) := by
  obtain ⟨v1, v2, v3, v4, v5, v6, hc, hs⟩ := h
  have HBK := Lib.hid (Cur.blk hc)
  have H1 := Lib.hid (fun w1 (hw : Cur w1 B toks (fc first ++ shq x v1 v2 v3 v4 v5 v6) ts) => e1 ▸ name_any hw he)
  have he1 := (keeps_name _ _ _ he e1).1
  have H2 := Lib.hid (fun w1 (hw : Cur w1 B toks (fc first ++ shq x v1 v2 v3 v4 v5 v6) r1) => e2 ▸ name_any hw he1)
  have he2 := (keeps_name _ _ _ he1 e2).1
  have H3 := Lib.hid (fun w1 (hw : Cur w1 B toks (fc first ++ shq x v1 v2 v3 v4 v5 v6) r2) => e3 ▸ name_any hw he2)
  have he3 := (keeps_name _ _ _ he2 e3).1
  have H4 := Lib.hid (fun w1 (hw : Cur w1 B toks (fc first ++ shq x v1 v2 v3 v4 v5 v6) r3) => e4 ▸ num_any hw he3)
  have he4 := (keeps_num _ _ _ he3 e4).1
  have HS := Lib.hid hs
  have hn := hs.n2
  obtain ⟨A, c, hv, hnc, -⟩ := own_form hs.r2
  have HP := Lib.hid (fun w1 (h1 : Cur w1 B toks (fc first ++ shq x v1 v2 v3 v4 v5 v6) r4) (hw : Ch (· = B) w w1) => put_Path h1 he4 x.paths.length v2 (cs paC x.paths) ((hs.ch hw (fun k hk e => by omega)).r2) (by omega) n a b l)
  have hc0 := hc
  have HB := Lib.hid hc.lt
  cases hq : endM x.paths.length 1024 first r4 with
  | bad er ll cc =>
    rw [hq] at HP
    rw [bind_bad]
    clear hs hv hn hnc hq hc he e1 he1 e2 he2 e3 he3 e4 he4
    go_enter Tryz.func89, Tryz.ntmps89
    go_wp2_with (first | (go_at_call 112; (with_reducible refine (H1.out _ hc0).mono ?_); rintro e w1 ⟨rfl, hc1, hch1⟩) | (go_at_call 112; (with_reducible refine (H2.out _ hc1).mono ?_); rintro e w2 ⟨rfl, hc2, hch2⟩) | (go_at_call 112; (with_reducible refine (H3.out _ hc2).mono ?_); rintro e w3 ⟨rfl, hc3, hch3⟩) | (go_at_call 109; (with_reducible refine (H4.out _ hc3).mono ?_); rintro e w4 ⟨rfl, hc4, hch4⟩; have b2 : w4.cell? ⟨B, 9, none⟩ = some v2 := hc4.cell 7; have HCH := Lib.hid (((hch1.trans hch2).trans hch3).trans hch4); have HC := Lib.hid hc4; have hlt : B < w4.heap.size := hc4.lt))
    clear hc0 hc1 hch1 hc2 hch2 hc3 hch3 hc4 hch4
    go_region_dies
    all_goals
      refine (HP.out _ (by first | exact HC.out.after (one_box _ _) | exact (HC.out.after (one_box _ _)).drew) (by first | exact HCH.out.alloc _ | exact (HCH.out.alloc _).drew)).mono ?_
      rintro e w9 ⟨rfl, hc9⟩
      exact ⟨rfl, rfl, ch_up HBK.out ((by first | exact HCH.out.alloc _ | exact (HCH.out.alloc _).drew : Ch (· = B) w _).trans hc9)⟩
  | ok u0 r =>
    rw [hq] at HP
    have HR := Lib.hid (end_room hq)
    rw [bind_ok]
    clear hs hv hn hnc hq hc he e1 he1 e2 he2 e3 he3 e4 he4
    go_enter Tryz.func89, Tryz.ntmps89
    go_wp2_with (first | (go_at_call 112; (with_reducible refine (H1.out _ hc0).mono ?_); rintro e w1 ⟨rfl, hc1, hch1⟩) | (go_at_call 112; (with_reducible refine (H2.out _ hc1).mono ?_); rintro e w2 ⟨rfl, hc2, hch2⟩) | (go_at_call 112; (with_reducible refine (H3.out _ hc2).mono ?_); rintro e w3 ⟨rfl, hc3, hch3⟩) | (go_at_call 109; (with_reducible refine (H4.out _ hc3).mono ?_); rintro e w4 ⟨rfl, hc4, hch4⟩; have b2 : w4.cell? ⟨B, 9, none⟩ = some v2 := hc4.cell 7; have HCH := Lib.hid (((hch1.trans hch2).trans hch3).trans hch4); have HC := Lib.hid hc4; have hlt : B < w4.heap.size := hc4.lt))
    clear hc0 hc1 hch1 hc2 hch2 hc3 hch3 hc4 hch4
    go_region_with ((go_at_call 113; refine (HP.out _ (by first | exact HC.out.after (one_box _ _) | exact (HC.out.after (one_box _ _)).drew) (by first | exact HCH.out.alloc _ | exact (HCH.out.alloc _).drew)).mono ?_; rintro e w9 ⟨A', c', rfl, ho2, hc2, hch2, hob⟩; have b3 : w9.cell? ⟨B, 9, none⟩ = some v2 := hc2.cell 7; have b4 : w9.frozen? ⟨B, 9, none⟩ = false := hc2.frozen 9))
    all_goals
      refine bodyPost_ret (results_none rfl _ _ _) rfl ?_
      exact path_done n a b l HS.out HBK.out hc2 (by first | exact HCH.out.alloc _ | exact (HCH.out.alloc _).drew) ho2 hch2 hob HR.out

theorem path_any {w : World} {B : Nat} {toks ts : List Tok} {x : SheetM} {first : Tok} (h : SRdr w B toks x first ts) (he : EndL ts) :
    Calls Tryz.prog 89 #[.pointer (some ⟨B, 0, none⟩)] w (LPost w B toks first (pathL x first ts)) := by
  unfold pathL pathT
  cases e1 : nameM ts with
  | bad er l0 c0 => simp only [e1, bind_ok, bind_bad]; exact path_f1 h he  er l0 c0 e1
  | ok n r1 =>
    cases e2 : nameM r1 with
    | bad er l0 c0 => simp only [e1, e2, bind_ok, bind_bad]; exact path_f2 h he n r1 e1 er l0 c0 e2
    | ok a r2 =>
      cases e3 : nameM r2 with
      | bad er l0 c0 => simp only [e1, e2, e3, bind_ok, bind_bad]; exact path_f3 h he n a r1 r2 e1 e2 er l0 c0 e3
      | ok b r3 =>
        cases e4 : numM r3 with
        | bad er l0 c0 => simp only [e1, e2, e3, e4, bind_ok, bind_bad]; exact path_f4 h he n a b r1 r2 r3 e1 e2 e3 er l0 c0 e4
        | ok l r4 =>
          simp only [e1, e2, e3, e4, bind_ok]; exact path_ok h he n a b l r1 r2 r3 r4 e1 e2 e3 e4
end Go.Proofs.YteonmabfhilcfaaGreatDoor.Sh
namespace Go.Proofs.YteonmabfhilcfaaGreatDoor.Sh
open Go.ChangeShapes Go.WideShapes Go.ChangeAt Go.RowKit
open Lx
set_option linter.unusedVariables false
set_option linter.unusedSimpArgs false

set_option maxRecDepth 100000 in
set_option maxHeartbeats 2000000 in
theorem door_f1 {w : World} {B : Nat} {toks ts : List Tok} {x : SheetM} {first : Tok} (h : SRdr w B toks x first ts) (he : EndL ts)   (er l0 c0 : Int) (eb : nameM ts = .bad er l0 c0) :
    Calls Tryz.prog 90 #[.pointer (some ⟨B, 0, none⟩)] w fun e w' => e = .panicked (gave er l0 c0) ∧ Up B w w' := by
  obtain ⟨v1, v2, v3, v4, v5, v6, hc, hs⟩ := h
  have HBK := Lib.hid (Cur.blk hc)
  have H1 := Lib.hid (fun w1 (hw : Cur w1 B toks (fc first ++ shq x v1 v2 v3 v4 v5 v6) ts) => eb ▸ name_any hw he)
  have hc0 := hc
  clear eb hs hc he 
  go_enter Tryz.func90, Tryz.ntmps90
  go_wp2_with (first | (go_at_call 112; (with_reducible refine (H1.out _ hc0).mono ?_); rintro e w1 ⟨rfl, hch1⟩))
  exact ⟨rfl, rfl, ch_up HBK.out hch1⟩

set_option maxRecDepth 100000 in
set_option maxHeartbeats 2000000 in
theorem door_f2 {w : World} {B : Nat} {toks ts : List Tok} {x : SheetM} {first : Tok} (h : SRdr w B toks x first ts) (he : EndL ts) (n : List UInt8) (r1 : List Tok) (e1 : nameM ts = .ok n r1) (er l0 c0 : Int) (eb : nameM r1 = .bad er l0 c0) :
    Calls Tryz.prog 90 #[.pointer (some ⟨B, 0, none⟩)] w fun e w' => e = .panicked (gave er l0 c0) ∧ Up B w w' := by
  obtain ⟨v1, v2, v3, v4, v5, v6, hc, hs⟩ := h
  have HBK := Lib.hid (Cur.blk hc)
  have H1 := Lib.hid (fun w1 (hw : Cur w1 B toks (fc first ++ shq x v1 v2 v3 v4 v5 v6) ts) => e1 ▸ name_any hw he)
  have he1 := (keeps_name _ _ _ he e1).1
  have H2 := Lib.hid (fun w1 (hw : Cur w1 B toks (fc first ++ shq x v1 v2 v3 v4 v5 v6) r1) => eb ▸ name_any hw he1)
  have hc0 := hc
  clear eb hs hc he e1 he1
  go_enter Tryz.func90, Tryz.ntmps90
  go_wp2_with (first | (go_at_call 112; (with_reducible refine (H1.out _ hc0).mono ?_); rintro e w1 ⟨rfl, hc1, hch1⟩) | (go_at_call 112; (with_reducible refine (H2.out _ hc1).mono ?_); rintro e w2 ⟨rfl, hch2⟩))
  exact ⟨rfl, rfl, ch_up HBK.out (hch1.trans hch2)⟩

set_option maxRecDepth 100000 in
set_option maxHeartbeats 2000000 in
theorem door_f3 {w : World} {B : Nat} {toks ts : List Tok} {x : SheetM} {first : Tok} (h : SRdr w B toks x first ts) (he : EndL ts) (n : List UInt8) (a : List UInt8) (r1 r2 : List Tok) (e1 : nameM ts = .ok n r1) (e2 : nameM r1 = .ok a r2) (er l0 c0 : Int) (eb : nameM r2 = .bad er l0 c0) :
    Calls Tryz.prog 90 #[.pointer (some ⟨B, 0, none⟩)] w fun e w' => e = .panicked (gave er l0 c0) ∧ Up B w w' := by
  obtain ⟨v1, v2, v3, v4, v5, v6, hc, hs⟩ := h
  have HBK := Lib.hid (Cur.blk hc)
  have H1 := Lib.hid (fun w1 (hw : Cur w1 B toks (fc first ++ shq x v1 v2 v3 v4 v5 v6) ts) => e1 ▸ name_any hw he)
  have he1 := (keeps_name _ _ _ he e1).1
  have H2 := Lib.hid (fun w1 (hw : Cur w1 B toks (fc first ++ shq x v1 v2 v3 v4 v5 v6) r1) => e2 ▸ name_any hw he1)
  have he2 := (keeps_name _ _ _ he1 e2).1
  have H3 := Lib.hid (fun w1 (hw : Cur w1 B toks (fc first ++ shq x v1 v2 v3 v4 v5 v6) r2) => eb ▸ name_any hw he2)
  have hc0 := hc
  clear eb hs hc he e1 he1 e2 he2
  go_enter Tryz.func90, Tryz.ntmps90
  go_wp2_with (first | (go_at_call 112; (with_reducible refine (H1.out _ hc0).mono ?_); rintro e w1 ⟨rfl, hc1, hch1⟩) | (go_at_call 112; (with_reducible refine (H2.out _ hc1).mono ?_); rintro e w2 ⟨rfl, hc2, hch2⟩) | (go_at_call 112; (with_reducible refine (H3.out _ hc2).mono ?_); rintro e w3 ⟨rfl, hch3⟩))
  exact ⟨rfl, rfl, ch_up HBK.out ((hch1.trans hch2).trans hch3)⟩

set_option maxRecDepth 100000 in
set_option maxHeartbeats 2000000 in
theorem door_f4 {w : World} {B : Nat} {toks ts : List Tok} {x : SheetM} {first : Tok} (h : SRdr w B toks x first ts) (he : EndL ts) (n : List UInt8) (a : List UInt8) (b : List UInt8) (r1 r2 r3 : List Tok) (e1 : nameM ts = .ok n r1) (e2 : nameM r1 = .ok a r2) (e3 : nameM r2 = .ok b r3) (er l0 c0 : Int) (eb : numM r3 = .bad er l0 c0) :
    Calls Tryz.prog 90 #[.pointer (some ⟨B, 0, none⟩)] w fun e w' => e = .panicked (gave er l0 c0) ∧ Up B w w' := by
  obtain ⟨v1, v2, v3, v4, v5, v6, hc, hs⟩ := h
  have HBK := Lib.hid (Cur.blk hc)
  have H1 := Lib.hid (fun w1 (hw : Cur w1 B toks (fc first ++ shq x v1 v2 v3 v4 v5 v6) ts) => e1 ▸ name_any hw he)
  have he1 := (keeps_name _ _ _ he e1).1
  have H2 := Lib.hid (fun w1 (hw : Cur w1 B toks (fc first ++ shq x v1 v2 v3 v4 v5 v6) r1) => e2 ▸ name_any hw he1)
  have he2 := (keeps_name _ _ _ he1 e2).1
  have H3 := Lib.hid (fun w1 (hw : Cur w1 B toks (fc first ++ shq x v1 v2 v3 v4 v5 v6) r2) => e3 ▸ name_any hw he2)
  have he3 := (keeps_name _ _ _ he2 e3).1
  have H4 := Lib.hid (fun w1 (hw : Cur w1 B toks (fc first ++ shq x v1 v2 v3 v4 v5 v6) r3) => eb ▸ num_any hw he3)
  have hc0 := hc
  clear eb hs hc he e1 he1 e2 he2 e3 he3
  go_enter Tryz.func90, Tryz.ntmps90
  go_wp2_with (first | (go_at_call 112; (with_reducible refine (H1.out _ hc0).mono ?_); rintro e w1 ⟨rfl, hc1, hch1⟩) | (go_at_call 112; (with_reducible refine (H2.out _ hc1).mono ?_); rintro e w2 ⟨rfl, hc2, hch2⟩) | (go_at_call 112; (with_reducible refine (H3.out _ hc2).mono ?_); rintro e w3 ⟨rfl, hc3, hch3⟩) | (go_at_call 109; (with_reducible refine (H4.out _ hc3).mono ?_); rintro e w4 ⟨rfl, hch4⟩))
  exact ⟨rfl, rfl, ch_up HBK.out (((hch1.trans hch2).trans hch3).trans hch4)⟩

set_option maxRecDepth 100000 in
set_option maxHeartbeats 2000000 in
theorem door_f5 {w : World} {B : Nat} {toks ts : List Tok} {x : SheetM} {first : Tok} (h : SRdr w B toks x first ts) (he : EndL ts) (n : List UInt8) (a : List UInt8) (b : List UInt8) (l : Int) (r1 r2 r3 r4 : List Tok) (e1 : nameM ts = .ok n r1) (e2 : nameM r1 = .ok a r2) (e3 : nameM r2 = .ok b r3) (e4 : numM r3 = .ok l r4) (er l0 c0 : Int) (eb : timesM kOpen r4 = .bad er l0 c0) :
    Calls Tryz.prog 90 #[.pointer (some ⟨B, 0, none⟩)] w fun e w' => e = .panicked (gave er l0 c0) ∧ Up B w w' := by
  obtain ⟨v1, v2, v3, v4, v5, v6, hc, hs⟩ := h
  have HBK := Lib.hid (Cur.blk hc)
  have H1 := Lib.hid (fun w1 (hw : Cur w1 B toks (fc first ++ shq x v1 v2 v3 v4 v5 v6) ts) => e1 ▸ name_any hw he)
  have he1 := (keeps_name _ _ _ he e1).1
  have H2 := Lib.hid (fun w1 (hw : Cur w1 B toks (fc first ++ shq x v1 v2 v3 v4 v5 v6) r1) => e2 ▸ name_any hw he1)
  have he2 := (keeps_name _ _ _ he1 e2).1
  have H3 := Lib.hid (fun w1 (hw : Cur w1 B toks (fc first ++ shq x v1 v2 v3 v4 v5 v6) r2) => e3 ▸ name_any hw he2)
  have he3 := (keeps_name _ _ _ he2 e3).1
  have H4 := Lib.hid (fun w1 (hw : Cur w1 B toks (fc first ++ shq x v1 v2 v3 v4 v5 v6) r3) => e4 ▸ num_any hw he3)
  have he4 := (keeps_num _ _ _ he3 e4).1
  have H5 := Lib.hid (fun w1 (hw : Cur w1 B toks (fc first ++ shq x v1 v2 v3 v4 v5 v6) r4) => eb ▸ times_lit hw he4 kOpen #[111, 112, 101, 110] rfl)
  have hc0 := hc
  clear eb hs hc he e1 he1 e2 he2 e3 he3 e4 he4
  go_enter Tryz.func90, Tryz.ntmps90
  go_wp2_with (first | (go_at_call 112; (with_reducible refine (H1.out _ hc0).mono ?_); rintro e w1 ⟨rfl, hc1, hch1⟩) | (go_at_call 112; (with_reducible refine (H2.out _ hc1).mono ?_); rintro e w2 ⟨rfl, hc2, hch2⟩) | (go_at_call 112; (with_reducible refine (H3.out _ hc2).mono ?_); rintro e w3 ⟨rfl, hc3, hch3⟩) | (go_at_call 109; (with_reducible refine (H4.out _ hc3).mono ?_); rintro e w4 ⟨rfl, hc4, hch4⟩) | (go_at_call 114; (with_reducible refine (H5.out _ hc4).mono ?_); rintro e w5 ⟨rfl, hch5⟩))
  exact ⟨rfl, rfl, ch_up HBK.out ((((hch1.trans hch2).trans hch3).trans hch4).trans hch5)⟩

set_option maxRecDepth 100000 in
set_option maxHeartbeats 4000000 in
theorem door_ok {w : World} {B : Nat} {toks ts : List Tok} {x : SheetM} {first : Tok} (h : SRdr w B toks x first ts) (he : EndL ts) (n : List UInt8) (a : List UInt8) (b : List UInt8) (l : Int) (t : TimesM) (r1 r2 r3 r4 r5 : List Tok) (e1 : nameM ts = .ok n r1) (e2 : nameM r1 = .ok a r2) (e3 : nameM r2 = .ok b r3) (e4 : numM r3 = .ok l r4) (e5 : timesM kOpen r4 = .ok t r5) :
    Calls Tryz.prog 90 #[.pointer (some ⟨B, 0, none⟩)] w (LPost w B toks first ((endM x.doors.length 256 first r5).bind fun _ r => .ok { x with doors := x.doors ++ [⟨n, a, b, l, t⟩] } r)) := by
  obtain ⟨v1, v2, v3, v4, v5, v6, hc, hs⟩ := h
  have HBK := Lib.hid (Cur.blk hc)
  have H1 := Lib.hid (fun w1 (hw : Cur w1 B toks (fc first ++ shq x v1 v2 v3 v4 v5 v6) ts) => e1 ▸ name_any hw he)
  have he1 := (keeps_name _ _ _ he e1).1
  have H2 := Lib.hid (fun w1 (hw : Cur w1 B toks (fc first ++ shq x v1 v2 v3 v4 v5 v6) r1) => e2 ▸ name_any hw he1)
  have he2 := (keeps_name _ _ _ he1 e2).1
  have H3 := Lib.hid (fun w1 (hw : Cur w1 B toks (fc first ++ shq x v1 v2 v3 v4 v5 v6) r2) => e3 ▸ name_any hw he2)
  have he3 := (keeps_name _ _ _ he2 e3).1
  have H4 := Lib.hid (fun w1 (hw : Cur w1 B toks (fc first ++ shq x v1 v2 v3 v4 v5 v6) r3) => e4 ▸ num_any hw he3)
  have he4 := (keeps_num _ _ _ he3 e4).1
  have H5 := Lib.hid (fun w1 (hw : Cur w1 B toks (fc first ++ shq x v1 v2 v3 v4 v5 v6) r4) => e5 ▸ times_lit hw he4 kOpen #[111, 112, 101, 110] rfl)
  have he5 := (keeps_times _ _ _ _ he4 e5).1
  obtain ⟨f_, e_, l_⟩ := t
  have HS := Lib.hid hs
  have hn := hs.n3
  obtain ⟨A, c, hv, hnc, -⟩ := own_form hs.r3
  have HP := Lib.hid (fun w1 (h1 : Cur w1 B toks (fc first ++ shq x v1 v2 v3 v4 v5 v6) r5) (hw : Ch (· = B) w w1) => put_Door h1 he5 x.doors.length v3 (cs doC x.doors) ((hs.ch hw (fun k hk e => by omega)).r3) (by omega) n a b l f_ e_ l_)
  have hc0 := hc
  have HB := Lib.hid hc.lt
  cases hq : endM x.doors.length 256 first r5 with
  | bad er ll cc =>
    rw [hq] at HP
    rw [bind_bad]
    clear hs hv hn hnc hq hc he e1 he1 e2 he2 e3 he3 e4 he4 e5 he5
    go_enter Tryz.func90, Tryz.ntmps90
    go_wp2_with (first | (go_at_call 112; (with_reducible refine (H1.out _ hc0).mono ?_); rintro e w1 ⟨rfl, hc1, hch1⟩) | (go_at_call 112; (with_reducible refine (H2.out _ hc1).mono ?_); rintro e w2 ⟨rfl, hc2, hch2⟩) | (go_at_call 112; (with_reducible refine (H3.out _ hc2).mono ?_); rintro e w3 ⟨rfl, hc3, hch3⟩) | (go_at_call 109; (with_reducible refine (H4.out _ hc3).mono ?_); rintro e w4 ⟨rfl, hc4, hch4⟩) | (go_at_call 114; (with_reducible refine (H5.out _ hc4).mono ?_); rintro e w5 ⟨rfl, hc5, hch5⟩; have b2 : w5.cell? ⟨B, 10, none⟩ = some v3 := hc5.cell 8; have HCH := Lib.hid ((((hch1.trans hch2).trans hch3).trans hch4).trans hch5); have HC := Lib.hid hc5; have hlt : B < w5.heap.size := hc5.lt))
    clear hc0 hc1 hch1 hc2 hch2 hc3 hch3 hc4 hch4 hc5 hch5
    go_region_dies
    all_goals
      refine (HP.out _ (by first | exact HC.out.after (one_box _ _) | exact (HC.out.after (one_box _ _)).drew) (by first | exact HCH.out.alloc _ | exact (HCH.out.alloc _).drew)).mono ?_
      rintro e w9 ⟨rfl, hc9⟩
      exact ⟨rfl, rfl, ch_up HBK.out ((by first | exact HCH.out.alloc _ | exact (HCH.out.alloc _).drew : Ch (· = B) w _).trans hc9)⟩
  | ok u0 r =>
    rw [hq] at HP
    have HR := Lib.hid (end_room hq)
    rw [bind_ok]
    clear hs hv hn hnc hq hc he e1 he1 e2 he2 e3 he3 e4 he4 e5 he5
    go_enter Tryz.func90, Tryz.ntmps90
    go_wp2_with (first | (go_at_call 112; (with_reducible refine (H1.out _ hc0).mono ?_); rintro e w1 ⟨rfl, hc1, hch1⟩) | (go_at_call 112; (with_reducible refine (H2.out _ hc1).mono ?_); rintro e w2 ⟨rfl, hc2, hch2⟩) | (go_at_call 112; (with_reducible refine (H3.out _ hc2).mono ?_); rintro e w3 ⟨rfl, hc3, hch3⟩) | (go_at_call 109; (with_reducible refine (H4.out _ hc3).mono ?_); rintro e w4 ⟨rfl, hc4, hch4⟩) | (go_at_call 114; (with_reducible refine (H5.out _ hc4).mono ?_); rintro e w5 ⟨rfl, hc5, hch5⟩; have b2 : w5.cell? ⟨B, 10, none⟩ = some v3 := hc5.cell 8; have HCH := Lib.hid ((((hch1.trans hch2).trans hch3).trans hch4).trans hch5); have HC := Lib.hid hc5; have hlt : B < w5.heap.size := hc5.lt))
    clear hc0 hc1 hch1 hc2 hch2 hc3 hch3 hc4 hch4 hc5 hch5
    go_region_with ((go_at_call 115; refine (HP.out _ (by first | exact HC.out.after (one_box _ _) | exact (HC.out.after (one_box _ _)).drew) (by first | exact HCH.out.alloc _ | exact (HCH.out.alloc _).drew)).mono ?_; rintro e w9 ⟨A', c', rfl, ho2, hc2, hch2, hob⟩; have b3 : w9.cell? ⟨B, 10, none⟩ = some v3 := hc2.cell 8; have b4 : w9.frozen? ⟨B, 10, none⟩ = false := hc2.frozen 10))
    all_goals
      refine bodyPost_ret (results_none rfl _ _ _) rfl ?_
      exact door_done n a b l f_ e_ l_ HS.out HBK.out hc2 (by first | exact HCH.out.alloc _ | exact (HCH.out.alloc _).drew) ho2 hch2 hob HR.out

theorem door_any {w : World} {B : Nat} {toks ts : List Tok} {x : SheetM} {first : Tok} (h : SRdr w B toks x first ts) (he : EndL ts) :
    Calls Tryz.prog 90 #[.pointer (some ⟨B, 0, none⟩)] w (LPost w B toks first (doorL x first ts)) := by
  unfold doorL doorT
  cases e1 : nameM ts with
  | bad er l0 c0 => simp only [e1, bind_ok, bind_bad]; exact door_f1 h he  er l0 c0 e1
  | ok n r1 =>
    cases e2 : nameM r1 with
    | bad er l0 c0 => simp only [e1, e2, bind_ok, bind_bad]; exact door_f2 h he n r1 e1 er l0 c0 e2
    | ok a r2 =>
      cases e3 : nameM r2 with
      | bad er l0 c0 => simp only [e1, e2, e3, bind_ok, bind_bad]; exact door_f3 h he n a r1 r2 e1 e2 er l0 c0 e3
      | ok b r3 =>
        cases e4 : numM r3 with
        | bad er l0 c0 => simp only [e1, e2, e3, e4, bind_ok, bind_bad]; exact door_f4 h he n a b r1 r2 r3 e1 e2 e3 er l0 c0 e4
        | ok l r4 =>
          cases e5 : timesM kOpen r4 with
          | bad er l0 c0 => simp only [e1, e2, e3, e4, e5, bind_ok, bind_bad]; exact door_f5 h he n a b l r1 r2 r3 r4 e1 e2 e3 e4 er l0 c0 e5
          | ok t r5 =>
            simp only [e1, e2, e3, e4, e5, bind_ok]; exact door_ok h he n a b l t r1 r2 r3 r4 r5 e1 e2 e3 e4 e5
end Go.Proofs.YteonmabfhilcfaaGreatDoor.Sh
namespace Go.Proofs.YteonmabfhilcfaaGreatDoor.Sh
open Go.ChangeShapes Go.WideShapes Go.ChangeAt Go.RowKit
open Lx
set_option linter.unusedVariables false
set_option linter.unusedSimpArgs false

set_option maxRecDepth 100000 in
set_option maxHeartbeats 2000000 in
theorem trip_f1 {w : World} {B : Nat} {toks ts : List Tok} {x : SheetM} {first : Tok} (h : SRdr w B toks x first ts) (he : EndL ts)   (er l0 c0 : Int) (eb : nameM ts = .bad er l0 c0) :
    Calls Tryz.prog 92 #[.pointer (some ⟨B, 0, none⟩)] w fun e w' => e = .panicked (gave er l0 c0) ∧ Up B w w' := by
  obtain ⟨v1, v2, v3, v4, v5, v6, hc, hs⟩ := h
  have HBK := Lib.hid (Cur.blk hc)
  have H1 := Lib.hid (fun w1 (hw : Cur w1 B toks (fc first ++ shq x v1 v2 v3 v4 v5 v6) ts) => eb ▸ name_any hw he)
  have hc0 := hc
  clear eb hs hc he 
  go_enter Tryz.func92, Tryz.ntmps92
  go_wp2_with (first | (go_at_call 112; (with_reducible refine (H1.out _ hc0).mono ?_); rintro e w1 ⟨rfl, hch1⟩))
  exact ⟨rfl, rfl, ch_up HBK.out hch1⟩

set_option maxRecDepth 100000 in
set_option maxHeartbeats 2000000 in
theorem trip_f2 {w : World} {B : Nat} {toks ts : List Tok} {x : SheetM} {first : Tok} (h : SRdr w B toks x first ts) (he : EndL ts) (n : List UInt8) (r1 : List Tok) (e1 : nameM ts = .ok n r1) (er l0 c0 : Int) (eb : nameBehindM kOf r1 = .bad er l0 c0) :
    Calls Tryz.prog 92 #[.pointer (some ⟨B, 0, none⟩)] w fun e w' => e = .panicked (gave er l0 c0) ∧ Up B w w' := by
  obtain ⟨v1, v2, v3, v4, v5, v6, hc, hs⟩ := h
  have HBK := Lib.hid (Cur.blk hc)
  have H1 := Lib.hid (fun w1 (hw : Cur w1 B toks (fc first ++ shq x v1 v2 v3 v4 v5 v6) ts) => e1 ▸ name_any hw he)
  have he1 := (keeps_name _ _ _ he e1).1
  have H2 := Lib.hid (fun w1 (hw : Cur w1 B toks (fc first ++ shq x v1 v2 v3 v4 v5 v6) r1) => eb ▸ nameBehind_lit hw he1 kOf #[111, 102] rfl)
  have hc0 := hc
  clear eb hs hc he e1 he1
  go_enter Tryz.func92, Tryz.ntmps92
  go_wp2_with (first | (go_at_call 112; (with_reducible refine (H1.out _ hc0).mono ?_); rintro e w1 ⟨rfl, hc1, hch1⟩) | (go_at_call 120; (with_reducible refine (H2.out _ hc1).mono ?_); rintro e w2 ⟨rfl, hch2⟩))
  exact ⟨rfl, rfl, ch_up HBK.out (hch1.trans hch2)⟩

set_option maxRecDepth 100000 in
set_option maxHeartbeats 2000000 in
theorem trip_f3 {w : World} {B : Nat} {toks ts : List Tok} {x : SheetM} {first : Tok} (h : SRdr w B toks x first ts) (he : EndL ts) (n : List UInt8) (a : List UInt8) (r1 r2 : List Tok) (e1 : nameM ts = .ok n r1) (e2 : nameBehindM kOf r1 = .ok a r2) (er l0 c0 : Int) (eb : behindM kFrom r2 = .bad er l0 c0) :
    Calls Tryz.prog 92 #[.pointer (some ⟨B, 0, none⟩)] w fun e w' => e = .panicked (gave er l0 c0) ∧ Up B w w' := by
  obtain ⟨v1, v2, v3, v4, v5, v6, hc, hs⟩ := h
  have HBK := Lib.hid (Cur.blk hc)
  have H1 := Lib.hid (fun w1 (hw : Cur w1 B toks (fc first ++ shq x v1 v2 v3 v4 v5 v6) ts) => e1 ▸ name_any hw he)
  have he1 := (keeps_name _ _ _ he e1).1
  have H2 := Lib.hid (fun w1 (hw : Cur w1 B toks (fc first ++ shq x v1 v2 v3 v4 v5 v6) r1) => e2 ▸ nameBehind_lit hw he1 kOf #[111, 102] rfl)
  have he2 := (keeps_nameBehind _ _ _ _ he1 e2).1
  have H3 := Lib.hid (fun w1 (hw : Cur w1 B toks (fc first ++ shq x v1 v2 v3 v4 v5 v6) r2) => eb ▸ behind_lit hw he2 kFrom #[102, 114, 111, 109] rfl)
  have hc0 := hc
  clear eb hs hc he e1 he1 e2 he2
  go_enter Tryz.func92, Tryz.ntmps92
  go_wp2_with (first | (go_at_call 112; (with_reducible refine (H1.out _ hc0).mono ?_); rintro e w1 ⟨rfl, hc1, hch1⟩) | (go_at_call 120; (with_reducible refine (H2.out _ hc1).mono ?_); rintro e w2 ⟨rfl, hc2, hch2⟩) | (go_at_call 121; (with_reducible refine (H3.out _ hc2).mono ?_); rintro e w3 ⟨rfl, hch3⟩))
  exact ⟨rfl, rfl, ch_up HBK.out ((hch1.trans hch2).trans hch3)⟩

set_option maxRecDepth 100000 in
set_option maxHeartbeats 2000000 in
theorem trip_f4 {w : World} {B : Nat} {toks ts : List Tok} {x : SheetM} {first : Tok} (h : SRdr w B toks x first ts) (he : EndL ts) (n : List UInt8) (a : List UInt8) (f : Int) (r1 r2 r3 : List Tok) (e1 : nameM ts = .ok n r1) (e2 : nameBehindM kOf r1 = .ok a r2) (e3 : behindM kFrom r2 = .ok f r3) (er l0 c0 : Int) (eb : behindM kEvery r3 = .bad er l0 c0) :
    Calls Tryz.prog 92 #[.pointer (some ⟨B, 0, none⟩)] w fun e w' => e = .panicked (gave er l0 c0) ∧ Up B w w' := by
  obtain ⟨v1, v2, v3, v4, v5, v6, hc, hs⟩ := h
  have HBK := Lib.hid (Cur.blk hc)
  have H1 := Lib.hid (fun w1 (hw : Cur w1 B toks (fc first ++ shq x v1 v2 v3 v4 v5 v6) ts) => e1 ▸ name_any hw he)
  have he1 := (keeps_name _ _ _ he e1).1
  have H2 := Lib.hid (fun w1 (hw : Cur w1 B toks (fc first ++ shq x v1 v2 v3 v4 v5 v6) r1) => e2 ▸ nameBehind_lit hw he1 kOf #[111, 102] rfl)
  have he2 := (keeps_nameBehind _ _ _ _ he1 e2).1
  have H3 := Lib.hid (fun w1 (hw : Cur w1 B toks (fc first ++ shq x v1 v2 v3 v4 v5 v6) r2) => e3 ▸ behind_lit hw he2 kFrom #[102, 114, 111, 109] rfl)
  have he3 := (keeps_behind _ _ _ _ he2 e3).1
  have H4 := Lib.hid (fun w1 (hw : Cur w1 B toks (fc first ++ shq x v1 v2 v3 v4 v5 v6) r3) => eb ▸ behind_lit hw he3 kEvery #[101, 118, 101, 114, 121] rfl)
  have hc0 := hc
  clear eb hs hc he e1 he1 e2 he2 e3 he3
  go_enter Tryz.func92, Tryz.ntmps92
  go_wp2_with (first | (go_at_call 112; (with_reducible refine (H1.out _ hc0).mono ?_); rintro e w1 ⟨rfl, hc1, hch1⟩) | (go_at_call 120; (with_reducible refine (H2.out _ hc1).mono ?_); rintro e w2 ⟨rfl, hc2, hch2⟩) | (go_at_call 121; (with_reducible refine (H3.out _ hc2).mono ?_); rintro e w3 ⟨rfl, hc3, hch3⟩) | (go_at_call 121; (with_reducible refine (H4.out _ hc3).mono ?_); rintro e w4 ⟨rfl, hch4⟩))
  exact ⟨rfl, rfl, ch_up HBK.out (((hch1.trans hch2).trans hch3).trans hch4)⟩

set_option maxRecDepth 100000 in
set_option maxHeartbeats 2000000 in
theorem trip_f5 {w : World} {B : Nat} {toks ts : List Tok} {x : SheetM} {first : Tok} (h : SRdr w B toks x first ts) (he : EndL ts) (n : List UInt8) (a : List UInt8) (f : Int) (e0 : Int) (r1 r2 r3 r4 : List Tok) (e1 : nameM ts = .ok n r1) (e2 : nameBehindM kOf r1 = .ok a r2) (e3 : behindM kFrom r2 = .ok f r3) (e4 : behindM kEvery r3 = .ok e0 r4) (er l0 c0 : Int) (eb : behindM kUntil r4 = .bad er l0 c0) :
    Calls Tryz.prog 92 #[.pointer (some ⟨B, 0, none⟩)] w fun e w' => e = .panicked (gave er l0 c0) ∧ Up B w w' := by
  obtain ⟨v1, v2, v3, v4, v5, v6, hc, hs⟩ := h
  have HBK := Lib.hid (Cur.blk hc)
  have H1 := Lib.hid (fun w1 (hw : Cur w1 B toks (fc first ++ shq x v1 v2 v3 v4 v5 v6) ts) => e1 ▸ name_any hw he)
  have he1 := (keeps_name _ _ _ he e1).1
  have H2 := Lib.hid (fun w1 (hw : Cur w1 B toks (fc first ++ shq x v1 v2 v3 v4 v5 v6) r1) => e2 ▸ nameBehind_lit hw he1 kOf #[111, 102] rfl)
  have he2 := (keeps_nameBehind _ _ _ _ he1 e2).1
  have H3 := Lib.hid (fun w1 (hw : Cur w1 B toks (fc first ++ shq x v1 v2 v3 v4 v5 v6) r2) => e3 ▸ behind_lit hw he2 kFrom #[102, 114, 111, 109] rfl)
  have he3 := (keeps_behind _ _ _ _ he2 e3).1
  have H4 := Lib.hid (fun w1 (hw : Cur w1 B toks (fc first ++ shq x v1 v2 v3 v4 v5 v6) r3) => e4 ▸ behind_lit hw he3 kEvery #[101, 118, 101, 114, 121] rfl)
  have he4 := (keeps_behind _ _ _ _ he3 e4).1
  have H5 := Lib.hid (fun w1 (hw : Cur w1 B toks (fc first ++ shq x v1 v2 v3 v4 v5 v6) r4) => eb ▸ behind_lit hw he4 kUntil #[117, 110, 116, 105, 108] rfl)
  have hc0 := hc
  clear eb hs hc he e1 he1 e2 he2 e3 he3 e4 he4
  go_enter Tryz.func92, Tryz.ntmps92
  go_wp2_with (first | (go_at_call 112; (with_reducible refine (H1.out _ hc0).mono ?_); rintro e w1 ⟨rfl, hc1, hch1⟩) | (go_at_call 120; (with_reducible refine (H2.out _ hc1).mono ?_); rintro e w2 ⟨rfl, hc2, hch2⟩) | (go_at_call 121; (with_reducible refine (H3.out _ hc2).mono ?_); rintro e w3 ⟨rfl, hc3, hch3⟩) | (go_at_call 121; (with_reducible refine (H4.out _ hc3).mono ?_); rintro e w4 ⟨rfl, hc4, hch4⟩) | (go_at_call 121; (with_reducible refine (H5.out _ hc4).mono ?_); rintro e w5 ⟨rfl, hch5⟩))
  exact ⟨rfl, rfl, ch_up HBK.out ((((hch1.trans hch2).trans hch3).trans hch4).trans hch5)⟩

set_option maxRecDepth 100000 in
set_option maxHeartbeats 4000000 in
theorem trip_ok {w : World} {B : Nat} {toks ts : List Tok} {x : SheetM} {first : Tok} (h : SRdr w B toks x first ts) (he : EndL ts) (n : List UInt8) (a : List UInt8) (f : Int) (e0 : Int) (u : Int) (r1 r2 r3 r4 r5 : List Tok) (e1 : nameM ts = .ok n r1) (e2 : nameBehindM kOf r1 = .ok a r2) (e3 : behindM kFrom r2 = .ok f r3) (e4 : behindM kEvery r3 = .ok e0 r4) (e5 : behindM kUntil r4 = .ok u r5) :
    Calls Tryz.prog 92 #[.pointer (some ⟨B, 0, none⟩)] w (LPost w B toks first ((endM x.trips.length 1024 first r5).bind fun _ r => .ok { x with trips := x.trips ++ [⟨n, a, f, e0, u⟩] } r)) := by
  obtain ⟨v1, v2, v3, v4, v5, v6, hc, hs⟩ := h
  have HBK := Lib.hid (Cur.blk hc)
  have H1 := Lib.hid (fun w1 (hw : Cur w1 B toks (fc first ++ shq x v1 v2 v3 v4 v5 v6) ts) => e1 ▸ name_any hw he)
  have he1 := (keeps_name _ _ _ he e1).1
  have H2 := Lib.hid (fun w1 (hw : Cur w1 B toks (fc first ++ shq x v1 v2 v3 v4 v5 v6) r1) => e2 ▸ nameBehind_lit hw he1 kOf #[111, 102] rfl)
  have he2 := (keeps_nameBehind _ _ _ _ he1 e2).1
  have H3 := Lib.hid (fun w1 (hw : Cur w1 B toks (fc first ++ shq x v1 v2 v3 v4 v5 v6) r2) => e3 ▸ behind_lit hw he2 kFrom #[102, 114, 111, 109] rfl)
  have he3 := (keeps_behind _ _ _ _ he2 e3).1
  have H4 := Lib.hid (fun w1 (hw : Cur w1 B toks (fc first ++ shq x v1 v2 v3 v4 v5 v6) r3) => e4 ▸ behind_lit hw he3 kEvery #[101, 118, 101, 114, 121] rfl)
  have he4 := (keeps_behind _ _ _ _ he3 e4).1
  have H5 := Lib.hid (fun w1 (hw : Cur w1 B toks (fc first ++ shq x v1 v2 v3 v4 v5 v6) r4) => e5 ▸ behind_lit hw he4 kUntil #[117, 110, 116, 105, 108] rfl)
  have he5 := (keeps_behind _ _ _ _ he4 e5).1
  have HS := Lib.hid hs
  have hn := hs.n5
  obtain ⟨A, c, hv, hnc, -⟩ := own_form hs.r5
  have HP := Lib.hid (fun w1 (h1 : Cur w1 B toks (fc first ++ shq x v1 v2 v3 v4 v5 v6) r5) (hw : Ch (· = B) w w1) => put_Trip h1 he5 x.trips.length v5 (cs trC x.trips) ((hs.ch hw (fun k hk e => by omega)).r5) (by omega) n a f e0 u)
  have hc0 := hc
  have HB := Lib.hid hc.lt
  cases hq : endM x.trips.length 1024 first r5 with
  | bad er ll cc =>
    rw [hq] at HP
    rw [bind_bad]
    clear hs hv hn hnc hq hc he e1 he1 e2 he2 e3 he3 e4 he4 e5 he5
    go_enter Tryz.func92, Tryz.ntmps92
    go_wp2_with (first | (go_at_call 112; (with_reducible refine (H1.out _ hc0).mono ?_); rintro e w1 ⟨rfl, hc1, hch1⟩) | (go_at_call 120; (with_reducible refine (H2.out _ hc1).mono ?_); rintro e w2 ⟨rfl, hc2, hch2⟩) | (go_at_call 121; (with_reducible refine (H3.out _ hc2).mono ?_); rintro e w3 ⟨rfl, hc3, hch3⟩) | (go_at_call 121; (with_reducible refine (H4.out _ hc3).mono ?_); rintro e w4 ⟨rfl, hc4, hch4⟩) | (go_at_call 121; (with_reducible refine (H5.out _ hc4).mono ?_); rintro e w5 ⟨rfl, hc5, hch5⟩; have b2 : w5.cell? ⟨B, 12, none⟩ = some v5 := hc5.cell 10; have HCH := Lib.hid ((((hch1.trans hch2).trans hch3).trans hch4).trans hch5); have HC := Lib.hid hc5; have hlt : B < w5.heap.size := hc5.lt))
    clear hc0 hc1 hch1 hc2 hch2 hc3 hch3 hc4 hch4 hc5 hch5
    go_region_dies
    all_goals
      refine (HP.out _ (by first | exact HC.out.after (one_box _ _) | exact (HC.out.after (one_box _ _)).drew) (by first | exact HCH.out.alloc _ | exact (HCH.out.alloc _).drew)).mono ?_
      rintro e w9 ⟨rfl, hc9⟩
      exact ⟨rfl, rfl, ch_up HBK.out ((by first | exact HCH.out.alloc _ | exact (HCH.out.alloc _).drew : Ch (· = B) w _).trans hc9)⟩
  | ok u0 r =>
    rw [hq] at HP
    have HR := Lib.hid (end_room hq)
    rw [bind_ok]
    clear hs hv hn hnc hq hc he e1 he1 e2 he2 e3 he3 e4 he4 e5 he5
    go_enter Tryz.func92, Tryz.ntmps92
    go_wp2_with (first | (go_at_call 112; (with_reducible refine (H1.out _ hc0).mono ?_); rintro e w1 ⟨rfl, hc1, hch1⟩) | (go_at_call 120; (with_reducible refine (H2.out _ hc1).mono ?_); rintro e w2 ⟨rfl, hc2, hch2⟩) | (go_at_call 121; (with_reducible refine (H3.out _ hc2).mono ?_); rintro e w3 ⟨rfl, hc3, hch3⟩) | (go_at_call 121; (with_reducible refine (H4.out _ hc3).mono ?_); rintro e w4 ⟨rfl, hc4, hch4⟩) | (go_at_call 121; (with_reducible refine (H5.out _ hc4).mono ?_); rintro e w5 ⟨rfl, hc5, hch5⟩; have b2 : w5.cell? ⟨B, 12, none⟩ = some v5 := hc5.cell 10; have HCH := Lib.hid ((((hch1.trans hch2).trans hch3).trans hch4).trans hch5); have HC := Lib.hid hc5; have hlt : B < w5.heap.size := hc5.lt))
    clear hc0 hc1 hch1 hc2 hch2 hc3 hch3 hc4 hch4 hc5 hch5
    go_region_with ((go_at_call 122; refine (HP.out _ (by first | exact HC.out.after (one_box _ _) | exact (HC.out.after (one_box _ _)).drew) (by first | exact HCH.out.alloc _ | exact (HCH.out.alloc _).drew)).mono ?_; rintro e w9 ⟨A', c', rfl, ho2, hc2, hch2, hob⟩; have b3 : w9.cell? ⟨B, 12, none⟩ = some v5 := hc2.cell 10; have b4 : w9.frozen? ⟨B, 12, none⟩ = false := hc2.frozen 12))
    all_goals
      refine bodyPost_ret (results_none rfl _ _ _) rfl ?_
      exact trip_done n a f e0 u HS.out HBK.out hc2 (by first | exact HCH.out.alloc _ | exact (HCH.out.alloc _).drew) ho2 hch2 hob HR.out

theorem trip_any {w : World} {B : Nat} {toks ts : List Tok} {x : SheetM} {first : Tok} (h : SRdr w B toks x first ts) (he : EndL ts) :
    Calls Tryz.prog 92 #[.pointer (some ⟨B, 0, none⟩)] w (LPost w B toks first (tripL x first ts)) := by
  unfold tripL tripT
  cases e1 : nameM ts with
  | bad er l0 c0 => simp only [e1, bind_ok, bind_bad]; exact trip_f1 h he  er l0 c0 e1
  | ok n r1 =>
    cases e2 : nameBehindM kOf r1 with
    | bad er l0 c0 => simp only [e1, e2, bind_ok, bind_bad]; exact trip_f2 h he n r1 e1 er l0 c0 e2
    | ok a r2 =>
      cases e3 : behindM kFrom r2 with
      | bad er l0 c0 => simp only [e1, e2, e3, bind_ok, bind_bad]; exact trip_f3 h he n a r1 r2 e1 e2 er l0 c0 e3
      | ok f r3 =>
        cases e4 : behindM kEvery r3 with
        | bad er l0 c0 => simp only [e1, e2, e3, e4, bind_ok, bind_bad]; exact trip_f4 h he n a f r1 r2 r3 e1 e2 e3 er l0 c0 e4
        | ok e0 r4 =>
          cases e5 : behindM kUntil r4 with
          | bad er l0 c0 => simp only [e1, e2, e3, e4, e5, bind_ok, bind_bad]; exact trip_f5 h he n a f e0 r1 r2 r3 r4 e1 e2 e3 e4 er l0 c0 e5
          | ok u r5 =>
            simp only [e1, e2, e3, e4, e5, bind_ok]; exact trip_ok h he n a f e0 u r1 r2 r3 r4 r5 e1 e2 e3 e4 e5
end Go.Proofs.YteonmabfhilcfaaGreatDoor.Sh
namespace Go.Proofs.YteonmabfhilcfaaGreatDoor.Sh
open Go.ChangeShapes Go.WideShapes Go.ChangeAt Go.RowKit
open Lx
set_option linter.unusedVariables false
set_option linter.unusedSimpArgs false

set_option maxRecDepth 100000 in
set_option maxHeartbeats 2000000 in
theorem hazard_f1 {w : World} {B : Nat} {toks ts : List Tok} {x : SheetM} {first : Tok} (h : SRdr w B toks x first ts) (he : EndL ts)   (er l0 c0 : Int) (eb : nameM ts = .bad er l0 c0) :
    Calls Tryz.prog 93 #[.pointer (some ⟨B, 0, none⟩)] w fun e w' => e = .panicked (gave er l0 c0) ∧ Up B w w' := by
  obtain ⟨v1, v2, v3, v4, v5, v6, hc, hs⟩ := h
  have HBK := Lib.hid (Cur.blk hc)
  have H1 := Lib.hid (fun w1 (hw : Cur w1 B toks (fc first ++ shq x v1 v2 v3 v4 v5 v6) ts) => eb ▸ name_any hw he)
  have hc0 := hc
  clear eb hs hc he 
  go_enter Tryz.func93, Tryz.ntmps93
  go_wp2_with (first | (go_at_call 112; (with_reducible refine (H1.out _ hc0).mono ?_); rintro e w1 ⟨rfl, hch1⟩))
  exact ⟨rfl, rfl, ch_up HBK.out hch1⟩

set_option maxRecDepth 100000 in
set_option maxHeartbeats 2000000 in
theorem hazard_f2 {w : World} {B : Nat} {toks ts : List Tok} {x : SheetM} {first : Tok} (h : SRdr w B toks x first ts) (he : EndL ts) (n : List UInt8) (r1 : List Tok) (e1 : nameM ts = .ok n r1) (er l0 c0 : Int) (eb : nameBehindM kOn r1 = .bad er l0 c0) :
    Calls Tryz.prog 93 #[.pointer (some ⟨B, 0, none⟩)] w fun e w' => e = .panicked (gave er l0 c0) ∧ Up B w w' := by
  obtain ⟨v1, v2, v3, v4, v5, v6, hc, hs⟩ := h
  have HBK := Lib.hid (Cur.blk hc)
  have H1 := Lib.hid (fun w1 (hw : Cur w1 B toks (fc first ++ shq x v1 v2 v3 v4 v5 v6) ts) => e1 ▸ name_any hw he)
  have he1 := (keeps_name _ _ _ he e1).1
  have H2 := Lib.hid (fun w1 (hw : Cur w1 B toks (fc first ++ shq x v1 v2 v3 v4 v5 v6) r1) => eb ▸ nameBehind_lit hw he1 kOn #[111, 110] rfl)
  have hc0 := hc
  clear eb hs hc he e1 he1
  go_enter Tryz.func93, Tryz.ntmps93
  go_wp2_with (first | (go_at_call 112; (with_reducible refine (H1.out _ hc0).mono ?_); rintro e w1 ⟨rfl, hc1, hch1⟩) | (go_at_call 120; (with_reducible refine (H2.out _ hc1).mono ?_); rintro e w2 ⟨rfl, hch2⟩))
  exact ⟨rfl, rfl, ch_up HBK.out (hch1.trans hch2)⟩

set_option maxRecDepth 100000 in
set_option maxHeartbeats 2000000 in
theorem hazard_f3 {w : World} {B : Nat} {toks ts : List Tok} {x : SheetM} {first : Tok} (h : SRdr w B toks x first ts) (he : EndL ts) (n : List UInt8) (a : List UInt8) (r1 r2 : List Tok) (e1 : nameM ts = .ok n r1) (e2 : nameBehindM kOn r1 = .ok a r2) (er l0 c0 : Int) (eb : timesM kClosed r2 = .bad er l0 c0) :
    Calls Tryz.prog 93 #[.pointer (some ⟨B, 0, none⟩)] w fun e w' => e = .panicked (gave er l0 c0) ∧ Up B w w' := by
  obtain ⟨v1, v2, v3, v4, v5, v6, hc, hs⟩ := h
  have HBK := Lib.hid (Cur.blk hc)
  have H1 := Lib.hid (fun w1 (hw : Cur w1 B toks (fc first ++ shq x v1 v2 v3 v4 v5 v6) ts) => e1 ▸ name_any hw he)
  have he1 := (keeps_name _ _ _ he e1).1
  have H2 := Lib.hid (fun w1 (hw : Cur w1 B toks (fc first ++ shq x v1 v2 v3 v4 v5 v6) r1) => e2 ▸ nameBehind_lit hw he1 kOn #[111, 110] rfl)
  have he2 := (keeps_nameBehind _ _ _ _ he1 e2).1
  have H3 := Lib.hid (fun w1 (hw : Cur w1 B toks (fc first ++ shq x v1 v2 v3 v4 v5 v6) r2) => eb ▸ times_lit hw he2 kClosed #[99, 108, 111, 115, 101, 100] rfl)
  have hc0 := hc
  clear eb hs hc he e1 he1 e2 he2
  go_enter Tryz.func93, Tryz.ntmps93
  go_wp2_with (first | (go_at_call 112; (with_reducible refine (H1.out _ hc0).mono ?_); rintro e w1 ⟨rfl, hc1, hch1⟩) | (go_at_call 120; (with_reducible refine (H2.out _ hc1).mono ?_); rintro e w2 ⟨rfl, hc2, hch2⟩) | (go_at_call 114; (with_reducible refine (H3.out _ hc2).mono ?_); rintro e w3 ⟨rfl, hch3⟩))
  exact ⟨rfl, rfl, ch_up HBK.out ((hch1.trans hch2).trans hch3)⟩

set_option maxRecDepth 100000 in
set_option maxHeartbeats 4000000 in
theorem hazard_ok {w : World} {B : Nat} {toks ts : List Tok} {x : SheetM} {first : Tok} (h : SRdr w B toks x first ts) (he : EndL ts) (n : List UInt8) (a : List UInt8) (t : TimesM) (r1 r2 r3 : List Tok) (e1 : nameM ts = .ok n r1) (e2 : nameBehindM kOn r1 = .ok a r2) (e3 : timesM kClosed r2 = .ok t r3) :
    Calls Tryz.prog 93 #[.pointer (some ⟨B, 0, none⟩)] w (LPost w B toks first ((endM x.hazards.length 256 first r3).bind fun _ r => .ok { x with hazards := x.hazards ++ [⟨n, a, t⟩] } r)) := by
  obtain ⟨v1, v2, v3, v4, v5, v6, hc, hs⟩ := h
  have HBK := Lib.hid (Cur.blk hc)
  have H1 := Lib.hid (fun w1 (hw : Cur w1 B toks (fc first ++ shq x v1 v2 v3 v4 v5 v6) ts) => e1 ▸ name_any hw he)
  have he1 := (keeps_name _ _ _ he e1).1
  have H2 := Lib.hid (fun w1 (hw : Cur w1 B toks (fc first ++ shq x v1 v2 v3 v4 v5 v6) r1) => e2 ▸ nameBehind_lit hw he1 kOn #[111, 110] rfl)
  have he2 := (keeps_nameBehind _ _ _ _ he1 e2).1
  have H3 := Lib.hid (fun w1 (hw : Cur w1 B toks (fc first ++ shq x v1 v2 v3 v4 v5 v6) r2) => e3 ▸ times_lit hw he2 kClosed #[99, 108, 111, 115, 101, 100] rfl)
  have he3 := (keeps_times _ _ _ _ he2 e3).1
  obtain ⟨f_, e_, l_⟩ := t
  have HS := Lib.hid hs
  have hn := hs.n6
  obtain ⟨A, c, hv, hnc, -⟩ := own_form hs.r6
  have HP := Lib.hid (fun w1 (h1 : Cur w1 B toks (fc first ++ shq x v1 v2 v3 v4 v5 v6) r3) (hw : Ch (· = B) w w1) => put_Haz h1 he3 x.hazards.length v6 (cs haC x.hazards) ((hs.ch hw (fun k hk e => by omega)).r6) (by omega) n a f_ e_ l_)
  have hc0 := hc
  have HB := Lib.hid hc.lt
  cases hq : endM x.hazards.length 256 first r3 with
  | bad er ll cc =>
    rw [hq] at HP
    rw [bind_bad]
    clear hs hv hn hnc hq hc he e1 he1 e2 he2 e3 he3
    go_enter Tryz.func93, Tryz.ntmps93
    go_wp2_with (first | (go_at_call 112; (with_reducible refine (H1.out _ hc0).mono ?_); rintro e w1 ⟨rfl, hc1, hch1⟩) | (go_at_call 120; (with_reducible refine (H2.out _ hc1).mono ?_); rintro e w2 ⟨rfl, hc2, hch2⟩) | (go_at_call 114; (with_reducible refine (H3.out _ hc2).mono ?_); rintro e w3 ⟨rfl, hc3, hch3⟩; have b2 : w3.cell? ⟨B, 13, none⟩ = some v6 := hc3.cell 11; have HCH := Lib.hid ((hch1.trans hch2).trans hch3); have HC := Lib.hid hc3; have hlt : B < w3.heap.size := hc3.lt))
    clear hc0 hc1 hch1 hc2 hch2 hc3 hch3
    go_region_dies
    all_goals
      refine (HP.out _ (by first | exact HC.out.after (one_box _ _) | exact (HC.out.after (one_box _ _)).drew) (by first | exact HCH.out.alloc _ | exact (HCH.out.alloc _).drew)).mono ?_
      rintro e w9 ⟨rfl, hc9⟩
      exact ⟨rfl, rfl, ch_up HBK.out ((by first | exact HCH.out.alloc _ | exact (HCH.out.alloc _).drew : Ch (· = B) w _).trans hc9)⟩
  | ok u0 r =>
    rw [hq] at HP
    have HR := Lib.hid (end_room hq)
    rw [bind_ok]
    clear hs hv hn hnc hq hc he e1 he1 e2 he2 e3 he3
    go_enter Tryz.func93, Tryz.ntmps93
    go_wp2_with (first | (go_at_call 112; (with_reducible refine (H1.out _ hc0).mono ?_); rintro e w1 ⟨rfl, hc1, hch1⟩) | (go_at_call 120; (with_reducible refine (H2.out _ hc1).mono ?_); rintro e w2 ⟨rfl, hc2, hch2⟩) | (go_at_call 114; (with_reducible refine (H3.out _ hc2).mono ?_); rintro e w3 ⟨rfl, hc3, hch3⟩; have b2 : w3.cell? ⟨B, 13, none⟩ = some v6 := hc3.cell 11; have HCH := Lib.hid ((hch1.trans hch2).trans hch3); have HC := Lib.hid hc3; have hlt : B < w3.heap.size := hc3.lt))
    clear hc0 hc1 hch1 hc2 hch2 hc3 hch3
    go_region_with ((go_at_call 123; refine (HP.out _ (by first | exact HC.out.after (one_box _ _) | exact (HC.out.after (one_box _ _)).drew) (by first | exact HCH.out.alloc _ | exact (HCH.out.alloc _).drew)).mono ?_; rintro e w9 ⟨A', c', rfl, ho2, hc2, hch2, hob⟩; have b3 : w9.cell? ⟨B, 13, none⟩ = some v6 := hc2.cell 11; have b4 : w9.frozen? ⟨B, 13, none⟩ = false := hc2.frozen 13))
    all_goals
      refine bodyPost_ret (results_none rfl _ _ _) rfl ?_
      exact haz_done n a f_ e_ l_ HS.out HBK.out hc2 (by first | exact HCH.out.alloc _ | exact (HCH.out.alloc _).drew) ho2 hch2 hob HR.out

theorem hazard_any {w : World} {B : Nat} {toks ts : List Tok} {x : SheetM} {first : Tok} (h : SRdr w B toks x first ts) (he : EndL ts) :
    Calls Tryz.prog 93 #[.pointer (some ⟨B, 0, none⟩)] w (LPost w B toks first (hazL x first ts)) := by
  unfold hazL hazT
  cases e1 : nameM ts with
  | bad er l0 c0 => simp only [e1, bind_ok, bind_bad]; exact hazard_f1 h he  er l0 c0 e1
  | ok n r1 =>
    cases e2 : nameBehindM kOn r1 with
    | bad er l0 c0 => simp only [e1, e2, bind_ok, bind_bad]; exact hazard_f2 h he n r1 e1 er l0 c0 e2
    | ok a r2 =>
      cases e3 : timesM kClosed r2 with
      | bad er l0 c0 => simp only [e1, e2, e3, bind_ok, bind_bad]; exact hazard_f3 h he n a r1 r2 e1 e2 er l0 c0 e3
      | ok t r3 =>
        simp only [e1, e2, e3, bind_ok]; exact hazard_ok h he n a t r1 r2 r3 e1 e2 e3
end Go.Proofs.YteonmabfhilcfaaGreatDoor.Sh
