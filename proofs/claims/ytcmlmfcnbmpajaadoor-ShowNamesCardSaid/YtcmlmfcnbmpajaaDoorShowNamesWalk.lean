/- ShowNames, walked: the chapter's examples come out as it tells. Condition: the library's table holds what start-up lays (Env). -/
import Derived.Test.YtcmlmfcnbmpajaaDoorShowLives
namespace Go.Proofs.YtcmlmfcnbmpajaaDoor.Sw
open Go.ChangeShapes Go.WideShapes Go.ChangeAt Go.RowKit
open Lx Sh
set_option linter.unusedVariables false
set_option linter.unusedSimpArgs false

def namesM : SheetM := ⟨40, [[97], [98], [99]], [], [doorM], [routeM], [], []⟩
theorem names_may : May namesM := by constructor <;> decide +kernel
def namesT : List UInt8 := [104, 111, 114, 105, 122, 111, 110, 32, 52, 48, 10, 115, 116, 111, 112, 32, 97, 10, 115, 116, 111, 112, 32, 98, 10, 115, 116, 111, 112, 32, 99, 10] ++ livesDr ++ [10] ++ livesRt ++ [10]
theorem names_text : endsOf (linesT namesM) = namesT := by decide +kernel
def badM : SheetM := ⟨-1, [], [], [], [], [], []⟩
theorem bad_few : ShFew badM := ⟨by decide, by decide, by decide, by decide, by decide, by decide, fun r hr => by cases hr⟩
theorem bad_check : checkM badM = 9 := by decide +kernel
def pM : PathM := ⟨[112], [97], [98], -7⟩
theorem p_text : pathX pM = [112, 97, 116, 104, 32, 112, 32, 97, 32, 98, 32, 45, 55] := by decide +kernel
def tM : TripM := ⟨[116], [114], 0, 0, 9⟩
theorem t_text : tripX tM = [116, 114, 105, 112, 32, 116, 32, 111, 102, 32, 114, 32, 102, 114, 111, 109, 32, 48, 32, 101, 118, 101, 114, 121, 32, 48, 32, 117, 110, 116, 105, 108, 32, 57] := by decide +kernel
def hM : HazM := ⟨[104], [112], 0, 0, 0⟩
theorem h_text : hazX hM = [104, 97, 122, 97, 114, 100, 32, 104, 32, 111, 110, 32, 112, 32, 102, 114, 111, 109, 32, 48, 32, 101, 118, 101, 114, 121, 32, 48, 32, 99, 108, 111, 115, 101, 100, 32, 48] := by decide +kernel
def r2M : RouteM := ⟨[114], [[97]], [5], []⟩
theorem r2_text : routeX r2M = [114, 111, 117, 116, 101, 32, 114, 32, 97] := by decide +kernel
theorem i64s {n : Int} (h : -1000 ≤ n ∧ n ≤ 1000) : I64 n := ⟨by omega, by omega⟩
theorem empty_sh0 (w : World) (S : Nat → Prop) : Sh w S badM ⟨none, none, none, none, none, none, 0, 0, 0, 0, 0, 0⟩ := ⟨Rd.none_, Rd.none_, Rd.none_, ⟨[], Rd.none_, rfl⟩, Rd.none_, Rd.none_⟩

theorem names_sh {w w1 w2 W : World} {sa ra ya : Option Addr} {sc rc yc : Nat}
    (h1 : Below (w.alloc (.cells #[.string ⟨#[97]⟩, .string ⟨#[98]⟩, .string ⟨#[99]⟩] 9)).heap.size (w.alloc (.cells #[.string ⟨#[97]⟩, .string ⟨#[98]⟩, .string ⟨#[99]⟩] 9)) w1)
    (hr : RtAt w1 (fun b => (w.alloc (.cells #[.string ⟨#[97]⟩, .string ⟨#[98]⟩, .string ⟨#[99]⟩] 9)).heap.size ≤ b ∧ b < w1.heap.size) routeM sa ra ya)
    (h2 : Below (w1.alloc (.cells #[.string ⟨#[114]⟩, .slice sa 3 sc, .slice ra 2 rc, .slice ya 1 yc] 25)).heap.size (w1.alloc (.cells #[.string ⟨#[114]⟩, .slice sa 3 sc, .slice ra 2 rc, .slice ya 1 yc] 25)) w2)
    (hW : Below w2.heap.size w2 W) (kD : Blk W w2.heap.size 31 (cs doC [doorM])) :
    Sh W (· < W.heap.size) namesM ⟨some ⟨w.heap.size, 0, none⟩, none, some ⟨w2.heap.size, 0, none⟩, some ⟨w1.heap.size, 0, none⟩, none, none, 3, 0, 1, 1, 0, 0⟩ := by
  have kA : Blk (w.alloc (.cells #[.string ⟨#[97]⟩, .string ⟨#[98]⟩, .string ⟨#[99]⟩] 9)) w.heap.size 9 (cs strC [[97], [98], [99]]) := Blk.new _ _ _
  have kB : Blk (w1.alloc (.cells #[.string ⟨#[114]⟩, .slice sa 3 sc, .slice ra 2 rc, .slice ya 1 yc] 25)) w1.heap.size 25 [.string ⟨#[114]⟩, .slice sa 3 sc, .slice ra 2 rc, .slice ya 1 yc] := Blk.new _ _ _
  have k1 := kA.after h1
  have b12 : Below w1.heap.size w1 w2 := keep_trans (one_box _ _) h2
  have b1W : Below w1.heap.size w1 W := keep_trans b12 hW
  have kA' := k1.after b1W
  have kB' := (kB.after h2).after hW
  have hr' : RtAt W (· < W.heap.size) routeM sa ra ya := (hr.keep fun b hb => b1W.block b hb.2).more fun b hb => by have := b1W.size; omega
  exact ⟨kA'.rd kA'.lt 0, Rd.none_, kD.rd kD.lt 0, ⟨_, kB'.rd kB'.lt 0, sa, sc, ra, rc, ya, yc, [], rfl, hr'.hs, hr'.hr, hr'.hy, rfl⟩, Rd.none_, Rd.none_⟩
set_option maxHeartbeats 16000000 in
set_option maxRecDepth 100000 in
theorem names_all (w : World) (hE : Tk.Env w) : Calls Tryd.prog 3 #[] w fun e w' => e = .returned (.bool true) ∧ Below w.heap.size w w' := by
  have CT := Lib.hid (fun w' p (hb : Below w.heap.size w w') (h : Sh w' (· < w'.heap.size) namesM p) => text_ok namesM p w' h names_may (hE.on hb))
  rw [names_text] at CT
  have CL := Lib.hid (fun w' => lines_no badM ⟨none, none, none, none, none, none, 0, 0, 0, 0, 0, 0⟩ w' (empty_sh0 _ _) bad_few (by rw [bad_check]; decide))
  rw [bad_check] at CL
  have CV := Lib.hid (fun w' (hb : Below w.heap.size w w') => lives_any w' (hE.on hb))
  have CP := Lib.hid (fun w' (hb : Below w.heap.size w w') => path_any pM w' (hE.on hb) (i64s (by decide)) (by rw [p_text]; decide))
  rw [p_text] at CP
  have CR := Lib.hid (fun w' (hb : Below w.heap.size w w') => trip_any tM w' (hE.on hb) ⟨i64s (by decide), i64s (by decide), i64s (by decide)⟩ (by rw [t_text]; decide))
  rw [t_text] at CR
  have CH := Lib.hid (fun w' (hb : Below w.heap.size w w') => haz_any hM w' (hE.on hb) ⟨i64s (by decide), i64s (by decide), i64s (by decide)⟩ (by rw [h_text]; decide))
  rw [h_text] at CH
  have CO := Lib.hid (fun w' (hb : Below w.heap.size w w') sa sc ra rc ya yc (h : RtAt w' (· < w'.heap.size) r2M sa ra ya) => route_any r2M sa ra ya sc rc yc w' h ⟨by decide, by decide, by decide⟩ (hE.on hb) (by intro d hd; simp [r2M] at hd; subst hd; exact i64s (by decide)) (by intro d hd; simp [r2M] at hd) (by rw [r2_text]; decide))
  rw [r2_text] at CO
  clear hE
  go_enter Tryd.func3, Tryd.ntmps3
  go_upto_region 2 with (first
    | (go_at_call 6; (with_reducible refine (route06 _).mono ?_); rintro e w1 ⟨sa, sc, ra, rc, ya, yc, rfl, hr, h1⟩; have HR := Lib.hid hr; have H1 := Lib.hid h1; clear hr h1)
    | (go_at_call 7; (with_reducible refine (door06 _).mono ?_); rintro e w2 ⟨rfl, h2⟩; have H2 := Lib.hid h2; clear h2)
    | fail)
  obtain ⟨W, hW⟩ : ∃ W, W = (w2.alloc (.cells #[.string ⟨#[100]⟩, .string ⟨#[97]⟩, .string ⟨#[98]⟩, .int .i64 3, .int .i64 5, .int .i64 10, .int .i64 2] 31)).alloc (.cells #[.int .i64 40, .slice (some ⟨w.heap.size, 0, none⟩) 3 3, .slice none 0 0, .slice (some ⟨w2.heap.size, 0, none⟩) 1 1, .slice (some ⟨w1.heap.size, 0, none⟩) 1 1, .slice none 0 0, .slice none 0 0] 38) := ⟨_, rfl⟩
  have HW2 : Hid (Below w2.heap.size w2 W) := Lib.hid (by rw [hW]; exact two_box _ _ _)
  have HW : Hid (Below w.heap.size w W) := Lib.hid (keep_trans (keep_trans (keep_trans (one_box _ _) H1.out) (keep_trans (one_box _ _) H2.out)) HW2.out)
  have HS := Lib.hid (names_sh H1.out HR.out H2.out HW2.out (by rw [hW]; exact (Blk.new w2 _ _).alloc _))
  have KS : Hid (Blk W (w2.heap.size + 1) 38 [.int .i64 40, .slice (some ⟨w.heap.size, 0, none⟩) 3 3, .slice none 0 0, .slice (some ⟨w2.heap.size, 0, none⟩) 1 1, .slice (some ⟨w1.heap.size, 0, none⟩) 1 1, .slice none 0 0, .slice none 0 0]) := Lib.hid (by rw [hW]; exact Blk.new2 w2 _ _ _)
  have z0 := KS.out.cell 0
  have z1 := KS.out.cell 1
  have z2 := KS.out.cell 2
  have z3 := KS.out.cell 3
  have z4 := KS.out.cell 4
  have z5 := KS.out.cell 5
  have z6 := KS.out.cell 6
  simp only [List.getElem?_cons_zero, List.getElem?_cons_succ] at z0 z1 z2 z3 z4 z5 z6
  rw [← hW]
  clear hW
  have HT := Lib.hid (CT.out W _ HW.out HS.out)
  go_wp2_with (first
    | (go_at_call 8; refine HT.out.mono ?_; rintro e w3 ⟨rfl, h⟩; have Q3 := Lib.hid (keep_trans HW.out h); clear h)
    | (go_at_call 9; refine (CL.out _).mono ?_; rintro e w4 ⟨rfl, h⟩; have Q4 := Lib.hid (keep_trans Q3.out h); clear h)
    | (go_at_call 10; refine (CV.out _ Q4.out).mono ?_; rintro e w5 ⟨rfl, h⟩; have Q5 := Lib.hid (keep_trans Q4.out h); clear h)
    | (go_at_call 11; refine (CP.out _ Q5.out).mono ?_; rintro e w6 ⟨rfl, h⟩; have Q6 := Lib.hid (keep_trans Q5.out h); clear h)
    | (go_at_call 12; refine (CR.out _ Q6.out).mono ?_; rintro e w7 ⟨rfl, h⟩; have Q7 := Lib.hid (keep_trans Q6.out h); clear h)
    | (go_at_call 13; refine (CH.out _ Q7.out).mono ?_; rintro e w8 ⟨rfl, h⟩; have Q8 := Lib.hid (keep_trans Q7.out h); clear h)
    | fail)
  have hrt : RtAt ((w8.alloc (.cells #[.string ⟨#[97]⟩] 9)).alloc (.cells #[.int .i64 5] 2)) (· < ((w8.alloc (.cells #[.string ⟨#[97]⟩] 9)).alloc (.cells #[.int .i64 5] 2)).heap.size) r2M (some ⟨w8.heap.size, 0, none⟩) (some ⟨w8.heap.size + 1, 0, none⟩) none :=
    ⟨Blk.rd (l := cs strC [[97]]) (t := 9) ((Blk.new w8 9 (cs strC [[97]])).alloc _) (by simp <;> omega) 0, Blk.rd (l := cs intC [5]) (t := 2) (Blk.new2 w8 _ 2 (cs intC [5])) (by simp <;> omega) 0, Rd.none_⟩
  refine (CO.out _ (keep_trans Q8.out (two_box _ _ _)) _ 1 _ 1 _ 0 hrt).mono ?_
  rintro e w9 ⟨rfl, h⟩
  have Q9 := Lib.hid (keep_trans (keep_trans Q8.out (two_box _ _ _)) h)
  clear h hrt
  go_wp2_with fail
  go_ret
  exact ⟨rfl, Q9.out⟩
end Go.Proofs.YtcmlmfcnbmpajaaDoor.Sw
