/- The statements' own examples (lives) come out true: proved by walking the text. -/
import Derived.Test.YtcmlmfcnbmpajaaGreatDoorShowLines
import Derived.Test.YtcmlmfcnbmpajaaGreatDoorSheetLives
namespace Go.Proofs.YtcmlmfcnbmpajaaGreatDoor.Sw
open Go.ChangeShapes Go.WideShapes Go.ChangeAt Go.RowKit
open Lx Sh
set_option linter.unusedVariables false
set_option linter.unusedSimpArgs false

set_option maxHeartbeats 1000000 in
theorem door06 (w : World) : Calls Tryz.prog 28 #[] w fun e w' => e = .returned (.agg #[.string ⟨#[100]⟩, .string ⟨#[97]⟩, .string ⟨#[98]⟩, .int .i64 3, .int .i64 5, .int .i64 10, .int .i64 2]) ∧ Below w.heap.size w w' := by
  go_enter Tryz.func28, Tryz.ntmps28
  go_wp2
  exact bodyPost_ret (v := .agg #[.string ⟨#[100]⟩, .string ⟨#[97]⟩, .string ⟨#[98]⟩, .int .i64 3, .int .i64 5, .int .i64 10, .int .i64 2]) (by simp [results, Tryz.results28, go_sem]) rfl ⟨rfl, one_box _ _⟩
theorem Blk.newAt (w : World) (t : TypeId) (l : List Value) (g : Nat) (hg : g = w.heap.size) : Blk (w.alloc (.cells l.toArray t)) g t l := by subst hg; exact Blk.new _ _ _
def routeM : RouteM := ⟨[114], [[97], [98], [99]], [5, 3], [2]⟩
def RtPost (w : World) (r : RouteM) (e : Ending) (w' : World) : Prop := ∃ sa sc ra rc ya yc, e = .returned (rtV r sa ra ya sc rc yc) ∧ RtAt w' (fun b => w.heap.size ≤ b ∧ b < w'.heap.size) r sa ra ya ∧ Below w.heap.size w w'
set_option maxHeartbeats 1000000 in
theorem route06 (w : World) : Calls Tryz.prog 29 #[] w (RtPost w routeM) := by
  go_enter Tryz.func29, Tryz.ntmps29
  go_wp2
  obtain ⟨W0, hW0⟩ : ∃ W, W = w.alloc (.cells #[.string ⟨#[114]⟩, .slice (some ⟨w.heap.size + 1, 0, none⟩) 3 3, .slice (some ⟨w.heap.size + 1 + 1, 0, none⟩) 2 2, .slice (some ⟨w.heap.size + 1 + 1 + 1, 0, none⟩) 1 1] 38) := ⟨_, rfl⟩
  have hs0 : W0.heap.size = w.heap.size + 1 := by rw [hW0]; simp
  refine bodyPost_ret (v := .agg #[.string ⟨#[114]⟩, .slice (some ⟨w.heap.size + 1, 0, none⟩) 3 3, .slice (some ⟨w.heap.size + 1 + 1, 0, none⟩) 2 2, .slice (some ⟨w.heap.size + 1 + 1 + 1, 0, none⟩) 1 1]) (by simp [results, Tryz.results29, go_sem]) rfl ?_
  rw [← hW0]
  refine ⟨_, 3, _, 2, _, 1, rfl, ⟨?_, ?_, ?_⟩, ?_⟩
  · exact Blk.rd (l := cs strC [[97], [98], [99]]) (t := 9) (((Blk.newAt W0 9 (cs strC [[97], [98], [99]]) _ hs0.symm).alloc _).alloc _) (by simp; omega) 0
  · exact Blk.rd (l := cs intC [5, 3]) (t := 2) ((Blk.newAt _ 2 (cs intC [5, 3]) _ (by simp; omega)).alloc _) (by simp; omega) 0
  · exact Blk.rd (l := cs intC [2]) (t := 2) (Blk.newAt _ 2 (cs intC [2]) _ (by simp; omega)) (by simp; omega) 0
  · have h0 : Below w.heap.size w W0 := by rw [hW0]; exact one_box _ _
    exact ((h0.alloc (by omega) _).alloc (by simp; omega) _).alloc (by simp; omega) _
def livesRt : List UInt8 := [114, 111, 117, 116, 101, 32, 114, 32, 97, 32, 53, 32, 98, 32, 115, 116, 97, 121, 32, 50, 32, 51, 32, 99]
def livesDr : List UInt8 := [100, 111, 111, 114, 32, 100, 32, 97, 32, 98, 32, 51, 32, 102, 114, 111, 109, 32, 53, 32, 101, 118, 101, 114, 121, 32, 49, 48, 32, 111, 112, 101, 110, 32, 50]
def doorM : DoorM := ⟨[100], [97], [98], 3, 5, 10, 2⟩
theorem lives_rt : routeX routeM = livesRt := by decide +kernel
theorem lives_dr : doorX doorM = livesDr := by decide +kernel
set_option maxHeartbeats 4000000 in
set_option maxRecDepth 100000 in
theorem lives_any (w : World) (hE : Tk.Env w) : Calls Tryz.prog 6 #[] w fun e w' => e = .returned (.bool true) ∧ Below w.heap.size w w' := by
  have CR := Lib.hid (fun w' (hb : Below w.heap.size w w') sa sc ra rc ya yc (h : RtAt w' (· < w'.heap.size) routeM sa ra ya) => route_any routeM sa ra ya sc rc yc w' h ⟨by decide, by decide, by decide⟩ (hE.on hb) (by intro d hd; simp [routeM] at hd; rcases hd with rfl | rfl <;> exact ⟨by decide, by decide⟩) (by intro d hd; simp [routeM] at hd; subst hd; exact ⟨by decide, by decide⟩) (by rw [lives_rt]; decide))
  have CDD := Lib.hid (fun w' (hb : Below w.heap.size w w') => door_any doorM w' (hE.on hb) ⟨by decide, by decide⟩ ⟨⟨by decide, by decide⟩, ⟨by decide, by decide⟩, ⟨by decide, by decide⟩⟩ (by rw [lives_dr]; decide))
  rw [lives_rt] at CR
  rw [lives_dr] at CDD
  clear hE
  go_enter Tryz.func6, Tryz.ntmps6
  go_wp2_with (first
    | (go_at_call 28; (with_reducible refine (door06 _).mono ?_); rintro e w1 ⟨rfl, h1⟩; have H1 := Lib.hid h1; clear h1)
    | (go_at_call 29; (with_reducible refine (route06 _).mono ?_); rintro e w3 ⟨sa, sc, ra, rc, ya, yc, rfl, hr, h3⟩; have HR := Lib.hid hr; have H3 := Lib.hid h3; clear hr h3)
    | (go_at_call 17; refine (CDD.out _ H1.out).mono ?_; rintro e w2 ⟨rfl, h2⟩; have H2 := Lib.hid (keep_trans H1.out h2); clear h2)
    | (go_at_call 19; refine (CR.out _ (keep_trans H2.out H3.out) sa sc ra rc ya yc (HR.out.more fun k hk => hk.2)).mono ?_; rintro e w4 ⟨rfl, h4⟩; have H4 := Lib.hid (keep_trans (keep_trans H2.out H3.out) h4); clear h4)
    | fail)
  go_ret
  exact ⟨rfl, H4.out⟩
end Go.Proofs.YtcmlmfcnbmpajaaGreatDoor.Sw
