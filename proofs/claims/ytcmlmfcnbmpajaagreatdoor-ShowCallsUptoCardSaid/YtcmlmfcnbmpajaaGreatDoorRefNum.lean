/- The document's text of one number, proved by walking its text. -/
import Derived.Test.YtcmlmfcnbmpajaaGreatDoorRefShow
import Derived.Test.YtcmlmfcnbmpajaaGreatDoorSheetBulk
import Derived.Test.YtcmlmfcnbmpajaaGreatDoorKitLines
namespace Go.Proofs.YtcmlmfcnbmpajaaGreatDoor.Sw
open Go.ChangeShapes Go.WideShapes Go.ChangeAt Go.RowKit
open Lx Sh Tk
set_option linter.unusedVariables false
set_option linter.unusedSimpArgs false
set_option maxRecDepth 100000

set_option maxHeartbeats 4000000 in
theorem rtoks_one (n : Int) (h : I64 n) (g : Nat) (T : TypeId) (w : World) (hg : Blk w g T [.int .i64 3, .string ⟨#[]⟩, .int .i64 n, .int .i64 0, .int .i64 0]) :
    Calls Tryz.prog 82 #[.slice (some ⟨g, 0, none⟩) 1 1] w fun e w' => e = .returned (.string ⟨(Lib.itoa n).toArray⟩) ∧ w = w' := by
  have CD := Lib.hid (fun w' => rdigs_any n h w')
  have hL : (Lib.itoa n).length ≤ 21 := Lib.itoa_length_le n h.1 h.2
  have c0 : w.cell? ⟨g, 0, none⟩ = some (.int .i64 3) := hg.cell 0
  have c2 : w.cell? ⟨g, 2, none⟩ = some (.int .i64 n) := hg.cell 2
  clear h hg
  generalize Lib.itoa n = D at *
  go_enter Tryz.func82, Tryz.ntmps82
  go_wp2
  go_loopw [3, 4] (fun v3 v4 wr => wr = w ∧ (v3 = .string ⟨#[]⟩ ∧ v4 = .int .i64 0 ∨ v3 = .string ⟨D.toArray⟩ ∧ v4 = .int .i64 1)) (fun _ v _ => (1 - intOf v).toNat)
  case atStart => exact ⟨rfl, .inl ⟨rfl, rfl⟩⟩
  case round =>
    obtain ⟨rfl, ⟨rfl, rfl⟩ | ⟨rfl, rfl⟩⟩ := hrel
    · go_wp2_with (first
        | (go_at_call 113; (with_reducible refine (CD.out _).mono ?_); rintro e w1 ⟨rfl, rfl⟩)
        | fail)
      go_roundw
      case rel => exact ⟨trivial, .inr ⟨congrArg Value.string (bytes_eq (by simp)), rfl⟩⟩
      case measure => simp [intOf]
    · go_wp2
      go_ret
      exact ⟨rfl, rfl⟩
/-- a number's text -/
theorem rnum_any (n : Int) (h : I64 n) (w : World) : Calls Tryz.prog 47 #[.int .i64 n] w (TextPost w (Lib.itoa n)) := by
  have CT : Hid (∀ w' g, Blk w' g 107 [.int .i64 3, .string ⟨#[]⟩, .int .i64 n, .int .i64 0, .int .i64 0] → Calls Tryz.prog 82 #[.slice (some ⟨g, 0, none⟩) 1 1] w' fun e w'' => e = .returned (.string ⟨(Lib.itoa n).toArray⟩) ∧ w' = w'') := Lib.hid (fun w' g hg => rtoks_one n h g _ w' hg)
  clear h
  generalize Lib.itoa n = D at *
  go_enter Tryz.func47, Tryz.ntmps47
  go_wp2_with (first
    | (go_at_call 82; (with_reducible refine (CT.out _ _ (Blk.new w _ _)).mono ?_); rintro e w1 ⟨rfl, rfl⟩)
    | fail)
  go_ret
  exact ⟨rfl, one_box _ _⟩
end Go.Proofs.YtcmlmfcnbmpajaaGreatDoor.Sw
