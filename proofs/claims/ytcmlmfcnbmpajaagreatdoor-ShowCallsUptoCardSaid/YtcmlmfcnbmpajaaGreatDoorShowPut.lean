/- Package show's (*line).put: words are laid behind what a line holds, with one blank between two; digits; proved by walking their text. Conditions: the words lie in a row of their own; the line's text then has at most 2^47 bytes. -/
import Derived.Test.YtcmlmfcnbmpajaaGreatDoorShowBuild
import Derived.Test.YtcmlmfcnbmpajaaGreatDoorEachA
namespace Go.Proofs.YtcmlmfcnbmpajaaGreatDoor.Sw
open Go.ChangeShapes Go.WideShapes Go.ChangeAt Go.RowKit
open Lx Sh
set_option linter.unusedVariables false
set_option linter.unusedSimpArgs false

/-- a word behind a line's bytes -/
def stepW (l s : List UInt8) : List UInt8 := if l = [] then s else l ++ 32 :: s
def joinW (l : List UInt8) (ws : List (List UInt8)) : List UInt8 := ws.foldl stepW l
theorem joinW_nil (l : List UInt8) : joinW l [] = l := rfl
theorem joinW_cons (l s : List UInt8) (r : List (List UInt8)) : joinW l (s :: r) = joinW (stepW l s) r := rfl
theorem joinW_app (l : List UInt8) (a b : List (List UInt8)) : joinW l (a ++ b) = joinW (joinW l a) b := List.foldl_append
theorem joinW_take {l : List UInt8} {ws : List (List UInt8)} {k : Nat} {a : List UInt8} (h : ws[k]? = some a) : joinW l (ws.take (k + 1)) = stepW (joinW l (ws.take k)) a := by
  rw [List.take_add_one, h, joinW_app]; rfl
theorem stepW_le (l s : List UInt8) : l.length ≤ (stepW l s).length := by
  unfold stepW; split
  · subst_vars; simp
  · simp
theorem joinW_le : ∀ (ws : List (List UInt8)) (l : List UInt8), l.length ≤ (joinW l ws).length
  | [], l => Nat.le_refl _
  | s :: r, l => Nat.le_trans (stepW_le l s) (joinW_le r _)
theorem joinW_take_le (l : List UInt8) (ws : List (List UInt8)) (k : Nat) : (joinW l (ws.take k)).length ≤ (joinW l ws).length := by
  have h := joinW_le (ws.drop k) (joinW l (ws.take k))
  rwa [← joinW_app, List.take_append_drop] at h
/-- behind a line that holds something -/
theorem joinW_some {l : List UInt8} (h : l ≠ []) : ∀ ws : List (List UInt8), joinW l ws = l ++ ws.flatMap (fun s => 32 :: s) := by
  intro ws
  induction ws generalizing l with
  | nil => simp [joinW]
  | cons s r ih =>
    have e : stepW l s = l ++ 32 :: s := by simp [stepW, h]
    rw [joinW_cons, e, ih (by simp)]
    simp
theorem joinW_first (s : List UInt8) (h : s ≠ []) (r : List (List UInt8)) : joinW [] (s :: r) = s ++ r.flatMap (fun s => 32 :: s) := by
  rw [joinW_cons]; exact joinW_some (by simpa [stepW] using h) r

theorem words_at {w : World} {g : Nat} {t : TypeId} {ws : List (List UInt8)} (h : Blk w g t (cs strC ws)) {k : Nat} {a : List UInt8} (ha : ws[k]? = some a) : w.cell? ⟨g, k, none⟩ = some (.string ⟨a.toArray⟩) := by
  have := cs_at strC 1 (fun _ => rfl) ws k a ha 0 (by omega)
  rw [Nat.mul_one, Nat.add_zero] at this
  rw [h.cell, this]; rfl

def PutPost (w : World) (B b : Nat) (l : List UInt8) (e : Ending) (w' : World) : Prop := e = .returned (.tuple #[]) ∧ LineAt w' 90 B b l ∧ LCh w B b w'
set_option maxHeartbeats 4000000 in
set_option maxRecDepth 100000 in
theorem put_any (B b g n c : Nat) (l : List UInt8) (ws : List (List UInt8)) (w : World) (h : LineAt w 90 B b l) (hn : Hid (n = ws.length)) (hN : n ≤ 1000000) (hg : Blk w g 9 (cs strC ws)) (hgb : g ≠ b) (hlen : (joinW l ws).length ≤ 140737488355328) (hBw : B ≤ w.heap.size) :
    Calls Tryz.prog 48 #[.pointer (some ⟨b, 0, none⟩), .slice (some ⟨g, 0, none⟩) n c] w (PutPost w B b (joinW l ws)) := by
  have HL := Lib.hid h
  have HG := Lib.hid hg
  have HM := Lib.hid (joinW_take_le l ws)
  clear h hg
  go_enter Tryz.func48, Tryz.ntmps48
  go_wp2
  go_loopw [8] (fun v wr => ∃ k : Nat, v = .int .i64 k ∧ k ≤ n ∧ Hid (LineAt wr 90 B b (joinW l (ws.take k))) ∧ Hid (LCh w B b wr)) (fun v _ => n - (intOf v).toNat)
  case atStart => exact ⟨0, rfl, by omega, Lib.hid HL.out, Lib.hid (LCh.refl _ _ _)⟩
  case round =>
    obtain ⟨k, rfl, hk, HK, HC⟩ := hrel
    by_cases hlt : k < n
    · obtain ⟨a, ha⟩ := at_in ws hn hlt
      have HB := Lib.hid (HC.out.blk HG.out hgb (by decide))
      have a0 : wr.cell? ⟨g, k, none⟩ = some (.string ⟨a.toArray⟩) := words_at HB.out ha
      have hs : B ≤ wr.heap.size := Nat.le_trans hBw (Ch.size HC.out)
      have hm1 := HM.out (k + 1)
      have HJ := Lib.hid (joinW_take (l := l) ha)
      rw [HJ.out] at hm1
      have hi : (k : Int) < (n : Int) := by omega
      clear ha
      by_cases h0 : joinW l (ws.take k) = []
      · have HK0 : Hid (LineAt wr 90 B b []) := Lib.hid (h0 ▸ HK.out)
        have HJ0 : Hid (joinW l (ws.take (k + 1)) = a) := Lib.hid (by rw [HJ.out, h0]; rfl)
        rw [h0] at hm1
        have hl1 : ([] : List UInt8).length + a.length ≤ 140737488355328 := by rw [List.length_nil, Nat.zero_add]; exact Nat.le_trans hm1 hlen
        clear h0 hm1 HJ HK
        go_wp2_with (first
          | (go_at_call 83; (with_reducible refine (len_any 90 B b [] _ HK0.out).mono ?_); rintro e w1 ⟨rfl, rfl⟩)
          | (go_at_call 30; (with_reducible refine (wlist_any 90 btL B b [] a _ HK0.out hl1 hs).mono ?_); rintro e w1 ⟨rfl, h1, h2⟩; have H1 := Lib.hid h1; have H2 := Lib.hid h2; clear h1 h2))
        go_roundw
        case rel => exact ⟨k + 1, by go_num, by omega, Lib.hid (by rw [HJ0.out]; exact H1.out), Lib.hid (HC.out.trans H2.out)⟩
        case measure => simp [intOf]; omega
      · have hpos : 0 < (joinW l (ws.take k)).length := List.length_pos_iff.2 h0
        have HJ1 : Hid (joinW l (ws.take (k + 1)) = joinW l (ws.take k) ++ [32] ++ a) := Lib.hid (by rw [HJ.out]; simp [stepW, h0])
        have hl1 : (joinW l (ws.take k)).length + 1 + a.length ≤ 140737488355328 := by
          have : (stepW (joinW l (ws.take k)) a).length = (joinW l (ws.take k)).length + 1 + a.length := by simp [stepW, h0]; omega
          omega
        clear h0 hm1 HJ
        generalize joinW l (ws.take k) = L at *
        have HL2 : Hid ((L ++ [32]).length + a.length ≤ 140737488355328) := Lib.hid (by rw [List.length_append, List.length_singleton]; exact hl1)
        have HL1 : Hid (L.length + 1 ≤ 140737488355328) := Lib.hid (by omega)
        go_wp2_with (first
          | (go_at_call 83; (with_reducible refine (len_any 90 B b L _ HK.out).mono ?_); rintro e w1 ⟨rfl, rfl⟩)
          | (go_at_call 31; (with_reducible refine (wblank_any 90 btL B b L _ HK.out HL1.out hs).mono ?_); rintro e w1 ⟨rfl, h1, h2⟩; have hs1 : B ≤ w1.heap.size := Nat.le_trans hs (Ch.size h2); have H1 := Lib.hid h1; have H2 := Lib.hid h2; clear h1 h2)
          | (go_at_call 30; (with_reducible refine (wlist_any 90 btL B b (L ++ [32]) a _ H1.out HL2.out hs1).mono ?_); rintro e w2 ⟨rfl, h1, h2⟩; have H3 := Lib.hid h1; have H4 := Lib.hid h2; clear h1 h2))
        go_roundw
        case rel => exact ⟨k + 1, by go_num, by omega, Lib.hid (by rw [HJ1.out]; exact H3.out), Lib.hid ((HC.out.trans H2.out).trans H4.out)⟩
        case measure => simp [intOf]; omega
    · have hi : ¬ (k : Int) < (n : Int) := by omega
      have HF : Hid (joinW l (ws.take k) = joinW l ws) := Lib.hid (by rw [List.take_of_length_le (by rw [← hn.out]; omega)])
      go_wp2
      go_end0
      exact ⟨rfl, HF.out ▸ HK.out, HC.out⟩
end Go.Proofs.YtcmlmfcnbmpajaaGreatDoor.Sw
