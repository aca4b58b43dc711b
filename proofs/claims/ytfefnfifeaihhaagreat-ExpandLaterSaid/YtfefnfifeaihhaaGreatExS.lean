/- The law ExpandLater, walked. No conditions but that the run lies in memory. -/
import Derived.Test.YtfefnfifeaihhaaGreatExQ
import Derived.Test.YtfefnfifeaihhaaGreatExN
set_option linter.unusedVariables false
set_option linter.unusedSimpArgs false
set_option maxHeartbeats 4000000
set_option maxRecDepth 100000
namespace Go.Proofs.YtfefnfifeaihhaaGreat.Wo
open Go.ChangeShapes Go.WideShapes Go.ChangeAt Go.RowKit Go.Maps
open Lx Sh
theorem exlater_early (w : World) (tr no : Int) (A B : Option Addr) (n m c d : Nat) (f a b : Int) (h : 100 < n ∨ 100 < m ∨ a < 0 ∨ b < 0 ∨ 1099511627776 < a ∨ 1099511627776 < b) :
    Calls Tryz.prog 6 #[.agg #[.int .i64 tr, .int .i64 no, .slice A n c, .slice B m d], .int .i64 f, .int .i64 a, .int .i64 b] w (BPost w true) := by
  have key : ∀ P : Prop, (100 < n → P) → (¬ 100 < n → 100 < m → P) → (¬ 100 < n → ¬ 100 < m → a < 0 → P) → (¬ 100 < n → ¬ 100 < m → ¬ a < 0 → b < 0 → P) → (¬ 100 < n → ¬ 100 < m → ¬ a < 0 → ¬ b < 0 → 1099511627776 < a → P) → (¬ 100 < n → ¬ 100 < m → ¬ a < 0 → ¬ b < 0 → ¬ 1099511627776 < a → 1099511627776 < b → P) → P := fun P h1 h2 h3 h4 h5 h6 => by
    by_cases g1 : 100 < n
    · exact h1 g1
    by_cases g2 : 100 < m
    · exact h2 g1 g2
    by_cases g3 : a < 0
    · exact h3 g1 g2 g3
    by_cases g4 : b < 0
    · exact h4 g1 g2 g3 g4
    by_cases g5 : 1099511627776 < a
    · exact h5 g1 g2 g3 g4 g5
    exact h6 g1 g2 g3 g4 g5 (by omega)
  clear h
  apply key <;> clear key <;> intros
  all_goals
    go_enter Tryz.func6, Tryz.ntmps6
    go_wp2_with (go_at_call 13; refine (lives_any _).mono ?_; rintro e w1 ⟨rfl, hb⟩; have HB1 := HH (keep_trans (one_box _ _) hb); have KR := HH ((Blk.new w 24 [.int .i64 tr, .int .i64 no, .slice A n c, .slice B m d]).after hb); have b0 : w1.cell? ⟨w.heap.size, 0, none⟩ = some (.int .i64 tr) := KR.out.cell 0; have b1 : w1.cell? ⟨w.heap.size, 1, none⟩ = some (.int .i64 no) := KR.out.cell 1; have b2 : w1.cell? ⟨w.heap.size, 2, none⟩ = some (.slice A n c) := KR.out.cell 2; have b3 : w1.cell? ⟨w.heap.size, 3, none⟩ = some (.slice B m d) := KR.out.cell 3; clear hb)
    go_ret
    exact ⟨rfl, HB1.out⟩
theorem exlater_no (w : World) (tr no : Int) (A B : Option Addr) (n m c d : Nat) (la ld : List Int) (f a b : Int) (hn : Hid (n = la.length)) (hm : Hid (m = ld.length)) (hN : n ≤ 100) (hM : m ≤ 100) (hx : Rd w (· < w.heap.size) A (cs intC la)) (hy : Rd w (· < w.heap.size) B (cs intC ld)) (ha0 : 0 ≤ a) (ha1 : a ≤ 1099511627776) (hb0 : 0 ≤ b) (hb1 : b ≤ 1099511627776) (he : latE la ld f a ≠ 0) :
    Calls Tryz.prog 6 #[.agg #[.int .i64 tr, .int .i64 no, .slice A n c, .slice B m d], .int .i64 f, .int .i64 a, .int .i64 b] w (BPost w true) := by
  have HL : Hid (∀ w', Below w.heap.size w w' → Calls Tryz.prog 12 #[.agg #[.int .i64 tr, .int .i64 no, .slice A n c, .slice B m d], .int .i64 f, .int .i64 a] w' (RunAny w' 0 0 0 [] [] (latE la ld f a))) := HH (fun w' hb => by have := later_any w' tr no A B n m c d la ld f a hn hm (by omega) (by omega) (rd_later hx hb) (rd_later hy hb); rw [lat_no he] at this; exact this)
  have HK : Hid (∀ w' A B c d, Calls Tryz.prog 14 #[.agg #[.int .i64 0, .int .i64 0, .slice A 0 c, .slice B 0 d], .agg #[.int .i64 0, .int .i64 0, .slice none 0 0, .slice none 0 0]] w' (BPost w' true)) := HH (fun w' A B c d => krun_any w' 0 0 A B none none 0 0 c d 0 0 [] [] (HH rfl) (HH rfl) (by omega) (by omega) rd0 rd0 rd0 rd0)
  clear hx hy hn hm
  have hne : (latE la ld f a != 0) = true := bne_iff_ne.2 he
  clear he
  generalize latE la ld f a = er at *
  go_enter Tryz.func6, Tryz.ntmps6
  go_wp2_with (first
    | (go_at_call 13; refine (lives_any _).mono ?_; rintro e w1 ⟨rfl, hb⟩; have HB1 := HH (keep_trans (one_box _ _) hb); have KR := HH ((Blk.new w 24 [.int .i64 tr, .int .i64 no, .slice A n c, .slice B m d]).after hb); have b0 : w1.cell? ⟨w.heap.size, 0, none⟩ = some (.int .i64 tr) := KR.out.cell 0; have b1 : w1.cell? ⟨w.heap.size, 1, none⟩ = some (.int .i64 no) := KR.out.cell 1; have b2 : w1.cell? ⟨w.heap.size, 2, none⟩ = some (.slice A n c) := KR.out.cell 2; have b3 : w1.cell? ⟨w.heap.size, 3, none⟩ = some (.slice B m d) := KR.out.cell 3; clear hb)
    | (go_at_call 12; (with_reducible refine (HL.out _ HB1.out).mono ?_); rintro e w2 ⟨XA, XB, xc, xd, rfl, -, -, hb⟩; have HB2 := HH (keep_trans HB1.out hb.out); clear hb)
    | (go_at_call 14; refine (HK.out _ _ _ _ _).mono ?_; rintro e w3 ⟨rfl, hb⟩; have HB3 := HH (keep_trans (one_box _ _) hb); clear hb))
  go_ret
  exact ⟨rfl, keep_trans HB2.out HB3.out⟩
end Go.Proofs.YtfefnfifeaihhaaGreat.Wo
