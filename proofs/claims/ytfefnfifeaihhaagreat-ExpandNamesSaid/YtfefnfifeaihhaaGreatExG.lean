/- How many of a trip's runs are there: package expand's makers, proved by walking their texts. Conditions: the route's numbers are ticks, and few. -/
import Derived.Test.YtfefnfifeaihhaaGreatExF
set_option linter.unusedVariables false
set_option linter.unusedSimpArgs false
set_option maxHeartbeats 4000000
set_option maxRecDepth 100000
namespace Go.Proofs.YtfefnfifeaihhaaGreat.Wo
open Go.ChangeShapes Go.WideShapes Go.ChangeAt Go.RowKit Go.Maps
open Lx Sh
/-! ### how many runs -/
theorem is_yes (t : Int) (w : World) (h0 : 0 ≤ t) (h1 : t ≤ 1099511627776) : Calls Tryz.prog 89 #[.int .i64 t] w fun e w' => e = .returned (.bool true) ∧ w = w' := by
  have hne : (t == 4611686018427387904) = false := by simp; omega
  go_enter Tryz.func89, Tryz.ntmps89
  go_wp2
  go_ret
  exact ⟨rfl, rfl⟩
theorem is_no (t : Int) (w : World) (h0 : 1099511627776 < t) (h1 : t < 4611686018427387904) : Calls Tryz.prog 89 #[.int .i64 t] w fun e w' => e = .returned (.bool false) ∧ w = w' := by
  have hne : (t == 4611686018427387904) = false := by simp; omega
  go_enter Tryz.func89, Tryz.ntmps89
  go_wp2
  go_ret
  exact ⟨rfl, rfl⟩
def SubPost (w : World) (v x : Int) (e : Ending) (w' : World) : Prop := e = .returned (.tuple #[.int .i64 v, .int .i64 x]) ∧ Below w.heap.size w w'
theorem sub_any (h l : Int) (w : World) (h0 : 0 ≤ h) (h1 : h ≤ 1099511627776) (l0 : 0 ≤ l) (l1 : l < 4611686018427387904) :
    Calls Tryz.prog 68 #[.int .i64 h, .int .i64 l] w (SubPost w (if l ≤ h then h - l else 0) (if l ≤ h then 0 else 9)) := by
  have hneh : (h == 4611686018427387904) = false := by simp; omega
  have hnel : (l == 4611686018427387904) = false := by simp; omega
  by_cases hl : l ≤ h
  · rw [if_pos hl, if_pos hl]
    have l2 : l ≤ 1099511627776 := by omega
    go_enter Tryz.func68, Tryz.ntmps68
    go_wp2_with (first | (go_at_call 89; (with_reducible refine (is_yes _ _ ?_ ?_).mono ?_); assumption; assumption; rintro e w' ⟨rfl, rfl⟩) | go_in)
    go_ret2
    exact ⟨rfl, one_box _ _⟩
  · rw [if_neg hl, if_neg hl]
    by_cases l2 : l ≤ 1099511627776
    · go_enter Tryz.func68, Tryz.ntmps68
      go_wp2_with (first | (go_at_call 89; (with_reducible refine (is_yes _ _ ?_ ?_).mono ?_); assumption; assumption; rintro e w' ⟨rfl, rfl⟩) | go_in)
      go_ret2
      exact ⟨rfl, by go_grown⟩
    · have l3 : 1099511627776 < l := by omega
      go_enter Tryz.func68, Tryz.ntmps68
      go_wp2_with (first | (go_at_call 89; (with_reducible refine (is_yes _ _ ?_ ?_).mono ?_); assumption; assumption; rintro e w' ⟨rfl, rfl⟩) | (go_at_call 89; (with_reducible refine (is_no _ _ ?_ ?_).mono ?_); assumption; assumption; rintro e w' ⟨rfl, rfl⟩))
      go_ret2
      exact ⟨rfl, one_box _ _⟩
def cntR (f s u l h : Int) : Int := if l ≤ h then Tk.countV f s (if u ≤ h - l then u else h - l) else 0
theorem excount_any (r f s u l h : Int) (w : World) (h0 : 0 ≤ h) (h1 : h ≤ 1099511627776) (l0 : 0 ≤ l) (l1 : l < 4611686018427387904) :
    Calls Tryz.prog 55 #[.agg #[.int .i64 r, .int .i64 f, .int .i64 s, .int .i64 u], .int .i64 l, .int .i64 h] w (fun e w' => e = .returned (.int .i64 (cntR f s u l h)) ∧ Below w.heap.size w w') := by
  have HS := HH (fun w' => sub_any h l w' h0 h1 l0 l1)
  unfold cntR
  by_cases hl : l ≤ h
  · rw [if_pos hl]
    rw [if_pos hl, if_pos hl] at HS
    have HC := HH (fun (q : Int) w' => Tk.count_any f s q w')
    by_cases hu : u ≤ h - l
    · rw [if_pos hu]
      go_enter Tryz.func55, Tryz.ntmps55
      go_wp2_with (first
        | (go_at_call 68; (with_reducible refine (HS.out _).mono ?_); rintro e w1 ⟨rfl, hb⟩; have HB1 := HH (keep_trans (one_box _ _) hb); have HK := ((Blk.new w 56 [.int .i64 r, .int .i64 f, .int .i64 s, .int .i64 u]).after hb); have k1 : w1.cell? ⟨w.heap.size, 1, none⟩ = some (.int .i64 f) := HK.cell 1; have k2 : w1.cell? ⟨w.heap.size, 2, none⟩ = some (.int .i64 s) := HK.cell 2; have k3 : w1.cell? ⟨w.heap.size, 3, none⟩ = some (.int .i64 u) := HK.cell 3; clear HK hb)
        | (go_at_call 69; (with_reducible refine (HC.out u _).mono ?_); rintro e w2 ⟨rfl, rfl⟩))
      go_ret
      exact ⟨rfl, HB1.out⟩
    · rw [if_neg hu]
      have hu2 : h - l < u := by omega
      go_enter Tryz.func55, Tryz.ntmps55
      go_wp2_with (first
        | (go_at_call 68; (with_reducible refine (HS.out _).mono ?_); rintro e w1 ⟨rfl, hb⟩; have HB1 := HH (keep_trans (one_box _ _) hb); have HK := ((Blk.new w 56 [.int .i64 r, .int .i64 f, .int .i64 s, .int .i64 u]).after hb); have k1 : w1.cell? ⟨w.heap.size, 1, none⟩ = some (.int .i64 f) := HK.cell 1; have k2 : w1.cell? ⟨w.heap.size, 2, none⟩ = some (.int .i64 s) := HK.cell 2; have k3 : w1.cell? ⟨w.heap.size, 3, none⟩ = some (.int .i64 u) := HK.cell 3; clear HK hb)
        | (go_at_call 69; (with_reducible refine (HC.out (h - l) _).mono ?_); rintro e w2 ⟨rfl, rfl⟩))
      go_ret
      exact ⟨rfl, HB1.out⟩
  · rw [if_neg hl]
    rw [if_neg hl, if_neg hl] at HS
    go_enter Tryz.func55, Tryz.ntmps55
    go_wp2_with (go_at_call 68; (with_reducible refine (HS.out _).mono ?_); rintro e w1 ⟨rfl, hb⟩; have HB1 := HH (keep_trans (one_box _ _) hb); clear hb)
    go_ret
    exact ⟨rfl, HB1.out⟩
end Go.Proofs.YtfefnfifeaihhaaGreat.Wo
