/- The chapter's example, as the laws ask it first: walked. No conditions. -/
import Derived.Test.YtfefnfifeaihhaaGreatExL
import Derived.Test.YtfefnfifeaihhaaGreatExM
set_option linter.unusedVariables false
set_option linter.unusedSimpArgs false
set_option maxHeartbeats 4000000
set_option maxRecDepth 100000
namespace Go.Proofs.YtfefnfifeaihhaaGreat.Wo
open Go.ChangeShapes Go.WideShapes Go.ChangeAt Go.RowKit Go.Maps
open Lx Sh
def exM : WorldM := ⟨30, ⟨[[97], [98], [99]], [], [], [[114]], [[116]], []⟩, [], [], [⟨[0, 1, 2], [5, 3], [2]⟩], [⟨0, 1, 10, 40⟩], []⟩
theorem ex_ok : wrongW exM = okW := by decide +kernel
theorem ex_err : (wrongW exM).err = 0 := by rw [ex_ok]
theorem ex_row : rowW exM 0 = some (⟨0, 1, 10, 40⟩, ⟨[0, 1, 2], [5, 3], [2]⟩) := by decide +kernel
theorem ex_cnt : cntW exM 0 = 2 := by decide +kernel
theorem ex_arr : arrT [5, 3] [2] (Tk.atV 1 10 1) 2 = [11, 16, 21] := by decide +kernel
theorem ex_dep : depT [5, 3] [2] (Tk.atV 1 10 1) 2 = [11, 18, 21] := by decide +kernel
theorem ex_lt : WLt exM := ⟨by decide, by decide, by decide, by decide, by decide, by decide, by decide, by decide, by decide, by decide, by decide, by decide⟩
def ExPost (w : World) (e : Ending) (w' : World) : Prop := ∃ p : WoA, e = .returned (woQ exM p) ∧ Wo w' (· < w'.heap.size) exM p ∧ Below w.heap.size w w'
theorem ex_read {W : World} {n0 : Nat} {v0 v1 v2 v3 v4 v5 v6 v7 v8 v9 v10 v11 : Value} {tmps : Array Value} (h2 : tmps[0]? = some (.pointer (some ⟨n0, 0, none⟩))) (k : Blk W n0 37 [v0, v1, v2, v3, v4, v5, v6, v7, v8, v9, v10, v11]) :
    (results Tryz.f10 tmps).run Tryz.prog W = .ok (.agg #[v0, v1, v2, v3, v4, v5, v6, v7, v8, v9, v10, v11]) W := by
  obtain ⟨z0, z1, z2, z3, z4, z5, z6, z7, z8, z9, z10, z11⟩ := wo_cells k
  simp [results, Tryz.results10, go_sem, h2, z0, z1, z2, z3, z4, z5, z6, z7, z8, z9, z10, z11]
theorem rd0 {w : World} {S : Nat → Prop} {A : Option Addr} : Rd w S A [] := fun h => by simp at h
theorem nine (w : World) (o0 o1 o2 o3 o4 o5 o6 o7 o8 : Obj) : Below w.heap.size w (((((((((w.alloc o0).alloc o1).alloc o2).alloc o3).alloc o4).alloc o5).alloc o6).alloc o7).alloc o8) ∧ (((((((((w.alloc o0).alloc o1).alloc o2).alloc o3).alloc o4).alloc o5).alloc o6).alloc o7).alloc o8).heap[w.heap.size]? = some o0 ∧ (((((((((w.alloc o0).alloc o1).alloc o2).alloc o3).alloc o4).alloc o5).alloc o6).alloc o7).alloc o8).heap[w.heap.size + 1]? = some o1 ∧ (((((((((w.alloc o0).alloc o1).alloc o2).alloc o3).alloc o4).alloc o5).alloc o6).alloc o7).alloc o8).heap[w.heap.size + 1 + 1]? = some o2 ∧ (((((((((w.alloc o0).alloc o1).alloc o2).alloc o3).alloc o4).alloc o5).alloc o6).alloc o7).alloc o8).heap[w.heap.size + 1 + 1 + 1]? = some o3 ∧ (((((((((w.alloc o0).alloc o1).alloc o2).alloc o3).alloc o4).alloc o5).alloc o6).alloc o7).alloc o8).heap[w.heap.size + 1 + 1 + 1 + 1]? = some o4 ∧ (((((((((w.alloc o0).alloc o1).alloc o2).alloc o3).alloc o4).alloc o5).alloc o6).alloc o7).alloc o8).heap[w.heap.size + 1 + 1 + 1 + 1 + 1]? = some o5 ∧ (((((((((w.alloc o0).alloc o1).alloc o2).alloc o3).alloc o4).alloc o5).alloc o6).alloc o7).alloc o8).heap[w.heap.size + 1 + 1 + 1 + 1 + 1 + 1]? = some o6 ∧ (((((((((w.alloc o0).alloc o1).alloc o2).alloc o3).alloc o4).alloc o5).alloc o6).alloc o7).alloc o8).heap[w.heap.size + 1 + 1 + 1 + 1 + 1 + 1 + 1]? = some o7 ∧ (((((((((w.alloc o0).alloc o1).alloc o2).alloc o3).alloc o4).alloc o5).alloc o6).alloc o7).alloc o8).heap[w.heap.size + 1 + 1 + 1 + 1 + 1 + 1 + 1 + 1]? = some o8 := by
  refine ⟨(((((((((Below.refl _ _).alloc (Nat.le_refl _) _).alloc (by simp) _).alloc (by simp; omega) _).alloc (by simp; omega) _).alloc (by simp; omega) _).alloc (by simp; omega) _).alloc (by simp; omega) _).alloc (by simp; omega) _).alloc (by simp; omega) _, ?_⟩
  simp only [World.alloc, Array.getElem?_push, Array.size_push]
  refine ⟨?_, ?_, ?_, ?_, ?_, ?_, ?_, ?_, ?_⟩ <;> (repeat (first | rw [if_pos trivial] | rw [if_pos (by omega)] | rw [if_neg (by omega)]))
theorem example_any (w : World) : Calls Tryz.prog 10 #[] w (ExPost w) := by
  go_enter Tryz.func10, Tryz.ntmps10
  go_wp2
  obtain ⟨hb, b0, b1, b2, b3, b4, b5, b6, b7, b8⟩ := nine w (.cells #[.int .i64 30, .slice (some ⟨w.heap.size + 1, 0, none⟩) 3 3, .slice none 0 0, .slice none 0 0, .slice (some ⟨w.heap.size + 1 + 1, 0, none⟩) 1 1, .slice (some ⟨w.heap.size + 1 + 1 + 1, 0, none⟩) 1 1, .slice none 0 0, .slice none 0 0, .slice none 0 0, .slice (some ⟨w.heap.size + 1 + 1 + 1 + 1 + 1 + 1 + 1, 0, none⟩) 1 1, .slice (some ⟨w.heap.size + 1 + 1 + 1 + 1 + 1 + 1 + 1 + 1, 0, none⟩) 1 1, .slice none 0 0] 37)
    (.cells #[.string ⟨#[97]⟩, .string ⟨#[98]⟩, .string ⟨#[99]⟩] 9) (.cells #[.string ⟨#[114]⟩] 9) (.cells #[.string ⟨#[116]⟩] 9) (.cells #[.int .i64 0, .int .i64 1, .int .i64 2] 3) (.cells #[.int .i64 5, .int .i64 3] 2) (.cells #[.int .i64 2] 2)
    (.cells #[.slice (some ⟨w.heap.size + 1 + 1 + 1 + 1, 0, none⟩) 3 3, .slice (some ⟨w.heap.size + 1 + 1 + 1 + 1 + 1, 0, none⟩) 2 2, .slice (some ⟨w.heap.size + 1 + 1 + 1 + 1 + 1 + 1, 0, none⟩) 1 1] 59) (.cells #[.int .i64 0, .int .i64 1, .int .i64 10, .int .i64 40] 56)
  generalize ((((((((w.alloc _).alloc _).alloc _).alloc _).alloc _).alloc _).alloc _).alloc _).alloc _ = W at *
  have k : ∀ {g : Nat} {t : TypeId} {l : List Value}, W.heap[g]? = some (.cells l.toArray t) → Rd W (· < W.heap.size) (some ⟨g, 0, none⟩) l := fun {g t l} h => (show Blk W g t l from h).rd (S := fun b => b < W.heap.size) (show Blk W g t l from h).lt 0
  exact bodyPost_ret (ex_read rfl b0) rfl ⟨⟨⟨some ⟨w.heap.size + 1, 0, none⟩, none, none, some ⟨w.heap.size + 1 + 1, 0, none⟩, some ⟨w.heap.size + 1 + 1 + 1, 0, none⟩, none, 3, 0, 0, 1, 1, 0⟩, none, none, some ⟨w.heap.size + 1 + 1 + 1 + 1 + 1 + 1 + 1, 0, none⟩, some ⟨w.heap.size + 1 + 1 + 1 + 1 + 1 + 1 + 1 + 1, 0, none⟩, none, 0, 0, 1, 1, 0⟩, rfl, ⟨⟨k b1, rd0, rd0, k b2, k b3, rd0⟩, rd0, rd0, ⟨_, k b7, some ⟨w.heap.size + 1 + 1 + 1 + 1, 0, none⟩, 3, some ⟨w.heap.size + 1 + 1 + 1 + 1 + 1, 0, none⟩, 2, some ⟨w.heap.size + 1 + 1 + 1 + 1 + 1 + 1, 0, none⟩, 1, [], rfl, k b4, k b5, k b6, rfl⟩, k b8, rd0⟩, hb⟩
theorem ex_one (p : WoA) (w : World) (h : Wo w (· < w.heap.size) exM p) : Calls Tryz.prog 9 #[woQ exM p, .int .i64 0, .int .i64 1] w (RunOk w 0 1 3 [11, 16, 21] [11, 18, 21]) := by
  have := one_ok exM p w h ex_lt 0 1 ex_err _ _ ex_row (by omega) (by decide +kernel)
  have e1 := ex_arr
  have e2 := ex_dep
  simp only [List.length_cons, List.length_nil] at this
  rw [e1, e2] at this
  exact this
theorem ex_count (p : WoA) (w : World) (h : Wo w (· < w.heap.size) exM p) : Calls Tryz.prog 21 #[woQ exM p, .int .i64 0] w (fun e w' => e = .returned (.int .i64 2) ∧ Below w.heap.size w w') := by
  have := count_any exM p w h ex_lt 0
  rw [ex_cnt] at this
  exact this
theorem lives_any (w : World) : Calls Tryz.prog 13 #[] w (BPost w true) := by
  have HE := HH (fun w' => example_any w')
  have HO := HH (fun p w' h => ex_one p w' h)
  have HC := HH (fun p w' h => ex_count p w' h)
  have HK : Hid (∀ w' A B C D c d c' d', Rd w' (· < w'.heap.size) A (cs intC [11, 16, 21]) → Rd w' (· < w'.heap.size) B (cs intC [11, 18, 21]) → Rd w' (· < w'.heap.size) C (cs intC [11, 16, 21]) → Rd w' (· < w'.heap.size) D (cs intC [11, 18, 21]) → Calls Tryz.prog 14 #[.agg #[.int .i64 0, .int .i64 1, .slice A 3 c, .slice B 3 d], .agg #[.int .i64 0, .int .i64 1, .slice C 3 c', .slice D 3 d']] w' (BPost w' true)) := HH (fun w' A B C D c d c' d' h1 h2 h3 h4 => krun_any w' 0 1 A B C D 3 3 c d c' d' _ _ (HH rfl) (HH rfl) (by omega) (by omega) h1 h2 h3 h4)
  go_enter Tryz.func13, Tryz.ntmps13
  go_upto_region 2 with (first
    | (go_at_call 10; refine (HE.out _).mono ?_; rintro e w1 ⟨p, rfl, hw1, hb⟩; have HW1 := HH hw1; have HB1 := HH hb; clear hw1 hb)
    | (go_at_call 9; refine (HO.out _ _ HW1.out).mono ?_; rintro e w2 ⟨A, B, c, d, rfl, hA, hB, hb⟩; have HB2 := HH (keep_trans HB1.out hb.out); clear hb))
  have hA3 := HH (rd_later hA.out.old (one_box w2 (.cells #[.int .i64 0, .int .i64 1, .slice A 3 c, .slice B 3 d] 24)))
  have hB3 := HH (rd_later hB.out.old (one_box w2 (.cells #[.int .i64 0, .int .i64 1, .slice A 3 c, .slice B 3 d] 24)))
  have HB3 := HH (keep_trans HB2.out (one_box w2 (.cells #[.int .i64 0, .int .i64 1, .slice A 3 c, .slice B 3 d] 24)))
  have KR := HH (Blk.new w2 24 [.int .i64 0, .int .i64 1, .slice A 3 c, .slice B 3 d])
  generalize w2.alloc (.cells #[.int .i64 0, .int .i64 1, .slice A 3 c, .slice B 3 d] 24) = w3 at *
  go_wp2_with (first
    | (go_at_call 10; refine (HE.out _).mono ?_; rintro e w4 ⟨q, rfl, hw4, hb⟩; have HW4 := HH hw4; have HB4 := HH hb; clear hw4 hb)
    | (go_at_call 21; refine (HC.out _ _ HW4.out).mono ?_; rintro e w5 ⟨rfl, hb⟩; have HB5 := HH (keep_trans HB4.out hb); obtain ⟨y0, y1, y2, y3⟩ : w5.cell? ⟨w2.heap.size, 0, none⟩ = some (.int .i64 0) ∧ w5.cell? ⟨w2.heap.size, 1, none⟩ = some (.int .i64 1) ∧ w5.cell? ⟨w2.heap.size, 2, none⟩ = some (.slice A 3 c) ∧ w5.cell? ⟨w2.heap.size, 3, none⟩ = some (.slice B 3 d) := ⟨(KR.out.after HB5.out).cell 0, (KR.out.after HB5.out).cell 1, (KR.out.after HB5.out).cell 2, (KR.out.after HB5.out).cell 3⟩; have hA5 := HH (rd_later hA3.out HB5.out); have hB5 := HH (rd_later hB3.out HB5.out); clear hb)
    | (go_at_call 14; refine (HK.out _ _ _ _ _ _ _ _ _ (rd_later hA5.out (two_box _ _ _)) (rd_later hB5.out (two_box _ _ _)) (((Blk.new _ _ [.int .i64 11, .int .i64 16, .int .i64 21]).alloc _).rd (S := fun b => b < _) (by simp; omega) 0) ((Blk.new2 _ _ _ [.int .i64 11, .int .i64 18, .int .i64 21]).rd (S := fun b => b < _) (by simp) 0)).mono ?_; rintro e w6 ⟨rfl, hb⟩; have HB6 := HH (keep_trans (two_box _ _ _) hb); clear hb))
  go_ret
  exact ⟨rfl, keep_trans HB3.out (keep_trans HB5.out HB6.out)⟩
end Go.Proofs.YtfefnfifeaihhaaGreat.Wo
