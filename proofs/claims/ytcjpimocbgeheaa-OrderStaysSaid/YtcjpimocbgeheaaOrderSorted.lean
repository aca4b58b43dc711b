/- order.Sorted tells the sorted row in new memory, what is the same as it stood. Conditions: the row holds fewer than a million keys. -/
import Derived.Test.YtcjpimocbgeheaaOrderCopy
namespace Go.Proofs.Ytcjpimocbgeheaa.Od
open Go.ChangeShapes Go.WideShapes Go.ChangeAt Go.RowKit
set_option linter.unusedVariables false

def SortRel (w : World) (n : Nat) (xs : List Key) (v3 v4 v5 : Value) (wr : World) : Prop :=
  ∃ (g q s : Nat) (l : List Value), v3 = .slice (some ⟨q, 0, none⟩) n n ∧ v4 = .slice (some ⟨g, 0, none⟩) n n ∧ v5 = .int .i64 s ∧ 0 < s ∧ s ≤ 2 * n + 1 ∧ q ≠ g ∧ w.heap.size ≤ g ∧ w.heap.size ≤ q ∧
    Blk wr q 25 (kc (chK s xs)) ∧ Blk wr g 25 l ∧ l.length = n * 2 ∧ Below w.heap.size w wr

theorem sort_next {w wr w1 : World} {n g q s : Nat} {xs : List Key} (hn : xs.length = n) (hs : 0 < s) (hsn : s < n) (hne : q ≠ g) (hg : w.heap.size ≤ g) (hq : w.heap.size ≤ q)
    (hb : Below w.heap.size w wr) (h1 : Blk w1 g 25 (kc (psK s (chK s xs)))) (h2 : Blk w1 q 25 (kc (chK s xs))) (h3 : wr.grownBy w1 (some g)) :
    SortRel w n xs (.slice (some ⟨g, 0, none⟩) n n) (.slice (some ⟨q, 0, none⟩) n n) (.int .i64 ((s : Int) * 2)) w1 := by
  refine ⟨q, g, 2 * s, kc (chK s xs), rfl, rfl, by simp; omega, by omega, by omega, fun e => hne e.symm, hq, hg, ?_, h2, ?_, below_grown hb h3 hb.size hg⟩
  · rw [← psK_chK hs]; exact h1
  · rw [kc_length, chK_length hs, hn]

theorem blk_first (w : World) (l : List Value) : Blk ((w.alloc (.cells l.toArray 25)).alloc (.cells l.toArray 25)).drew w.heap.size 25 l :=
  (Blk.new w 25 l).alloc _
theorem blk_second (w : World) (l : List Value) : Blk ((w.alloc (.cells l.toArray 25)).alloc (.cells l.toArray 25)).drew (w.heap.size + 1) 25 l := by
  have h := Blk.new (w.alloc (.cells l.toArray 25)) 25 l
  have e : (w.alloc (.cells l.toArray 25)).heap.size = w.heap.size + 1 := by simp
  rw [e] at h
  exact h
theorem below_two (w : World) (l : List Value) : Below w.heap.size w ((w.alloc (.cells l.toArray 25)).alloc (.cells l.toArray 25)).drew :=
  (((Below.refl _ _).alloc (Nat.le_refl _) _).alloc (by simp) _).drew
theorem sort_start {w w1 : World} {n g q : Nat} {l : List Value} {xs : List Key} (hl : l.length = n * 2) (hq : q = w.heap.size ∧ g = w.heap.size + 1 ∨ q = w.heap.size + 1 ∧ g = w.heap.size)
    (hb : Blk w1 q 25 (kc xs)) (hg : ((w.alloc (.cells l.toArray 25)).alloc (.cells l.toArray 25)).drew.grownBy w1 (some q)) :
    SortRel w n xs (.slice (some ⟨q, 0, none⟩) n n) (.slice (some ⟨g, 0, none⟩) n n) (.int .i64 1) w1 := by
  refine ⟨g, q, 1, l, rfl, rfl, rfl, by omega, by omega, by omega, by omega, by omega, by rw [chK_one]; exact hb, ?_, hl, below_grown (below_two w l) hg ?_ ?_⟩
  · rcases hq with ⟨rfl, rfl⟩ | ⟨rfl, rfl⟩
    · exact (blk_second w l).grown hg (fun e => by injection e with e; omega)
    · exact (blk_first w l).grown hg (fun e => by injection e with e; omega)
  · simp; omega
  · omega

set_option maxHeartbeats 2000000 in
theorem sorted_any (w : World) (A : Option Addr) (n c : Nat) (xs : List Key) (hn : Hid (n = xs.length)) (hN : n ≤ 1000000) (hx : Rd w (· < w.heap.size) A (kc xs)) (hc : n ≤ c) :
    Calls Try.prog 19 #[.slice A n c] w (KeysNew w (srt xs)) := by
  obtain ⟨l, hl, hmk⟩ := mk_keys n hN
  have HL := Lib.hid hl
  have HX : ∀ w' : World, Hid (Below w.heap.size w w') → Rd w' (fun b => b < w.heap.size) A (kc xs) := fun w' h => hx.below h.out
  have HX := Lib.hid HX
  have hcs : Hid ((kc xs).length = n * 2) := by show _ = _; rw [kc_length, hn.out]
  clear hl hx
  go_enter Try.func19, Try.ntmps19
  go_wp2
  go_region
  all_goals
    go_wp2_with (with_reducible refine wpList_copy_whole rfl (.tmp 12) (.tmp 13) 26 26 rfl 25 2 Try.underlying26 rfl _ n n c A rfl rfl 25 l (kc xs) _ ?_ HL.out hcs.out (HX.out _ ?_) (kc_one xs) (by omega) ?_)
    · first | exact blk_first w l | exact blk_second w l
    · exact below_two w l
    · intro w1 HB HG
      have HS : Hid (∀ q g, (q = w.heap.size ∧ g = w.heap.size + 1 ∨ q = w.heap.size + 1 ∧ g = w.heap.size) → Blk w1 q 25 (kc xs) → ((w.alloc (.cells l.toArray 25)).alloc (.cells l.toArray 25)).drew.grownBy w1 (some q) → SortRel w n xs (.slice (some ⟨q, 0, none⟩) n n) (.slice (some ⟨g, 0, none⟩) n n) (.int .i64 1) w1) :=
        fun q g h hb hg => sort_start HL.out h hb hg
      go_wp2
      go_loopw [3, 4, 5] (fun v3 v4 v5 wr => SortRel w n xs v3 v4 v5 wr) (fun _ _ v _ => 2 * n + 1 - (intOf v).toNat)
      case atStart => first | exact HS.out _ _ (.inl ⟨rfl, rfl⟩) HB.out HG.out | exact HS.out _ _ (.inr ⟨rfl, rfl⟩) HB.out HG.out
      case round =>
        obtain ⟨g, q, s, l', rfl, rfl, rfl, hs, hsn, hne, hg, hq, hbq, hbg, hl', hbel⟩ := hrel
        clear HB HG HS
        by_cases hlt : s < n
        · have HC := Lib.hid (pass_any wr g q n s l' (chK s xs) hs (by omega) hN hne hl' (by rw [chK_length hs, hn.out]) hbg hbq)
          have HN := Lib.hid (fun w1 => sort_next (w := w) (wr := wr) (w1 := w1) (n := n) (xs := xs) hn.out.symm hs hlt hne hg hq hbel)
          clear hbq hbg hl' hbel
          go_wp2_with (go_at_call 36; refine HC.out.mono ?_; rintro e w2 ⟨rfl, h1, h2, h3⟩; have HR := Lib.hid (HN.out w2 h1 h2 h3); clear h1 h2 h3)
          go_roundw
          case rel => exact HR.out
          case measure => simp [intOf]; omega
        · have HB := Lib.hid (show Blk wr q 25 (kc (srt xs)) from by rw [← chK_all hs (by rw [← hn.out]; omega)]; exact hbq)
          have HE := Lib.hid hbel
          clear hbq hbg hl' hbel
          go_wp2
          go_ret
          exact ⟨_, _, _, rfl, by show _ = _; rw [srt_length, hn.out], Nat.le_refl _, HB.out.rd0 hq, HE.out⟩
end Go.Proofs.Ytcjpimocbgeheaa.Od
