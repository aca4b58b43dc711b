/- The chapter's examples come out as it tells: walked. No conditions. -/
import Derived.Test.YtgdanbfglefiiaaGreatWoGf
import Derived.Test.YtgdanbfglefiiaaGreatWoLives
import Derived.Test.YtgdanbfglefiiaaGreatWoGs
import Derived.ChangeSlices
import Derived.Deep.Strs
import Derived.Deep.SlicePairs
import Derived.ChangeArms
import Derived.Carry
import Derived.Deep.RegionHeld3
import Derived.Deep.RegionHeldLaw
import Derived.Deep.CutRange
import Derived.StillTailTactics
import Derived.WalkSpells
import Derived.Lib.QuietBelow
import Derived.Deep.QuietTactic
namespace Go.Proofs.YtgdanbfglefiiaaGreat.Wo
open Go.ChangeShapes Go.WideShapes Go.ChangeAt Go.RowKit Go.Maps
open Lx Sh It
set_option linter.unusedVariables false
set_option linter.unusedSimpArgs false
def badM : WorldM := { numX smallM with paths := [⟨0, 2, 3⟩] }
def dM1 : SheetM := { smallM with doors := [⟨[112], [97], [98], 1, ⟨0, 0, 1⟩⟩] }
def dM2 : SheetM := { smallM with horizon := 300, doors := [⟨[113], [97], [98], 1, ⟨0, 1, 1⟩⟩] }
theorem bad_w : wrongW badM = ⟨2, 0, 0⟩ := by decide +kernel
theorem dM1_w : wrongX dM1 = ⟨6, 3, 0⟩ := by decide +kernel
theorem dM2_w : wrongX dM2 = ⟨3, 3, 0⟩ := by decide +kernel
theorem sm_h : findW (namesX smallM) [104] = (6, 0) := by decide +kernel
theorem sm_q : findW (namesX smallM) [113] = (0, 0) := by decide +kernel
theorem sm_num : numX smallM = ⟨40, ⟨[[97], [98]], [[112]], [], [], [], [[104]]⟩, [⟨0, 1, 3⟩], [], [], [], [⟨false, 0, ⟨1, 0, 2⟩⟩]⟩ := by decide +kernel
theorem bad_lt : WLt badM := by
  have e : badM = ⟨40, ⟨[[97], [98]], [[112]], [], [], [], [[104]]⟩, [⟨0, 2, 3⟩], [], [], [], [⟨false, 0, ⟨1, 0, 2⟩⟩]⟩ := by unfold badM; rw [sm_num]
  rw [e]
  exact ⟨by simp, by simp, by simp, by simp, by simp, by simp, by simp, by simp, by simp, by simp, by simp, fun r hr => by simp at hr⟩
theorem rd_keepne {w : World} {S : Nat → Prop} {A : Option Addr} {xs : List Value} {p : Addr} {v v' : Value} (h : Rd w S A xs) (hc : w.cell? p = some v) (hne : ∀ u ∈ xs, u ≠ v) : Rd (w.setCell p v') S A xs := fun hn => by
  obtain ⟨bd, e, hS, hx⟩ := h hn
  refine ⟨bd, e, hS, fun j u hu => ?_⟩
  rw [World.cell?_setCell_other]
  · exact hx j u hu
  · intro e2
    have h1 := hx j u hu
    rw [← e2, hc] at h1
    injection h1 with h1
    exact hne u (List.mem_of_getElem? hu) h1.symm
theorem strs_ne {l : List Nm} {n : Int} : ∀ u ∈ cs strC l, u ≠ (.int .i64 n) := by
  intro u hu
  simp only [cs, List.mem_flatMap, strC, List.mem_singleton] at hu
  obtain ⟨a, -, rfl⟩ := hu
  intro h
  cases h
/-- a world's first path leads elsewhere -/
theorem wo_mod {w : World} {S : Nat → Prop} {q : WoA} {ad : Addr} (h : Wo w S (numX smallM) q) (hb : q.b2 = some ad) : Wo (w.setCell ⟨ad.block, ad.off + 1, none⟩ (.int .i64 2)) S badM q := by
  have e : badM = ⟨40, ⟨[[97], [98]], [[112]], [], [], [], [[104]]⟩, [⟨0, 2, 3⟩], [], [], [], [⟨false, 0, ⟨1, 0, 2⟩⟩]⟩ := by unfold badM; rw [sm_num]
  rw [e]
  rw [sm_num] at h
  obtain ⟨⟨r1, r2, r3, r4, r5, r6⟩, s2, s3, ⟨c, s4, s4'⟩, s5, s6⟩ := h
  obtain ⟨ad', e1, hS, hc⟩ := s2 (by simp [cs, poC])
  rw [hb] at e1
  injection e1 with e1
  subst e1
  have c0 : w.cell? (ad.add 0) = some (.int .i64 0) := hc 0 _ rfl
  have c1 : w.cell? ⟨ad.block, ad.off + 1, none⟩ = some (.int .i64 1) := hc 1 _ rfl
  have c2 : w.cell? (ad.add 2) = some (.int .i64 3) := hc 2 _ rfl
  refine ⟨⟨rd_keepne r1 c1 strs_ne, rd_keepne r2 c1 strs_ne, fun hn => by simp [cs] at hn, fun hn => by simp [cs] at hn, fun hn => by simp [cs] at hn, rd_keepne r6 c1 strs_ne⟩, ?_, fun hn => by simp [cs] at hn, ⟨[], fun hn => by simp at hn, rfl⟩, fun hn => by simp [cs] at hn, ?_⟩
  · intro hn
    refine ⟨ad, hb, hS, fun j u hu => ?_⟩
    match j, hu with
    | 0, hu =>
      rw [World.cell?_setCell_other _ _ _ _ (by intro e2; rw [← e2, c1] at c0; injection c0 with c0; injection c0 with _ c0; omega), c0]
      simpa [cs, poC] using hu
    | 1, hu =>
      have e3 : ad.add 1 = ⟨ad.block, ad.off + 1, none⟩ := rfl
      rw [e3, World.cell?_setCell_same _ _ _ c1]
      simpa [cs, poC] using hu
    | 2, hu =>
      rw [World.cell?_setCell_other _ _ _ _ (by intro e2; rw [← e2, c1] at c2; injection c2 with c2; injection c2 with _ c2; omega), c2]
      simpa [cs, poC] using hu
    | j + 3, hu => simp [cs, poC] at hu
  · intro hn
    obtain ⟨bd, e2, hT, hd⟩ := s6 (by simp [cs, hoC])
    refine ⟨bd, e2, hT, fun j u hu => ?_⟩
    rw [World.cell?_setCell_other]
    · exact hd j u hu
    · intro e3
      have h1 := hd j u hu
      rw [← e3, c1] at h1
      have hj : j = 2 := by
        have hcs : cs hoC [(⟨false, 0, ⟨1, 0, 2⟩⟩ : HazO)] = [.bool false, .int .i64 0, .int .i64 1, .int .i64 0, .int .i64 2] := rfl
        rw [hcs] at hu
        injection h1 with h1
        subst h1
        rcases j with _ | _ | _ | _ | _ | j <;> simp at hu <;> rfl
      have h3 := hd 3 (.int .i64 0) rfl
      have e4 : bd.add 3 = ad.add 2 := by
        subst hj
        simp [Addr.add] at e3 ⊢
        exact ⟨e3.1.symm, by omega⟩
      rw [e4, c2] at h3
      injection h3 with h3
      injection h3 with _ h3
      omega
end Go.Proofs.YtgdanbfglefiiaaGreat.Wo
