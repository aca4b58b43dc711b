/- A sheet's lines behind another one's: what the text is read as. Conditions: both sheets may be, and are light. -/
import Derived.Test.YteonmabfhilcfaaGreatDoorSheetLessMath
namespace Go.Proofs.YteonmabfhilcfaaGreatDoor.Sh
open Go.ChangeShapes Go.WideShapes Go.ChangeAt Go.RowKit
open Lx
set_option linter.unusedVariables false
set_option linter.unusedSimpArgs false
def joinM (x y : SheetM) : SheetM := ⟨x.horizon, x.stops ++ y.stops, x.paths ++ y.paths, x.doors ++ y.doors, x.routes ++ y.routes, x.trips ++ y.trips, x.hazards ++ y.hazards⟩
theorem join_fold (x y : SheetM) : (itemsOf x ++ itemsOf y).foldl addI (startM x.horizon) = joinM x y := by
  obtain ⟨f1, f2, f3, f4, f5, f6⟩ := items_fm x
  obtain ⟨g1, g2, g3, g4, g5, g6⟩ := items_fm y
  rw [fold_eq]
  simp only [startM, List.nil_append, List.filterMap_append, f1, f2, f3, f4, f5, f6, g1, g2, g3, g4, g5, g6, joinM]
theorem join_few {x y : SheetM} (hx : lightM x = true) (hy : lightM y = true) : FewI (joinM x y) := by
  have a := lt_of hx
  have b := lt_of hy
  have := a.l1; have := a.l2; have := a.l3; have := a.l4; have := a.l5; have := a.l6
  have := b.l1; have := b.l2; have := b.l3; have := b.l4; have := b.l5; have := b.l6
  constructor <;> simp only [joinM, List.length_append] <;> omega
theorem join_lines (x y : SheetM) : linesT x ++ (linesT y).drop 1 = (sheetL x.horizon (itemsOf x ++ itemsOf y)).map lineB := by
  simp [linesT, sheetL]
theorem join_parse {x y : SheetM} (hx : May x) (hy : May y) (lx : lightM x = true) (ly : lightM y = true) {s : ByteArray} (hs : s.data.toList = endsOf (linesT x ++ (linesT y).drop 1)) (hz : s.size ≤ 65536) : parseT s = .ok (joinM x y) [] := by
  have h := parse_items (l := itemsOf x ++ itemsOf y) hx.h (fun i hi => by rcases List.mem_append.1 hi with h | h; exact items_ok hx i h; exact items_ok hy i h) (by rw [join_fold]; exact join_few lx ly) (s := s) (.inl (by rw [hs, join_lines]; exact ends_join _)) hz
  rwa [join_fold] at h
theorem join_more {L M : List (List UInt8)} {i : Nat} {a : List UInt8} (hi : 1 ≤ i) (h : M[i]? = some a) : endsOf (L ++ (M.take (i + 1)).drop 1) = endsOf (L ++ (M.take i).drop 1) ++ (a ++ [10]) := by
  have hl : i < M.length := (List.getElem?_eq_some_iff.1 h).1
  have e : M.take (i + 1) = M.take i ++ [a] := by rw [List.take_add_one, h]; rfl
  rw [e, List.drop_append_of_le_length (by rw [List.length_take]; omega), ← List.append_assoc]
  simp [endsOf]
theorem join_len {x y : SheetM} (hx : lightM x = true) (hy : lightM y = true) (mx : May x) (my : May y) (i : Nat) : (endsOf (linesT x ++ ((linesT y).take i).drop 1)).length ≤ 5000 * 800 := by
  have a := lt_of hx
  have b := lt_of hy
  have := a.l1; have := a.l2; have := a.l3; have := a.l4; have := a.l5; have := a.l6
  have := b.l1; have := b.l2; have := b.l3; have := b.l4; have := b.l5; have := b.l6
  have h1 := ends_any (M := linesT x ++ ((linesT y).take i).drop 1) (fun l hl => by
    rcases List.mem_append.1 hl with h | h
    · exact lines_short mx l h
    · exact lines_short my l (List.mem_of_mem_take (List.mem_of_mem_drop h)))
  have h2 : (linesT x ++ ((linesT y).take i).drop 1).length ≤ 800 := by
    rw [List.length_append, lines_len, List.length_drop, List.length_take, lines_len]
    omega
  omega
end Go.Proofs.YteonmabfhilcfaaGreatDoor.Sh
