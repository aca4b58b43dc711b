/- Arguments opened: rows of texts as the walks want them. -/
import Derived.Test.YtgcphhialllieaaDoorLexBlanksWalk
import Derived.ChangeSlices
import Derived.Deep.Strs
import Derived.ChangeArms
import Derived.Carry
namespace Go.Proofs.YtgcphhialllieaaDoor.Lx
open Go.ChangeShapes Go.WideShapes Go.ChangeAt Go.RowKit Go.Deep
set_option linter.unusedVariables false

theorem laidOut : laidOutB Tryd.prog = true := by kernel_rfl
theorem cellsStr : Tryd.prog.cellsOf 9 = 1 := by kernel_rfl
theorem view_strs {H : Type} {enc : TypeId × Value → H} {W : World} {fuel : Nat} {a0 : Option Addr} {len cap : Nat} {d : DataW H} {p : List MemPlace}
    (hf : DataW.trod enc Tryd.prog W 0 (fun _ => true) true fuel 39 (Value.slice a0 len cap).cells.toList = some (d, p)) :
    ∃ Z : List (List UInt8), Hid (len = Z.length) ∧ len ≤ cap ∧ Rd W (· < W.heap.size) a0 (sc Z) := by
  rcases open_strs Tryd.underlying39 Tryd.underlying9 cellsStr hf with ⟨hcs, hx⟩ | ⟨a, len', cap', m, Sx, hcs, _, hl, hm, hmm, hx, hcell⟩
  · simp [Value.cells] at hcs
    obtain ⟨rfl, rfl, rfl⟩ := hcs
    exact ⟨[], rfl, Nat.le_refl _, Rd.none_⟩
  · simp [Value.cells] at hcs
    obtain ⟨rfl, rfl, rfl⟩ := hcs
    simp only [if_true] at hmm
    refine ⟨(List.range len).map (fun i => (Sx i).data.toList), (by show _ = _; simp), hl, fun hn => ⟨a, rfl, ?_, fun j u hu => ?_⟩⟩
    · have h0 : 0 < len := by rw [sc_length] at hn; simpa using hn
      have := World.block_lt_of_cell? W _ (hcell 0 (by omega)).1
      simpa [block_of_add] using this
    · have hj : j < len := by have := (List.getElem?_eq_some_iff.1 hu).1; rw [sc_length] at this; simpa using this
      rw [(hcell j (by omega)).1, ← hu]
      simp [sc, hj]

theorem blanks_all (s : ByteArray) (A : Option Addr) (n c : Nat) (gs : List (List UInt8)) (hng : Hid (n = gs.length)) (w : World) (hE : Tk.Env w) (hr : Rd w (· < w.heap.size) A (sc gs)) :
    Calls Tryd.prog 6 #[.string s, .slice A n c] w fun e w' => e = .returned (.bool true) ∧ Below w.heap.size w w' := by
  by_cases h : 3000 < s.size ∨ 300 < n
  · exact blanks_long s A n c h w hE
  · have hs : s.size ≤ 3000 := by omega
    have hn : n ≤ 300 := by omega
    cases h1 : lex s.data.toList 1 1 false with
    | bad er l k => exact blanks_bad s A n c hs hn w hE er l k h1
    | ok l =>
      have hg := lex_good _ _ _ _ _ h1
      have z1 := Lib.size_eq s
      have q1 := lex_count _ _ _ _ _ h1
      have q2 := text_len _ _ _ _ _ h1
      have q3 := rend_len gs l false hg 0
      simp only [Bool.false_eq_true, if_false, Nat.add_zero] at q1 q2
      obtain ⟨m, hm, ha⟩ := rend_good gs l false hg 0 1 1
      exact blanks_ok s A n c gs hs hn hng w hE hr l h1 (by omega) (by omega) m hm ha
end Go.Proofs.YtgcphhialllieaaDoor.Lx
