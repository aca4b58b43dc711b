/- Package expand: all runs, in order, as they lie. No conditions. -/
import Derived.Test.YtfefnfifeaihhaaGreatExZ
import Derived.WalkKit
import Derived.TacticsInMore
import Derived.LoopNIn
import Derived.LoopIn
import Derived.Shelf.RegionOpen
set_option linter.unusedVariables false
set_option linter.unusedSimpArgs false
set_option maxHeartbeats 4000000
set_option maxRecDepth 100000
namespace Go.Proofs.YtfefnfifeaihhaaGreat.Wo
open Go.ChangeShapes Go.WideShapes Go.ChangeAt Go.RowKit Go.Maps Go.Shelf
open Lx Sh
/-! ### all runs, in order -/
def runsT (x : WorldM) (i : Nat) : List RunM := match rowW x i with
  | none => []
  | some (t, r) => (List.range (cntT x.horizon r t).toNat).map fun (no : Nat) => ⟨(i : Int), (no : Int), arrT r.rides r.stays (Tk.atV t.frm t.every no) r.rides.length, depT r.rides r.stays (Tk.atV t.frm t.every no) r.rides.length⟩
def runsTo (x : WorldM) (k : Nat) : List RunM := (List.range k).flatMap (runsT x)
theorem runsTo_succ (x : WorldM) (k : Nat) : runsTo x (k + 1) = runsTo x k ++ runsT x k := by unfold runsTo; rw [List.range_succ, List.flatMap_append]; simp
theorem runsTo_mono (x : WorldM) (k : Nat) : ∀ n, k ≤ n → (runsTo x k).length ≤ (runsTo x n).length
  | 0, h => by obtain rfl : k = 0 := by omega
               exact Nat.le_refl _
  | n + 1, h => by
    by_cases e : k = n + 1
    · subst e; exact Nat.le_refl _
    · have := runsTo_mono x k n (by omega)
      rw [runsTo_succ, List.length_append]; omega
theorem cntR_bd (f s u l h : Int) : 0 ≤ cntR f s u l h ∧ cntR f s u l h ≤ 1099511627777 := by
  unfold cntR Tk.countV
  split
  · generalize (if u ≤ h - l then u else h - l) = z
    split
    · next hc =>
      split
      · omega
      · have h1 := Int.ediv_nonneg (show 0 ≤ z - f by omega) hc.2.1.1
        have h2 := Int.ediv_le_self s (show 0 ≤ z - f by omega)
        omega
    · omega
  · omega
theorem runsT_len {x : WorldM} {i : Nat} {t : TripO} {r : RouteO} (h : rowW x i = some (t, r)) : (runsT x i).length = (cntT x.horizon r t).toNat := by unfold runsT; rw [h]; simp
theorem runsT_at {x : WorldM} {i j : Nat} {t : TripO} {r : RouteO} (h : rowW x i = some (t, r)) (hj : j < (cntT x.horizon r t).toNat) : (runsT x i)[j]? = some ⟨i, j, arrT r.rides r.stays (Tk.atV t.frm t.every j) r.rides.length, depT r.rides r.stays (Tk.atV t.frm t.every j) r.rides.length⟩ := by
  unfold runsT
  rw [h]
  simp only
  rw [List.getElem?_map, List.getElem?_range hj]; rfl
/-- runs as they lie -/
def Rns (w : World) (S : Nat → Prop) : List RunM → List Value → Prop
  | [], c => c = []
  | r :: l, c => ∃ (A : Option Addr) (c1 : Nat) (B : Option Addr) (c2 : Nat) (rest : List Value), c = .int .i64 r.trip :: .int .i64 r.no :: .slice A r.arr.length c1 :: .slice B r.dep.length c2 :: rest ∧ Rd w S A (cs intC r.arr) ∧ Rd w S B (cs intC r.dep) ∧ Rns w S l rest
theorem Rns.map {w w' : World} {S S' : Nat → Prop} (f : ∀ A xs, Rd w S A xs → Rd w' S' A xs) : ∀ {l : List RunM} {c : List Value}, Rns w S l c → Rns w' S' l c
  | [], _, h => h
  | _ :: _, _, ⟨A, c1, B, c2, rest, e, h1, h2, h3⟩ => ⟨A, c1, B, c2, rest, e, f _ _ h1, f _ _ h2, Rns.map f h3⟩
theorem Rns.len {w : World} {S : Nat → Prop} : ∀ {l : List RunM} {c : List Value}, Rns w S l c → c.length = l.length * 4
  | [], _, h => by rw [show _ = _ from h]; rfl
  | _ :: _, _, ⟨_, _, _, _, _, e, _, _, h4⟩ => by rw [e]; simp [Rns.len h4]; omega
theorem Rns.snoc {w : World} {S : Nat → Prop} {r : RunM} {d : List Value} (hr : Rns w S [r] d) : ∀ {l : List RunM} {c : List Value}, Rns w S l c → Rns w S (l ++ [r]) (c ++ d)
  | [], _, h => by rw [show _ = _ from h]; exact hr
  | _ :: _, _, ⟨A, c1, B, c2, rest, e, h1, h2, h3⟩ => ⟨A, c1, B, c2, rest ++ d, by rw [e]; rfl, h1, h2, Rns.snoc hr h3⟩
theorem rd_grown {W W' : World} {S : Nat → Prop} {A : Option Addr} {xs : List Value} {row : Option Nat} (h : Rd W S A xs) (hg : W.grownBy W' row) (hr : ∀ r, row = some r → ∃ o : Obj, W.heap[r]? = some o ∧ o.isCells = false) : Rd W' S A xs := fun hn => by
  obtain ⟨ad, e, hb, hc⟩ := h hn
  exact ⟨ad, e, hb, fun j u hu => cell_kept (hc j u hu) hg hr⟩
theorem blk_grown {W W' : World} {g : Nat} {t : TypeId} {l : List Value} {row : Option Nat} (h : Blk W g t l) (hg : W.grownBy W' row) (hr : ∀ r, row = some r → ∃ o : Obj, W.heap[r]? = some o ∧ o.isCells = false) : Blk W' g t l := h.grown hg (fun e => by
  obtain ⟨o, ho, hc⟩ := hr g e.symm
  rw [show W.heap[g]? = _ from h] at ho; cases ho; cases hc)
theorem own_grown {W W' : World} {b e s n : Nat} {v : Value} {xs : List Value} {row : Option Nat} (h : W.ownsRow b e s v n xs) (hg : W.grownBy W' row) (hr : ∀ r, row = some r → ∃ o : Obj, W.heap[r]? = some o ∧ o.isCells = false) : W'.ownsRow b e s v n xs := h.kept hg (by
  rcases h.2 with ⟨rfl, _⟩ | ⟨g, cap, cur, rfl, _, hgb, _⟩
  · exact .inl rfl
  · refine .inr fun e' => ?_
    obtain ⟨o, ho, hc⟩ := hr g (by simpa [Value.ownBlock] using e'.symm)
    rw [hgb] at ho; cases ho; cases hc)
/-- the runs' rows: in new memory, apart from the row of runs -/
def RS (n1 : Nat) (v : Value) (W : World) : Nat → Prop := fun b => n1 ≤ b ∧ b < W.heap.size ∧ v.ownBlock ≠ some b
/-- what All's loop keeps: the variable l holds the runs so far -/
structure AI (w : World) (n1 B4 : Nat) (L : List RunM) (W : World) : Prop where
  row : ∃ v ss, Blk W B4 39 [v] ∧ W.ownsRow n1 24 4 v L.length ss ∧ Rns W (RS n1 v W) L ss
  b2 : Blk W (w.heap.size + 1) 39 [.slice none 0 0]
  b3 : Blk W (w.heap.size + 1 + 1) 25 [.int .i64 0]
  bel : Below w.heap.size w W
  siz : n1 ≤ W.heap.size
  few : L.length ≤ 16384
theorem AI.grown {w : World} {n1 B4 : Nat} {L : List RunM} {W W' : World} {row : Option Nat} (h : AI w n1 B4 L W) (hn : w.heap.size ≤ n1) (hg : W.grownBy W' row) (hr : ∀ r, row = some r → n1 ≤ r ∧ ∃ o : Obj, W.heap[r]? = some o ∧ o.isCells = false) : AI w n1 B4 L W' := by
  have hr' := fun r e => (hr r e).2
  obtain ⟨v, ss, h1, h2, h3⟩ := h.row
  exact ⟨⟨v, ss, blk_grown h1 hg hr', own_grown h2 hg hr', h3.map fun A xs h => (rd_grown h hg hr').more fun b hb => ⟨hb.1, Nat.lt_of_lt_of_le hb.2.1 hg.size, hb.2.2⟩⟩, blk_grown h.b2 hg hr', blk_grown h.b3 hg hr', h.bel.grown hg (Nat.le_trans hn h.siz) (fun k e => Nat.le_trans hn (hr k e).1), Nat.le_trans h.siz hg.size, h.few⟩
end Go.Proofs.YtfefnfifeaihhaaGreat.Wo
