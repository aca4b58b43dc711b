/- The kit's Own: a row in memory of the call's own, at each kind of row, proved by walking its text. Conditions: the row has at most a million things. · The kit's OwnRoute: a route in memory of the call's own, proved by walking its text. Conditions: its rows have at most a million things. · A sheet that may be is read from its lines, and each of its lines alone: walked. Conditions: the library's variables hold what start-up lays. · The kit's OwnSheet: a sheet in memory of the call's own, proved by walking its text. Conditions: the sheet's rows have at most a million things. -/
import Derived.Test.YtfefnfifeaihhaaGreatBaE
import Derived.Deep.CutRange
set_option linter.unusedVariables false
set_option linter.unusedSimpArgs false
namespace Go.Proofs.YtfefnfifeaihhaaGreat.Sh
open Go.ChangeShapes Go.WideShapes Go.ChangeAt Go.RowKit
open Lx
theorem wpList_append_rdw {P : Program} {w : World} {ops : Array Oper} {rest : List Oper} {o : Oper} {a : Act} {Q : Exit → Act → World → Prop} (hgd : o.guard = none) (s x : Operand) (t : TypeId)
    (ho : o.op = .call { callee := .builtin .append, args := #[s, x], argTypes := #[t, t] })
    (base : Nat) (e : TypeId) (z : Value) (size bytes : Nat) (ht : P.underlying t = some (.slice e)) (hinfo : (P.info? e).map (fun i => (i.zero, i.size, i.bytes)) = some (some z, size, bytes)) (hzs : z.cells.size = size) (hsz : 0 < size) (hb16 : bytes ≤ 128)
    (v : Value) (n : Nat) (xs : List Value) (hs : a.eval s = v) (hown : w.ownsRow base e size v n xs) (S : Nat → Prop) (A : Option Addr) (m c : Nat) (news : List Value) (hx : a.eval x = .slice A m c) (hl : news.length = m * size) (hr : Rd w S A news) (h1 : ∀ u ∈ news, u.oneCell' = true)
    (hN : n + m ≤ 4000000) (hbase : base ≤ w.heap.size)
    (h : ∀ v' w', Hid (w'.ownsRow base e size v' (n + m) (xs ++ news)) → Hid (Below base w w') → wpList P ops Q rest (a.put o.dst v') w') : wpList P ops Q (o :: rest) a w := by
  refine wpList_plain hgd fun K hK => ?_
  obtain ⟨i, hi, hz, hsize, hby⟩ := info_parts hinfo
  obtain ⟨v', w', hrun, h2, h3, h4⟩ := run_append_rd (P := P) w base t o.type e i z size bytes ht hi hz hsize hby hzs hsz v n xs hown S A m c news hl hr h1 (by simp only [maxLen]; omega)
    (by have : (n + m) * bytes ≤ 4000000 * 128 := Nat.mul_le_mul hN hb16
        omega) hbase
  unfold Oper.wp
  simp only [execOp, ho, resolve, invoke, builtin, Sem.run_bind, Sem.run_pure, Result.andThen_ok, List.map_toArray, List.map_cons, List.map_nil, hs, hx, hrun]
  exact hK _ _ (h v' w' h2 ((Below.refl _ _).grown h3 hbase (fun k hk => (hown.lt k hk).1)))
/-- a row of n things in new memory -/
def NewRow (w : World) (T : TypeId) (size : Nat) (xs : List Value) (n : Nat) (e : Ending) (w' : World) : Prop :=
  ∃ A c, e = .returned (.slice A n c) ∧ n ≤ c ∧ Hid (w'.ownsRow w.heap.size T size (.slice A n c) n xs) ∧ Below w.heap.size w w'
end Go.Proofs.YtfefnfifeaihhaaGreat.Sh
namespace Go.Proofs.YtfefnfifeaihhaaGreat.Sh
open Go.ChangeShapes Go.WideShapes Go.ChangeAt Go.RowKit
open Lx
theorem below_set1 {B : Nat} {a w : World} {p : Addr} (h : Below B a w) (hp : B ≤ p.block) (u : Value) : Below B a (w.setCell p u) := ⟨h.os, h.tape, h.output, by simpa [World.setCell] using h.size, fun k hk => (Below.heap_setCell _ _ _ _ (by rintro rfl; omega)).trans (h.block k hk)⟩
theorem set4_keep {w : World} {g : Nat} {a b c d : Value} {k : Nat} (h : k ≠ g) : ((((w.setCell ⟨g, 0, none⟩ a).setCell ⟨g, 1, none⟩ b).setCell ⟨g, 2, none⟩ c).setCell ⟨g, 3, none⟩ d).heap[k]? = w.heap[k]? :=
  ((Below.heap_setCell _ _ _ _ (by exact h)).trans (Below.heap_setCell _ _ _ _ (by exact h))).trans ((Below.heap_setCell _ _ _ _ (by exact h)).trans (Below.heap_setCell _ _ _ _ (by exact h)))
theorem set4_size {w : World} {g : Nat} {a b c d : Value} : ((((w.setCell ⟨g, 0, none⟩ a).setCell ⟨g, 1, none⟩ b).setCell ⟨g, 2, none⟩ c).setCell ⟨g, 3, none⟩ d).heap.size = w.heap.size := by simp
theorem rd_set4 {w : World} {g B lo : Nat} {a b c d : Value} {A : Option Addr} {xs : List Value} (h : Rd w (fun i => B ≤ i ∧ i < w.heap.size) A xs) (hg : g < B) (hlo : lo ≤ B) :
    Rd ((((w.setCell ⟨g, 0, none⟩ a).setCell ⟨g, 1, none⟩ b).setCell ⟨g, 2, none⟩ c).setCell ⟨g, 3, none⟩ d) (fun i => lo ≤ i ∧ i < ((((w.setCell ⟨g, 0, none⟩ a).setCell ⟨g, 1, none⟩ b).setCell ⟨g, 2, none⟩ c).setCell ⟨g, 3, none⟩ d).heap.size) A xs :=
  (h.keep fun k hk => set4_keep (by omega)).more fun k hk => ⟨by omega, by rw [set4_size]; exact hk.2⟩
def OwnRtPost (w : World) (r : RouteM) (e : Ending) (w' : World) : Prop :=
  ∃ sa ra ya sc rc yc, e = .returned (rtV r sa ra ya sc rc yc) ∧ RtAt w' (fun b => w.heap.size ≤ b ∧ b < w'.heap.size) r sa ra ya ∧ Below w.heap.size w w'
end Go.Proofs.YtfefnfifeaihhaaGreat.Sh
namespace Go.Proofs.YtfefnfifeaihhaaGreat.Sh
open Go.ChangeShapes Go.WideShapes Go.ChangeAt Go.RowKit
open Lx
section
variable {w : World} {s : Nat} {v0 v1 v2 v3 v4 v5 v6 : Value}
end
end Go.Proofs.YtfefnfifeaihhaaGreat.Sh
namespace Go.Proofs.YtfefnfifeaihhaaGreat.Sh
open Go.ChangeShapes Go.WideShapes Go.ChangeAt Go.RowKit
open Lx
theorem own_nil {w : World} {base e size : Nat} : w.ownsRow base e size (.slice none 0 0) 0 [] := ⟨by simp, .inl ⟨rfl, rfl⟩⟩
theorem step_append_g {P : Program} {w : World} {ops : Array Oper} {o : Oper} {a : Act} {K : Act → World → Prop} {Q : Exit → Act → World → Prop} {E : Prop} (hgd : o.guard = none) (s x : Operand) (t : TypeId)
    (ho : o.op = .call { callee := .builtin .append, args := #[s, x], argTypes := #[t, t] })
    (base : Nat) (e : TypeId) (z : Value) (size bytes : Nat) (ht : P.underlying t = some (.slice e)) (hinfo : (P.info? e).map (fun i => (i.zero, i.size, i.bytes)) = some (some z, size, bytes)) (hzs : z.cells.size = size) (hsz : 0 < size) (hb16 : bytes ≤ 128)
    (v : Value) (n : Nat) (xs : List Value) (hs : a.eval s = v) (hown : Hid (w.ownsRow base e size v n xs)) (S : Nat → Prop) (A : Option Addr) (m c : Nat) (news : List Value) (hx : a.eval x = .slice A m c) (hl : Hid (news.length = m * size)) (hr : Hid (Rd w S A news)) (h1 : ∀ u ∈ news, u.oneCell' = true)
    (hN : n + m ≤ 4000000) (hbase : base ≤ w.heap.size)
    (h : ∀ v' w', Hid (w'.ownsRow base e size v' (n + m) (xs ++ news)) → Hid (w.grownBy w' v.ownBlock) → Hid (v'.ownBlock = v.ownBlock ∨ v'.ownBlock = some w.heap.size) → K (a.put o.dst v') w') :
    if Region.wanted o (yielded ops a.tmps) = true then Oper.wp P o a w K Q else E := by
  have hw : Region.wanted o (yielded ops a.tmps) = true := by simp [Region.wanted, hgd]
  rw [if_pos hw]
  obtain ⟨i, hi, hz, hsize, hby⟩ := info_parts hinfo
  obtain ⟨v', w', hrun, h2, h3, h4⟩ := run_append_rd (P := P) w base t o.type e i z size bytes ht hi hz hsize hby hzs hsz v n xs hown.out S A m c news hl.out hr.out h1 (by simp only [maxLen]; omega)
    (by have : (n + m) * bytes ≤ 4000000 * 128 := Nat.mul_le_mul hN hb16
        omega) hbase
  unfold Oper.wp
  simp only [execOp, ho, resolve, invoke, builtin, Sem.run_bind, Sem.run_pure, Result.andThen_ok, List.map_toArray, List.map_cons, List.map_nil, hs, hx, hrun]
  exact h v' w' h2 h3 h4
end Go.Proofs.YtfefnfifeaihhaaGreat.Sh
