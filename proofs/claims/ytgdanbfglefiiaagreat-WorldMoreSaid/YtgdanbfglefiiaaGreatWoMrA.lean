/- A sheet in memory of one's own whose rows of stops and of paths grow. No conditions. -/
import Derived.Test.YtgdanbfglefiiaaGreatWoOwC
import Derived.ChangeSlices
import Derived.Deep.Strs
import Derived.Deep.SlicePairs
import Derived.ChangeArms
import Derived.Carry
import Derived.Deep.RegionHeld3
import Derived.Deep.RegionHeldLaw
import Derived.Deep.CutRange
import Derived.StillTailTactics
import Derived.WalkSpells
import Derived.Lib.QuietBelow
import Derived.Deep.QuietTactic
namespace Go.Proofs.YtgdanbfglefiiaaGreat.Wo
open Go.ChangeShapes Go.WideShapes Go.ChangeAt Go.RowKit Go.Maps
open Lx Sh It
set_option linter.unusedVariables false
set_option linter.unusedSimpArgs false
abbrev sv1 (x : SheetM) (p : ShA) : Value := .slice p.a1 x.stops.length p.c1
abbrev sv2 (x : SheetM) (p : ShA) : Value := .slice p.a2 x.paths.length p.c2
structure SwR (w : World) (S : Nat → Prop) (x : SheetM) (p : ShA) : Prop where
  r3 : Rd w S p.a3 (cs doC x.doors)
  r4 : ∃ c, Rd w S p.a4 c ∧ Rts w S x.routes c
  r5 : Rd w S p.a5 (cs trC x.trips)
  r6 : Rd w S p.a6 (cs haC x.hazards)
theorem SwR.keep {w w' : World} {S : Nat → Prop} {x : SheetM} {p : ShA} (h : SwR w S x p) (hk : ∀ b, S b → w'.heap[b]? = w.heap[b]?) : SwR w' S x p := by
  obtain ⟨c, h4, h4'⟩ := h.r4
  exact ⟨h.r3.keep hk, ⟨c, h4.keep hk, Rts.keep hk h4'⟩, h.r5.keep hk, h.r6.keep hk⟩
theorem SwR.more {w : World} {S S' : Nat → Prop} {x : SheetM} {p : ShA} (h : SwR w S x p) (hs : ∀ b, S b → S' b) : SwR w S' x p := by
  obtain ⟨c, h4, h4'⟩ := h.r4
  exact ⟨h.r3.more hs, ⟨c, h4.more hs, Rts.more hs h4'⟩, h.r5.more hs, h.r6.more hs⟩
structure SwS (w : World) (B s : Nat) (x : SheetM) (p : ShA) : Prop where
  o1 : w.ownsRow (B + 1) 9 1 (sv1 x p) x.stops.length (cs strC x.stops)
  o2 : w.ownsRow (B + 1) 65 4 (sv2 x p) x.paths.length (cs paC x.paths)
  rr : SwR w (Away w B [sv1 x p, sv2 x p, bxV s]) x p
theorem SwS.keep {w w' : World} {B s : Nat} {x : SheetM} {p : ShA} (h : SwS w B s x p) {X : Nat → Prop} (hc : Ch X w w') (h1 : ∀ v ∈ [sv1 x p, sv2 x p], ∀ k, v.ownBlock = some k → ¬ X k) (h2 : ∀ b, Away w B [sv1 x p, sv2 x p, bxV s] b → ¬ X b) : SwS w' B s x p :=
  ⟨hc.own h.o1 (h1 _ (by simp)), hc.own h.o2 (h1 _ (by simp)), (h.rr.keep fun b hb => hc.block b hb.2.1 (h2 b hb)).more fun b hb => hb.on hc.size fun _ h => .inl h⟩
theorem SwS.after {w w' : World} {B s : Nat} {x : SheetM} {p : ShA} (h : SwS w B s x p) (hb : Below w.heap.size w w') : SwS w' B s x p :=
  h.keep (Ch.of_below (X := fun _ => False) hb) (fun _ _ _ _ h => h) (fun _ _ h => h)
theorem SwS.box {w w' : World} {B s : Nat} {x : SheetM} {p : ShA} {l : List Value} (h : SwS w B s x p) (hk : Blk w s 44 l) (hc : Ch (· = s) w w') : SwS w' B s x p := by
  refine h.keep hc ?_ (fun b hb e => hb.2.2 (bxV s) (by simp) (by rw [e]; rfl))
  intro v hv
  simp only [List.mem_cons, List.not_mem_nil, or_false] at hv
  rcases hv with rfl | rfl
  · exact own_ne_blk h.o1 hk (by decide)
  · exact own_ne_blk h.o2 hk (by decide)
theorem SwS.of {w : World} {B s : Nat} {x : SheetM} {p : ShA} (h : OwS w B s x (sv1 x p) (sv2 x p) (.slice p.a3 x.doors.length p.c3) (.slice p.a4 x.routes.length p.c4) (.slice p.a5 x.trips.length p.c5) (.slice p.a6 x.hazards.length p.c6)) : SwS w B w.heap.size x p := by
  obtain ⟨c, h4, h4'⟩ := h.r4
  have aw : ∀ {e size n : Nat} {v : Value} {xs : List Value}, w.ownsRow (B + 1) e size v n xs → e ≠ 9 → e ≠ 65 → ∀ b, v.ownBlock = some b → Away w B [sv1 x p, sv2 x p, bxV w.heap.size] b := fun ho n1 n2 b hb => by
    have hl := ho.lt b hb
    refine ⟨by omega, hl.2, fun u hu e => ?_⟩
    simp only [List.mem_cons, List.not_mem_nil, or_false] at hu
    rcases hu with rfl | rfl | rfl
    · exact own_ne ho h.r1 n1 b hb e
    · exact own_ne ho h.r2 n2 b hb e
    · have e2 : (some w.heap.size : Option Nat) = some b := e
      injection e2 with e2
      omega
  refine ⟨h.r1, h.r2, ⟨(own_rd1 h.r3).more (aw h.r3 (by decide) (by decide)), ⟨c, (own_rd1 h4).more (aw h4 (by decide) (by decide)), Rts.more (fun b hb => ⟨hb.1, hb.2.1, fun u hu e => ?_⟩) h4'⟩, (own_rd1 h.r5).more (aw h.r5 (by decide) (by decide)), (own_rd1 h.r6).more (aw h.r6 (by decide) (by decide))⟩⟩
  simp only [List.mem_cons, List.not_mem_nil, or_false] at hu
  rcases hu with rfl | rfl | rfl
  · exact hb.2.2 _ (by simp) e
  · exact hb.2.2 _ (by simp) e
  · have e2 : (some w.heap.size : Option Nat) = some b := e
    injection e2 with e2
    have := hb.2.1
    omega
theorem SwS.sh {w : World} {B s : Nat} {x : SheetM} {p : ShA} (h : SwS w B s x p) : Sh w (· < w.heap.size) x p := by
  have r := h.rr.more (S' := (· < w.heap.size)) fun b hb => hb.2.1
  exact ⟨(own_rd h.o1).more fun b hb => hb.2, (own_rd h.o2).more fun b hb => hb.2, r.r3, r.r4, r.r5, r.r6⟩
theorem SwS.add1 {w1 w2 : World} {B s c : Nat} {x : SheetM} {p : ShA} {A : Option Addr} {a : Nm} {l : List Value} (h : SwS w1 B s x p) (hk : Blk w1 s 44 l)
    (h1 : w2.ownsRow (B + 1) 9 1 (Value.slice A (x.stops.length + 1) c) (x.stops.length + 1) (cs strC x.stops ++ strC a)) (hg : w1.grownBy w2 (sv1 x p).ownBlock) (hor : (Value.slice A (x.stops.length + 1) c).ownBlock = (sv1 x p).ownBlock ∨ (Value.slice A (x.stops.length + 1) c).ownBlock = some w1.heap.size) :
    SwS (w2.setCell ⟨s, 1, none⟩ (Value.slice A (x.stops.length + 1) c)) B s { x with stops := x.stops ++ [a] } ⟨A, p.a2, p.a3, p.a4, p.a5, p.a6, c, p.c2, p.c3, p.c4, p.c5, p.c6⟩ ∧ Blk (w2.setCell ⟨s, 1, none⟩ (Value.slice A (x.stops.length + 1) c)) s 44 (l.set 1 (Value.slice A (x.stops.length + 1) c)) := by
  have hX : Ch (fun b => some b = (sv1 x p).ownBlock) w1 w2 := Ch.of_grown hg fun k e => e
  have k2 := hX.blk hk (fun e => own_ne_blk h.o1 hk (by decide) s e.symm rfl)
  have hB : Ch (· = s) w2 (w2.setCell ⟨s, 1, none⟩ (Value.slice A (x.stops.length + 1) c)) := (Ch.refl (· = s) _).setCell (p := ⟨s, 1, none⟩) (.inl rfl) _
  have r := (h.rr.keep fun b hb => hX.block b hb.2.1 (fun e => hb.2.2 (sv1 x p) (by simp) e.symm))
  have aw : ∀ b, Away w1 B [sv1 x p, sv2 x p, bxV s] b → Away w2 B [sv1 ({ x with stops := x.stops ++ [a] } : SheetM) (⟨A, p.a2, p.a3, p.a4, p.a5, p.a6, c, p.c2, p.c3, p.c4, p.c5, p.c6⟩ : ShA), sv2 ({ x with stops := x.stops ++ [a] } : SheetM) (⟨A, p.a2, p.a3, p.a4, p.a5, p.a6, c, p.c2, p.c3, p.c4, p.c5, p.c6⟩ : ShA), bxV s] b := fun b hb => by
    refine hb.on hX.size ?_
    intro v' hv'
    simp only [List.mem_cons, List.not_mem_nil, or_false] at hv'
    rcases hv' with rfl | rfl | rfl
    · refine .inr ⟨sv1 x p, by simp, ?_⟩
      rcases hor with q | q
      · exact .inl (own_len.trans q)
      · exact .inr ⟨_, own_len.trans q, Nat.le_refl _⟩
    · exact .inl (by simp)
    · exact .inl (by simp)
  have r2 := r.more aw
  have g : SwS w2 B s { x with stops := x.stops ++ [a] } ⟨A, p.a2, p.a3, p.a4, p.a5, p.a6, c, p.c2, p.c3, p.c4, p.c5, p.c6⟩ := ⟨by simpa [sv1, cs_more] using h1, hX.own h.o2 (fun i e e' => own_ne h.o1 h.o2 (by decide) i e'.symm e), ⟨r2.r3, r2.r4, r2.r5, r2.r6⟩⟩
  exact ⟨g.box k2 hB, k2.set_ 1 _⟩
theorem SwS.add2 {w1 w2 : World} {B s c : Nat} {x : SheetM} {p : ShA} {A : Option Addr} {a : PathM} {l : List Value} (h : SwS w1 B s x p) (hk : Blk w1 s 44 l)
    (h1 : w2.ownsRow (B + 1) 65 4 (Value.slice A (x.paths.length + 1) c) (x.paths.length + 1) (cs paC x.paths ++ paC a)) (hg : w1.grownBy w2 (sv2 x p).ownBlock) (hor : (Value.slice A (x.paths.length + 1) c).ownBlock = (sv2 x p).ownBlock ∨ (Value.slice A (x.paths.length + 1) c).ownBlock = some w1.heap.size) :
    SwS (w2.setCell ⟨s, 2, none⟩ (Value.slice A (x.paths.length + 1) c)) B s { x with paths := x.paths ++ [a] } ⟨p.a1, A, p.a3, p.a4, p.a5, p.a6, p.c1, c, p.c3, p.c4, p.c5, p.c6⟩ ∧ Blk (w2.setCell ⟨s, 2, none⟩ (Value.slice A (x.paths.length + 1) c)) s 44 (l.set 2 (Value.slice A (x.paths.length + 1) c)) := by
  have hX : Ch (fun b => some b = (sv2 x p).ownBlock) w1 w2 := Ch.of_grown hg fun k e => e
  have k2 := hX.blk hk (fun e => own_ne_blk h.o2 hk (by decide) s e.symm rfl)
  have hB : Ch (· = s) w2 (w2.setCell ⟨s, 2, none⟩ (Value.slice A (x.paths.length + 1) c)) := (Ch.refl (· = s) _).setCell (p := ⟨s, 2, none⟩) (.inl rfl) _
  have r := (h.rr.keep fun b hb => hX.block b hb.2.1 (fun e => hb.2.2 (sv2 x p) (by simp) e.symm))
  have aw : ∀ b, Away w1 B [sv1 x p, sv2 x p, bxV s] b → Away w2 B [sv1 ({ x with paths := x.paths ++ [a] } : SheetM) (⟨p.a1, A, p.a3, p.a4, p.a5, p.a6, p.c1, c, p.c3, p.c4, p.c5, p.c6⟩ : ShA), sv2 ({ x with paths := x.paths ++ [a] } : SheetM) (⟨p.a1, A, p.a3, p.a4, p.a5, p.a6, p.c1, c, p.c3, p.c4, p.c5, p.c6⟩ : ShA), bxV s] b := fun b hb => by
    refine hb.on hX.size ?_
    intro v' hv'
    simp only [List.mem_cons, List.not_mem_nil, or_false] at hv'
    rcases hv' with rfl | rfl | rfl
    · exact .inl (by simp)
    · refine .inr ⟨sv2 x p, by simp, ?_⟩
      rcases hor with q | q
      · exact .inl (own_len.trans q)
      · exact .inr ⟨_, own_len.trans q, Nat.le_refl _⟩
    · exact .inl (by simp)
  have r2 := r.more aw
  have g : SwS w2 B s { x with paths := x.paths ++ [a] } ⟨p.a1, A, p.a3, p.a4, p.a5, p.a6, p.c1, c, p.c3, p.c4, p.c5, p.c6⟩ := ⟨hX.own h.o1 (fun i e e' => own_ne h.o2 h.o1 (by decide) i e'.symm e), by simpa [sv2, cs_more] using h1, ⟨r2.r3, r2.r4, r2.r5, r2.r6⟩⟩
  exact ⟨g.box k2 hB, k2.set_ 2 _⟩
theorem wpList_append_g {P : Program} {w : World} {ops : Array Oper} {o : Oper} {a : Act} {rest : List Oper} {Q : Exit → Act → World → Prop} (hgd : o.guard = none) (s x : Operand) (t : TypeId)
    (ho : o.op = .call { callee := .builtin .append, args := #[s, x], argTypes := #[t, t] })
    (base : Nat) (e : TypeId) (z : Value) (size bytes : Nat) (ht : P.underlying t = some (.slice e)) (hinfo : (P.info? e).map (fun i => (i.zero, i.size, i.bytes)) = some (some z, size, bytes)) (hzs : z.cells.size = size) (hsz : 0 < size) (hb16 : bytes ≤ 128)
    (v : Value) (n : Nat) (xs : List Value) (hs : a.eval s = v) (hown : Hid (w.ownsRow base e size v n xs)) (S : Nat → Prop) (A : Option Addr) (m c : Nat) (news : List Value) (hx : a.eval x = .slice A m c) (hl : Hid (news.length = m * size)) (hr : Hid (Rd w S A news)) (h1 : ∀ u ∈ news, u.oneCell' = true)
    (hN : n + m ≤ 4000000) (hbase : base ≤ w.heap.size)
    (h : ∀ v' w', Hid (w'.ownsRow base e size v' (n + m) (xs ++ news)) → Hid (w.grownBy w' v.ownBlock) → Hid (v'.ownBlock = v.ownBlock ∨ v'.ownBlock = some w.heap.size) → wpList P ops Q rest (a.put o.dst v') w') :
    wpList P ops Q (o :: rest) a w := by
  refine wpList_plain hgd fun K hK => ?_
  obtain ⟨i, hi, hz, hsize, hby⟩ := info_parts hinfo
  obtain ⟨v', w', hrun, h2, h3, h4⟩ := run_append_rd (P := P) w base t o.type e i z size bytes ht hi hz hsize hby hzs hsz v n xs hown.out S A m c news hl.out hr.out h1 (by simp only [maxLen]; omega)
    (by have : (n + m) * bytes ≤ 4000000 * 128 := Nat.mul_le_mul hN hb16
        omega) hbase
  unfold Oper.wp
  simp only [execOp, ho, resolve, invoke, builtin, Sem.run_bind, Sem.run_pure, Result.andThen_ok, List.map_toArray, List.map_cons, List.map_nil, hs, hx, hrun]
  exact hK _ _ (h v' w' h2 h3 h4)
end Go.Proofs.YtgdanbfglefiiaaGreat.Wo
