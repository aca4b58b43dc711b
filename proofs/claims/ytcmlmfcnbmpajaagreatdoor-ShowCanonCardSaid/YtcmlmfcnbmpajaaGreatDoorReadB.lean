/- The document's reader: a route's legs, proved by walking their text. · The document's reader: is there room for a thing more? Proved by walking its text. · The document's reader: stops, routes and whole lines, proved by walking their text. · The document's reader: a line, proved by walking its text. · The document's own Parse: a sheet, or some fault; proved by walking its text. -/
import Derived.Test.YtcmlmfcnbmpajaaGreatDoorReadA
import Derived.Test.YtcmlmfcnbmpajaaGreatDoorRefAny
namespace Go.Proofs.YtcmlmfcnbmpajaaGreatDoor.Sw
open Go.ChangeShapes Go.WideShapes Go.ChangeAt Go.RowKit
open Lx Sh Tk
set_option linter.unusedVariables false
set_option linter.unusedSimpArgs false
set_option maxRecDepth 100000

/-- the route while it is read -/
structure LegZ (w : World) (B b0 b1 : Nat) (toks : List Tok) (q : List Value) (nm : List UInt8) (g : LegS) (vs vr vy : Value) (st : St) (wr : World) : Prop where
  cur : RCur wr B toks q st
  res : Blk wr b0 38 [.string ⟨#[]⟩, .slice none 0 0, .slice none 0 0, .slice none 0 0]
  box : Blk wr b1 38 [.string ⟨nm.toArray⟩, vs, vr, vy]
  os : wr.ownsRow w.heap.size 9 1 vs g.stops.length (cs strC g.stops)
  orr : wr.ownsRow w.heap.size 2 1 vr g.rides.length (cs intC g.rides)
  oy : wr.ownsRow w.heap.size 2 1 vy g.stays.length (cs intC g.stays)
  sep : ∀ k, vr.ownBlock = some k → vy.ownBlock ≠ some k
  ch : Ch (· = B) w wr
  hB : B < w.heap.size
  h0 : w.heap.size ≤ b0
  h1 : b0 < b1
section
variable {w wr w' : World} {B b0 b1 : Nat} {toks : List Tok} {q : List Value} {nm : List UInt8} {g : LegS} {vs vr vy : Value} {st st' : St}
theorem LegZ.on (h : LegZ w B b0 b1 toks q nm g vs vr vy st wr) (hc : RCur w' B toks q st') (hch : Ch (· = B) wr w') : LegZ w B b0 b1 toks q nm g vs vr vy st' w' := by
  have hB := h.hB
  have h0 := h.h0
  have h1 := h.h1
  have f : ∀ {e size n : Nat} {v : Value} {xs : List Value}, wr.ownsRow w.heap.size e size v n xs → w'.ownsRow w.heap.size e size v n xs := fun ho => hch.own ho fun k hk e => by have := (ho.lt k hk).1; omega
  exact ⟨hc, hch.blk h.res (by omega), hch.blk h.box (by omega), f h.os, f h.orr, f h.oy, h.sep, h.ch.trans hch, hB, h0, h1⟩
theorem LegZ.old (h : LegZ w B b0 b1 toks q nm g vs vr vy st wr) (hb : Ch (fun _ => False) wr w') : LegZ w B b0 b1 toks q nm g vs vr vy st w' := h.on (h.cur.ch hb fun _ _ => id) (hb.mono fun _ _ h => h.elim)

/-- behind the append of a stop -/
theorem LegZ.stop (h : LegZ w B b0 b1 toks q nm g vs vr vy st wr) {d : List UInt8} {v' : Value} (ho : w'.ownsRow w.heap.size 9 1 v' (g.stops.length + 1) (cs strC g.stops ++ strC d)) (hg : wr.grownBy w' vs.ownBlock)
    (hv : v'.ownBlock = vs.ownBlock ∨ v'.ownBlock = some wr.heap.size) : LegZ w B b0 b1 toks q nm { g with stops := g.stops ++ [d] } v' vr vy st (w'.setCell ⟨b1, 1, none⟩ v') := by
  have hB := h.hB
  have h0 := h.h0
  have h1 := h.h1
  have hch : Ch (fun k => some k = vs.ownBlock) wr w' := .of_grown hg fun k e => e
  have hs : Ch (· = b1) w' (w'.setCell ⟨b1, 1, none⟩ v') := ch_set _ _ _ _
  have nb : ∀ {v : Value} {e n : Nat} {xs : List Value} {sz : Nat}, wr.ownsRow w.heap.size e sz v n xs → (he : e ≠ 38) → ∀ k, v.ownBlock = some k → k ≠ b1 := fun ho he => own_ne_blk ho h.box he
  have nb0 : ∀ {v : Value} {e n : Nat} {xs : List Value} {sz : Nat}, wr.ownsRow w.heap.size e sz v n xs → (he : e ≠ 38) → ∀ k, v.ownBlock = some k → k ≠ b0 := fun ho he => own_ne_blk ho h.res he
  have box' : Blk w' b1 38 [.string ⟨nm.toArray⟩, vs, vr, vy] := hch.blk h.box fun e => nb h.os (by decide) b1 e.symm rfl
  have res' : Blk w' b0 38 [.string ⟨#[]⟩, .slice none 0 0, .slice none 0 0, .slice none 0 0] := hch.blk h.res fun e => nb0 h.os (by decide) b0 e.symm rfl
  have bb := h.box.lt
  exact ⟨(h.cur.ch hch fun k hk e => by have := (h.os.lt k e.symm).1; omega).ch hs fun k hk e => by omega, hs.blk res' (by omega), box'.set_ 1 v', (by
    rw [List.length_append, cs_append, cs_one]
    refine hs.own ho fun k hk e => ?_
    rcases hv with hv | hv
    · exact nb h.os (by decide) k (by rw [← hv]; exact hk) e
    · rw [hk] at hv; injection hv with hv; omega), hs.own (hch.own h.orr fun k hk e => own_ne h.orr h.os (by decide) k hk e.symm) fun k hk e => nb h.orr (by decide) k hk e, hs.own (hch.own h.oy fun k hk e => own_ne h.oy h.os (by decide) k hk e.symm) fun k hk e => nb h.oy (by decide) k hk e, h.sep,
    (h.ch.trans' hch fun k hk e => by have := (h.os.lt k e.symm).1; omega).fresh (by omega) hs, hB, h0, h1⟩

/-- behind the append of a ride -/
theorem LegZ.ride (h : LegZ w B b0 b1 toks q nm g vs vr vy st wr) {d : Int} {v' : Value} (ho : w'.ownsRow w.heap.size 2 1 v' (g.rides.length + 1) (cs intC g.rides ++ intC d)) (hg : wr.grownBy w' vr.ownBlock)
    (hv : v'.ownBlock = vr.ownBlock ∨ v'.ownBlock = some wr.heap.size) : LegZ w B b0 b1 toks q nm { g with rides := g.rides ++ [d] } vs v' vy st (w'.setCell ⟨b1, 2, none⟩ v') := by
  have hB := h.hB
  have h0 := h.h0
  have h1 := h.h1
  have hch : Ch (fun k => some k = vr.ownBlock) wr w' := .of_grown hg fun k e => e
  have hs : Ch (· = b1) w' (w'.setCell ⟨b1, 2, none⟩ v') := ch_set _ _ _ _
  have nb : ∀ {v : Value} {e n : Nat} {xs : List Value} {sz : Nat}, wr.ownsRow w.heap.size e sz v n xs → (he : e ≠ 38) → ∀ k, v.ownBlock = some k → k ≠ b1 := fun ho he => own_ne_blk ho h.box he
  have nb0 : ∀ {v : Value} {e n : Nat} {xs : List Value} {sz : Nat}, wr.ownsRow w.heap.size e sz v n xs → (he : e ≠ 38) → ∀ k, v.ownBlock = some k → k ≠ b0 := fun ho he => own_ne_blk ho h.res he
  have box' : Blk w' b1 38 [.string ⟨nm.toArray⟩, vs, vr, vy] := hch.blk h.box fun e => nb h.orr (by decide) b1 e.symm rfl
  have res' : Blk w' b0 38 [.string ⟨#[]⟩, .slice none 0 0, .slice none 0 0, .slice none 0 0] := hch.blk h.res fun e => nb0 h.orr (by decide) b0 e.symm rfl
  have bb := h.box.lt
  exact ⟨(h.cur.ch hch fun k hk e => by have := (h.orr.lt k e.symm).1; omega).ch hs fun k hk e => by omega, hs.blk res' (by omega), box'.set_ 2 v', hs.own (hch.own h.os fun k hk e => own_ne h.os h.orr (by decide) k hk e.symm) fun k hk e => nb h.os (by decide) k hk e, (by
    rw [List.length_append, cs_append, cs_one]
    refine hs.own ho fun k hk e => ?_
    rcases hv with hv | hv
    · exact nb h.orr (by decide) k (by rw [← hv]; exact hk) e
    · rw [hk] at hv; injection hv with hv; omega), hs.own (hch.own h.oy fun k hk e => h.sep k e.symm hk) fun k hk e => nb h.oy (by decide) k hk e, fun k hk hy => by
    rcases hv with hv | hv
    · exact h.sep k (by rw [← hv]; exact hk) hy
    · rw [hk] at hv; injection hv with hv
      have := (h.oy.lt k hy).2
      omega,
    (h.ch.trans' hch fun k hk e => by have := (h.orr.lt k e.symm).1; omega).fresh (by omega) hs, hB, h0, h1⟩

/-- behind the append of a stay -/
theorem LegZ.stay (h : LegZ w B b0 b1 toks q nm g vs vr vy st wr) {d : Int} {v' : Value} (ho : w'.ownsRow w.heap.size 2 1 v' (g.stays.length + 1) (cs intC g.stays ++ intC d)) (hg : wr.grownBy w' vy.ownBlock)
    (hv : v'.ownBlock = vy.ownBlock ∨ v'.ownBlock = some wr.heap.size) : LegZ w B b0 b1 toks q nm { g with stays := g.stays ++ [d] } vs vr v' st (w'.setCell ⟨b1, 3, none⟩ v') := by
  have hB := h.hB
  have h0 := h.h0
  have h1 := h.h1
  have hch : Ch (fun k => some k = vy.ownBlock) wr w' := .of_grown hg fun k e => e
  have hs : Ch (· = b1) w' (w'.setCell ⟨b1, 3, none⟩ v') := ch_set _ _ _ _
  have nb : ∀ {v : Value} {e n : Nat} {xs : List Value} {sz : Nat}, wr.ownsRow w.heap.size e sz v n xs → (he : e ≠ 38) → ∀ k, v.ownBlock = some k → k ≠ b1 := fun ho he => own_ne_blk ho h.box he
  have nb0 : ∀ {v : Value} {e n : Nat} {xs : List Value} {sz : Nat}, wr.ownsRow w.heap.size e sz v n xs → (he : e ≠ 38) → ∀ k, v.ownBlock = some k → k ≠ b0 := fun ho he => own_ne_blk ho h.res he
  have box' : Blk w' b1 38 [.string ⟨nm.toArray⟩, vs, vr, vy] := hch.blk h.box fun e => nb h.oy (by decide) b1 e.symm rfl
  have res' : Blk w' b0 38 [.string ⟨#[]⟩, .slice none 0 0, .slice none 0 0, .slice none 0 0] := hch.blk h.res fun e => nb0 h.oy (by decide) b0 e.symm rfl
  have bb := h.box.lt
  exact ⟨(h.cur.ch hch fun k hk e => by have := (h.oy.lt k e.symm).1; omega).ch hs fun k hk e => by omega, hs.blk res' (by omega), box'.set_ 3 v', hs.own (hch.own h.os fun k hk e => own_ne h.os h.oy (by decide) k hk e.symm) fun k hk e => nb h.os (by decide) k hk e, hs.own (hch.own h.orr fun k hk e => h.sep k hk e.symm) fun k hk e => nb h.orr (by decide) k hk e, (by
    rw [List.length_append, cs_append, cs_one]
    refine hs.own ho fun k hk e => ?_
    rcases hv with hv | hv
    · exact nb h.oy (by decide) k (by rw [← hv]; exact hk) e
    · rw [hk] at hv; injection hv with hv; omega), fun k hk hy => by
    rcases hv with hv | hv
    · exact h.sep k hk (by rw [← hv]; exact hy)
    · rw [hy] at hv; injection hv with hv
      have := (h.orr.lt k hk).2
      omega,
    (h.ch.trans' hch fun k hk e => by have := (h.oy.lt k e.symm).1; omega).fresh (by omega) hs, hB, h0, h1⟩

end
/-- what a route is read as -/
def RtPos (w : World) (B : Nat) (toks : List Tok) (q : List Value) (y : RouteM × St) (e : Ending) (w' : World) : Prop :=
  ∃ sa sc ra rc ya yc, e = .returned (.agg #[.string ⟨y.1.name.toArray⟩, .slice sa y.1.stops.length sc, .slice ra y.1.rides.length rc, .slice ya y.1.stays.length yc]) ∧
    Rd w' (fun b => w.heap.size ≤ b ∧ b < w'.heap.size) sa (cs strC y.1.stops) ∧ Rd w' (fun b => w.heap.size ≤ b ∧ b < w'.heap.size) ra (cs intC y.1.rides) ∧ Rd w' (fun b => w.heap.size ≤ b ∧ b < w'.heap.size) ya (cs intC y.1.stays) ∧ RCur w' B toks q y.2 ∧ Ch (· = B) w w'
theorem set4 {w : World} {n : Nat} {t : TypeId} {a0 a1 a2 a3 : Value} (h : Blk w n t [a0, a1, a2, a3]) (u0 u1 u2 u3 : Value) :
    Blk ((((w.setCell ⟨n, 0, none⟩ u0).setCell ⟨n, 1, none⟩ u1).setCell ⟨n, 2, none⟩ u2).setCell ⟨n, 3, none⟩ u3) n t [u0, u1, u2, u3] := (((h.set_ 0 u0).set_ 1 u1).set_ 2 u2).set_ 3 u3
theorem ch_set4 (w : World) (n : Nat) (u0 u1 u2 u3 : Value) : Ch (· = n) w ((((w.setCell ⟨n, 0, none⟩ u0).setCell ⟨n, 1, none⟩ u1).setCell ⟨n, 2, none⟩ u2).setCell ⟨n, 3, none⟩ u3) := (((ch_set w n 0 u0).trans (ch_set _ n 1 u1)).trans (ch_set _ n 2 u2)).trans (ch_set _ n 3 u3)
theorem route_res {W : World} {n0 : Nat} {a0 a1 a2 a3 : Value} {tmps : Array Value} (h2 : tmps[2]? = some (.pointer (some ⟨n0, 0, none⟩))) (k0 : Blk W n0 38 [a0, a1, a2, a3]) :
    (results Tryz.f119 tmps).run Tryz.prog W = .ok (.agg #[a0, a1, a2, a3]) W := by
  have x0 : W.cell? ⟨n0, 0, none⟩ = some a0 := k0.cell 0
  have x1 : W.cell? ⟨n0, 1, none⟩ = some a1 := k0.cell 1
  have x2 : W.cell? ⟨n0, 2, none⟩ = some a2 := k0.cell 2
  have x3 : W.cell? ⟨n0, 3, none⟩ = some a3 := k0.cell 3
  simp [results, Tryz.results119, go_sem, h2, x0, x1, x2, x3]
theorem LegZ.fin {w wr : World} {B b0 b1 : Nat} {toks : List Tok} {q : List Value} {nm : List UInt8} {g : LegS} {As Ar Ay : Option Addr} {n1 n2 n3 c1 c2 c3 : Nat} {st : St} {y : RouteM × St}
    (h : LegZ w B b0 b1 toks q nm g (.slice As n1 c1) (.slice Ar n2 c2) (.slice Ay n3 c3) st wr) (e1 : n1 = g.stops.length) (e2 : n2 = g.rides.length) (e3 : n3 = g.stays.length) (hy : y = (⟨nm, g.stops, g.rides, g.stays⟩, st)) :
    RtPos w B toks q y (.returned (.agg #[.string ⟨nm.toArray⟩, .slice As n1 c1, .slice Ar n2 c2, .slice Ay n3 c3])) ((((wr.setCell ⟨b0, 0, none⟩ (.string ⟨nm.toArray⟩)).setCell ⟨b0, 1, none⟩ (.slice As n1 c1)).setCell ⟨b0, 2, none⟩ (.slice Ar n2 c2)).setCell ⟨b0, 3, none⟩ (.slice Ay n3 c3)) := by
  subst hy e1 e2 e3
  have hch := ch_set4 wr b0 (.string ⟨nm.toArray⟩) (.slice As g.stops.length c1) (.slice Ar g.rides.length c2) (.slice Ay g.stays.length c3)
  have nb0 : ∀ {v : Value} {e n : Nat} {xs : List Value} {sz : Nat}, wr.ownsRow w.heap.size e sz v n xs → (he : e ≠ 38) → ∀ k, v.ownBlock = some k → k ≠ b0 := fun ho he => own_ne_blk ho h.res he
  have f : ∀ {e size n c : Nat} {A : Option Addr} {xs : List Value}, wr.ownsRow w.heap.size e size (.slice A n c) n xs → (he : e ≠ 38) → Rd ((((wr.setCell ⟨b0, 0, none⟩ (.string ⟨nm.toArray⟩)).setCell ⟨b0, 1, none⟩ (.slice As g.stops.length c1)).setCell ⟨b0, 2, none⟩ (.slice Ar g.rides.length c2)).setCell ⟨b0, 3, none⟩ (.slice Ay g.stays.length c3)) (fun b => w.heap.size ≤ b ∧ b < ((((wr.setCell ⟨b0, 0, none⟩ (.string ⟨nm.toArray⟩)).setCell ⟨b0, 1, none⟩ (.slice As g.stops.length c1)).setCell ⟨b0, 2, none⟩ (.slice Ar g.rides.length c2)).setCell ⟨b0, 3, none⟩ (.slice Ay g.stays.length c3)).heap.size) A xs := fun ho he => by
    exact own_rd' (hch.own ho fun k hk e => nb0 ho he k hk e)
  have hb := h.hB
  have h0 := h.h0
  exact ⟨As, c1, Ar, c2, Ay, c3, rfl, f h.os (by decide), f h.orr (by decide), f h.oy (by decide), h.cur.ch hch (fun k hk e => by omega), h.ch.fresh h0 hch⟩
def ovB (n : Nat) : St → Bool
  | none => false
  | some r => (n == 32) && ((nowL r).kind == 1)
theorem over_eq (n : Nat) (st : St) : overS n st = if ovB n st = true then none else st := by
  cases st with
  | none => simp [overS, ovB]
  | some r => rw [over_some]; simp [ovB]
/-- where the loop is -/
def LegRelZ (w : World) (B b0 b1 : Nat) (toks : List Tok) (q : List Value) (nm : List UInt8) (R : LegS × St) (k : Nat) (wr : World) : Prop :=
  ∃ (g : LegS) (vs vr vy : Value) (st : St) (m : Nat), Hid (LegZ w B b0 b1 toks q nm g vs vr vy st wr) ∧ Hid (legsS m st g = R) ∧ k = lenS st ∧ k < m ∧ Hid (∀ ts, st = some ts → EndL ts) ∧ g.stops.length ≤ 32 ∧ g.rides.length + 1 = g.stops.length ∧ g.stays.length + 1 = g.stops.length

theorem LegZ.boxg {w wr w' : World} {B b0 b1 : Nat} {toks : List Tok} {q : List Value} {nm : List UInt8} {g : LegS} {vs vr vy : Value} {st : St} (h : LegZ w B b0 b1 toks q nm g vs vr vy st wr) {b e sz n : Nat} {v : Value} {xs : List Value} (ho : wr.ownsRow b e sz v n xs) (he : e ≠ 38 ) (hg : wr.grownBy w' v.ownBlock) : Blk w' b1 38 [.string ⟨nm.toArray⟩, vs, vr, vy] :=
  Blk.grown h.box hg fun e => own_ne_blk ho h.box he b1 e.symm rfl

theorem leg_facts {n m : Nat} {ts : List Tok} {d : Int} {st1 st2 st3 : St} {m3 : List UInt8} (h1 : numS (some ts) = (d, st1)) (h2 : st2 = overS n st1) (h3 : nameS st2 = (m3, st3)) (he : EndL ts) (hn : n ≤ 32) :
    (∀ r, st3 = some r → EndL r ∧ r.length < ts.length ∧ n ≤ 31) := by
  intro r hr
  have e3 : (nameS st2).2 = some r := by rw [h3]; exact hr
  obtain ⟨r2, k1, k2, k3⟩ := suf_name st2 r e3
  have k1' := k1
  rw [h2] at k1'
  obtain ⟨r1, l1, l2, l3⟩ := suf_over n st1 r2 k1'
  have e1 : (numS (some ts)).2 = some r1 := by rw [h1]; exact l1
  obtain ⟨r0, q1, q2, q3⟩ := suf_num (some ts) r1 e1
  injection q1 with q1; subst q1
  refine ⟨k3 (l3 (q3 he)), ?_, ?_⟩
  · have a := num_less e1
    have b := k2.length_le
    have c := l2.length_le
    omega
  · rcases Nat.lt_or_ge n 32 with h | h
    · omega
    · exfalso
      have hn32 : n = 32 := by omega
      rw [l1, over_some] at k1'
      split at k1'
      · cases k1'
      · rename_i hno
        injection k1' with k1'; subst k1'
        rw [k1] at e3
        obtain ⟨t, q, rfl⟩ : ∃ t q, r1 = t :: q := by
          cases r1 with
          | nil => cases e3
          | cons t q => exact ⟨t, q, rfl⟩
        have e4 : (takeS 1 [] (some (t :: q))).2 = some r := e3
        rw [take_cons] at e4
        split at e4
        · rename_i hk; exact hno ⟨hn32, hk.1⟩
        · cases e4

def legQ (m : Nat) (g : LegS) (mm : List UInt8) (d : Int) : St → LegS × St
  | none => (⟨g.stops ++ [mm], g.rides ++ [d], g.stays⟩, none)
  | some r => if (nowL r).kind = 4 then (⟨g.stops ++ [mm], g.rides ++ [d], g.stays⟩, some r) else legsS m (stayS r).2 ⟨g.stops ++ [mm], g.rides ++ [d], g.stays ++ [(stayS r).1]⟩
theorem legs_q {m : Nat} {g : LegS} {ts : List Tok} {d : Int} {mm : List UInt8} {st1 st2 st3 : St} (h1 : numS (some ts) = (d, st1)) (h2 : st2 = overS g.stops.length st1) (h3 : nameS st2 = (mm, st3)) : legsS (m + 1) (some ts) g = legQ m g mm d st3 := by
  rw [legs_succ, h1]
  dsimp only
  rw [← h2, h3]
  cases st3 <;> rfl

set_option maxHeartbeats 16000000 in
theorem route_go {w : World} {B : Nat} {toks : List Tok} {st : St} {q : List Value} (h : RCur w B toks q st) (he : ∀ ts, st = some ts → EndL ts) :
    Calls Tryz.prog 119 #[.pointer (some ⟨B, 0, none⟩)] w (RtPos w B toks q (routeS st)) := by
  have hB := h.lt
  obtain ⟨nm, hnm⟩ : ∃ x, x = (nameS st).1 := ⟨_, rfl⟩
  obtain ⟨st1, hst1⟩ : ∃ x, x = (nameS st).2 := ⟨_, rfl⟩
  obtain ⟨mm, hmm⟩ : ∃ x, x = (nameS st1).1 := ⟨_, rfl⟩
  obtain ⟨st2, hst2⟩ : ∃ x, x = (nameS st1).2 := ⟨_, rfl⟩
  obtain ⟨R, hR⟩ : ∃ x, x = legsS (lenS st2 + 1) st2 ⟨[mm], [], []⟩ := ⟨_, rfl⟩
  have hy : routeS st = (⟨nm, R.1.stops, R.1.rides, R.1.stays⟩, R.2) := by rw [hR, hst2, hmm, hst1, hnm]; rfl
  rw [hy]
  have HE2 : Hid (∀ ts, st2 = some ts → EndL ts) := Lib.hid (by rw [hst2, hst1]; exact suf_end ((suf_name st).trans (suf_name _)) he)
  have HRR := Lib.hid hR
  have HNM1 : Hid (∀ w', RCur w' B toks q st → Calls Tryz.prog 117 #[.pointer (some ⟨B, 0, none⟩)] w' (RPos w' B toks q (.string ⟨nm.toArray⟩) st1)) := Lib.hid (fun w' hw => by rw [hnm, hst1]; exact name_go hw)
  have HNM2 : Hid (∀ w', RCur w' B toks q st1 → Calls Tryz.prog 117 #[.pointer (some ⟨B, 0, none⟩)] w' (RPos w' B toks q (.string ⟨mm.toArray⟩) st2)) := Lib.hid (fun w' hw => by rw [hmm, hst2]; exact name_go hw)
  clear hy hR hst2 hmm hst1 hnm he
  obtain ⟨b0, hb0⟩ : ∃ b0, b0 = w.heap.size := ⟨_, rfl⟩
  have KX0 := Lib.hid (Blk.new w 38 [.string ⟨#[]⟩, .slice none 0 0, .slice none 0 0, .slice none 0 0])
  have HR0 := Lib.hid (h.after (one_box w (.cells #[.string ⟨#[]⟩, .slice none 0 0, .slice none 0 0, .slice none 0 0] 38 )))
  have HC0 := Lib.hid ((Ch.refl (· = B) w).alloc (.cells #[.string ⟨#[]⟩, .slice none 0 0, .slice none 0 0, .slice none 0 0] 38 ))
  have HG0 : Hid (w.heap.size ≤ b0) := Lib.hid (by omega)
  clear h
  go_enter Tryz.func119, Tryz.ntmps119
  go_upto_region 1 with (fail)
  rw [← hb0] at KX0 ⊢
  clear hb0
  dsimp only [List.toArray] at KX0
  generalize w.alloc (.cells #[.string ⟨#[]⟩, .slice none 0 0, .slice none 0 0, .slice none 0 0] 38 ) = W0 at KX0 HR0 HC0 ⊢
  go_upto_region 2 with (first
    | (go_at_call 117; (refine (HNM1.out _ HR0.out).mono ?_); rintro e u1 ⟨rfl, h1, c1⟩; have KU0 := Lib.hid (c1.blk KX0.out (by have := HG0.out; omega)); have HU1 := Lib.hid h1; have CU1 := Lib.hid (HC0.out.trans c1); clear h1 c1)
    | fail)
  obtain ⟨W1, hW1⟩ : ∃ W, W = u1.alloc (.cells #[.string ⟨nm.toArray⟩, .slice none 0 0, .slice none 0 0, .slice none 0 0] 38 ) := ⟨_, rfl⟩
  obtain ⟨b1, hb1⟩ : ∃ b, b = u1.heap.size := ⟨_, rfl⟩
  have HZ1 : Hid (LegZ w B b0 b1 toks q nm ⟨[], [], []⟩ (.slice none 0 0) (.slice none 0 0) (.slice none 0 0) st1 W1) := Lib.hid (by
    rw [hW1, hb1]
    exact ⟨HU1.out.after (one_box _ _), KU0.out.alloc _, Blk.new u1 _ _, World.ownsRow_nil _ _ _ _, World.ownsRow_nil _ _ _ _, World.ownsRow_nil _ _ _ _, (fun k hk => by cases hk), CU1.out.alloc _, hB, HG0.out, KU0.out.lt⟩)
  rw [← hW1, ← hb1]
  clear hW1 hb1
  obtain ⟨g, hg⟩ : ∃ g : LegS, g = ⟨[], [], []⟩ := ⟨_, rfl⟩
  obtain ⟨As, n1, c1, ev⟩ : ∃ (A : Option Addr) (n c : Nat), (Value.slice A n c) = .slice none 0 0 := ⟨_, _, _, rfl⟩
  have HN1 : Hid (n1 = g.stops.length) := Lib.hid (by injection ev with _ e _; rw [hg, e]; rfl)
  have HGG := Lib.hid hg
  have hn1 : n1 ≤ 32 := by injection ev with _ e _; omega
  obtain ⟨W, hW⟩ : ∃ W, W = W1 := ⟨_, rfl⟩
  have HZ : Hid (LegZ w B b0 b1 toks q nm g (.slice As n1 c1) (.slice none 0 0) (.slice none 0 0) st1 W) := Lib.hid (by rw [ev, hW, hg]; exact HZ1.out)
  have e0 : W.cell? ⟨b1, 1, none⟩ = some (.slice As n1 c1) := HZ.out.box.cell 1
  rw [← hW]
  clear hW hg ev e0 HZ1
  have HNM3 : Hid (∀ w', Ch (fun _ => False) W w' → Calls Tryz.prog 117 #[.pointer (some ⟨B, 0, none⟩)] w' (RPos w' B toks q (.string ⟨mm.toArray⟩) st2)) := Lib.hid (fun w' hw => HNM2.out w' (HZ.out.cur.ch hw fun _ _ => id))
  go_cut [15] (fun s15 wx => ∃ A' c', LegZ w B b0 b1 toks q nm { g with stops := g.stops ++ [mm] } (.slice A' (n1 + 1) c') (.slice none 0 0) (.slice none 0 0) st2 wx)
  case first =>
    have k1 : W.cell? ⟨b1, 1, none⟩ = some (.slice As n1 c1) := HZ.out.box.cell 1
    have k1' : ∀ o, (W.alloc o).cell? ⟨b1, 1, none⟩ = some (.slice As n1 c1) := fun o => (HZ.out.box.alloc o).cell 1
    go_region_law (first
      | (refine step_append_g (by rfl) (.tmp 10) (.tmp 13) 22 (by rfl) w.heap.size 9 _ 1 16 Tryz.underlying22 info_Str rfl (by omega) (by omega) _ n1 (cs strC g.stops) (by rfl) (Lib.hid (own_after OV3.out (by repeat (first | exact Below.refl _ _ | exact one_box _ _ | refine below_drewN ?_ _ | refine below_drew ?_ | refine Below.alloc ?_ (by first | omega | (simp; done) | (simp; omega)) _)))) _ _ 1 1 [.string ⟨mm.toArray⟩] (by rfl) (Lib.hid rfl) (by first | exact Lib.hid (litd_at2 _ _ _ _ _ (by simp) rfl) | exact Lib.hid (lit_at _ _ _ _ _ (by simp) rfl)) (by simp [Value.oneCell']) (by omega) (by first | omega | (have := HZ3.out.ch.size; simp; omega)) ?_; intro v' w6 hown hgrow hob; obtain ⟨A', c', rfl, -, -⟩ := own_form hown.out; have KB6 := Lib.hid ((HZ3.out.old (by repeat (first | exact Ch.refl _ _ | refine Ch.drew ?_ | refine Ch.drewN ?_ _ | refine Ch.alloc ?_ _))).boxg (own_after OV3.out (by repeat (first | exact Below.refl _ _ | exact one_box _ _ | refine below_drewN ?_ _ | refine below_drew ?_ | refine Below.alloc ?_ (by first | omega | (simp; done) | (simp; omega)) _))) (by decide) hgrow.out); have k6 : w6.cell? ⟨b1, 1, none⟩ = some (.slice As n1 c1) := KB6.out.cell 1; have f6 : w6.frozen? ⟨b1, 1, none⟩ = false := KB6.out.frozen 1)
      | (go_simp; go_at_call 117; refine (HNM3.out _ (by repeat (first | exact Ch.refl _ _ | refine Ch.drew ?_ | refine Ch.drewN ?_ _ | refine Ch.alloc ?_ _))).mono ?_; rintro e w3 ⟨rfl, h3, c3⟩; have HZ3 := Lib.hid ((HZ.out.old (w' := _) (by repeat (first | exact Ch.refl _ _ | refine Ch.drew ?_ | refine Ch.drewN ?_ _ | refine Ch.alloc ?_ _))).on h3 c3); have OV3 : Hid (w3.ownsRow w.heap.size 9 1 (.slice As n1 c1) n1 (cs strC g.stops)) := Lib.hid (by have hh := HZ3.out.os; rw [← HN1.out] at hh; exact hh); have k3 : w3.cell? ⟨b1, 1, none⟩ = some (.slice As n1 c1) := HZ3.out.box.cell 1; have k3' : ∀ o, (w3.alloc o).cell? ⟨b1, 1, none⟩ = some (.slice As n1 c1) := (fun o => (HZ3.out.box.alloc o).cell 1); clear h3 c3)
      | fail)
    all_goals
      have HZ6 := Lib.hid (LegZ.stop (HZ3.out.old (by repeat (first | exact Ch.refl _ _ | refine Ch.drew ?_ | refine Ch.drewN ?_ _ | refine Ch.alloc ?_ _))) (d := mm) (by have hh := hown.out; rw [HN1.out] at hh ⊢; exact hh) hgrow.out hob.out)
      go_wp2_with fail
      go_meet
      exact ⟨A', c', HZ6.out⟩
  case rest =>
    obtain ⟨A8, c8, hL8⟩ := hcut
    have HL8 : Hid (LegZ w B b0 b1 toks q nm ⟨[mm], [], []⟩ (.slice A8 (n1 + 1) c8) (.slice none 0 0) (.slice none 0 0) st2 wc) := Lib.hid (by have hh := hL8; rw [HGG.out] at hh; exact hh)
    clear hL8 HZ HNM3 HNM1 HNM2
    clear HN1 HGG hn1
    go_wp2
    go_loopg [] (lenS st2) (fun k wr => LegRelZ w B b0 b1 toks q nm R k wr)
    case atStart => exact ⟨⟨[mm], [], []⟩, _, _, _, st2, lenS st2 + 1, HL8, Lib.hid HRR.out.symm, rfl, by omega, HE2, by simp, rfl, rfl⟩
    case round =>
      obtain ⟨g, vs, vr, vy, st, m, HL, HQ0, hk, hm, HE, hl1, hl2, hl3⟩ := hrel
      obtain ⟨As, c1, rfl, -, -⟩ := own_form HL.out.os
      obtain ⟨Ar, c2, rfl, -, -⟩ := own_form HL.out.orr
      obtain ⟨Ay, c3, rfl, -, -⟩ := own_form HL.out.oy
      obtain ⟨n1, hn1⟩ : ∃ n1, n1 = g.stops.length := ⟨_, rfl⟩
      obtain ⟨n2, hn2⟩ : ∃ n2, n2 = g.rides.length := ⟨_, rfl⟩
      obtain ⟨n3, hn3⟩ : ∃ n3, n3 = g.stays.length := ⟨_, rfl⟩
      rw [← hn1, ← hn2, ← hn3] at HL
      have HN1 := Lib.hid hn1
      have HN2 := Lib.hid hn2
      have HN3 := Lib.hid hn3
      rw [← hn1] at hl1 hl2 hl3
      rw [← hn2] at hl2
      rw [← hn3] at hl3
      have HLE := Lib.hid (And.intro hl2 hl3)
      have hn2b : n2 ≤ 31 := by omega
      have hn3b : n3 ≤ 31 := by omega
      clear hn1 hn2 hn3 hl2 hl3
      have hne01 : b0 ≠ b1 := by have := HL.out.h1; omega
      have hne10 : b1 ≠ b0 := by have := HL.out.h1; omega
      have CG0 := Lib.hid (good_go HL.out.cur)
      rcases st with _ | ts
      · have HQ : Hid (R = (g, none)) := Lib.hid (by rw [← HQ0.out, legs_none])
        have x0 : wr.cell? ⟨b1, 0, none⟩ = some (.string ⟨nm.toArray⟩) := HL.out.box.cell 0
        have x1 : wr.cell? ⟨b1, 1, none⟩ = some (.slice As n1 c1) := HL.out.box.cell 1
        have x2 : wr.cell? ⟨b1, 2, none⟩ = some (.slice Ar n2 c2) := HL.out.box.cell 2
        have x3 : wr.cell? ⟨b1, 3, none⟩ = some (.slice Ay n3 c3) := HL.out.box.cell 3
        have y0 : wr.cell? ⟨b0, 0, none⟩ = some (.string ⟨#[]⟩) := HL.out.res.cell 0
        have y1 : wr.cell? ⟨b0, 1, none⟩ = some (.slice none 0 0) := HL.out.res.cell 1
        have y2 : wr.cell? ⟨b0, 2, none⟩ = some (.slice none 0 0) := HL.out.res.cell 2
        have y3 : wr.cell? ⟨b0, 3, none⟩ = some (.slice none 0 0) := HL.out.res.cell 3
        have xf := HL.out.box.frozen
        have yf := HL.out.res.frozen
        go_wp2_with (first
          | (go_at_call 61; (refine CG0.out.mono ?_); rintro e w9 ⟨rfl, rfl⟩)
          | fail)
        refine bodyPost_ret (route_res rfl (set4 HL.out.res _ _ _ _)) rfl ?_
        exact HL.out.fin HN1.out HN2.out HN3.out (by rw [HQ.out])
      · obtain ⟨d, st1, hds⟩ : ∃ d st1, numS (some ts) = (d, st1) := ⟨_, _, rfl⟩
        obtain ⟨st2, hst2⟩ : ∃ s, s = overS g.stops.length st1 := ⟨_, rfl⟩
        obtain ⟨mm, st3, hms⟩ : ∃ a b, nameS st2 = (a, b) := ⟨_, _, rfl⟩
        obtain ⟨m', rfl⟩ : ∃ m', m = m' + 1 := ⟨m - 1, by omega⟩
        have hke := hk
        change _ = ts.length at hke
        have HF := Lib.hid (leg_facts (m := 0) hds hst2 hms (HE.out ts rfl) (by rw [← HN1.out]; exact hl1))
        rw [← HN1.out] at HF
        have HQ1 : Hid (R = legQ m' g mm d st3) := Lib.hid (by rw [← HQ0.out]; exact legs_q hds hst2 hms)
        have HNM : Hid (∀ w', RCur w' B toks q st2 → Calls Tryz.prog 117 #[.pointer (some ⟨B, 0, none⟩)] w' (RPos w' B toks q (.string ⟨mm.toArray⟩) st3)) := Lib.hid (fun w' hw => by have hh := name_go hw; rw [hms] at hh; exact hh)
        have CNU : Hid (Calls Tryz.prog 59 #[.pointer (some ⟨B, 0, none⟩)] wr (RPos wr B toks q (.int .i64 d) st1)) := Lib.hid (by have hh := num_go HL.out.cur; rw [hds] at hh; exact hh)
        have HOV : Hid (st2 = if ovB n1 st1 = true then none else st1) := Lib.hid (by rw [hst2, over_eq, HN1.out])
        clear hds hst2 hms HQ0 HE hk
        go_upto_region 5 with (first
          | (go_at_call 61; (refine CG0.out.mono ?_); rintro e w9 ⟨rfl, rfl⟩)
          | (go_at_call 59; (with_reducible refine CNU.out.mono ?_); rintro e u1 ⟨rfl, h1, d1⟩; have HL1 := Lib.hid (HL.out.on h1 d1); clear h1 d1)
          | fail)
        clear CG0 CNU HL
        go_cut [33] (fun s33 wx => s33 = .bool (ovB n1 st1) ∧ LegZ w B b0 b1 toks q nm g (.slice As n1 c1) (.slice Ar n2 c2) (.slice Ay n3 c3) st1 wx)
        case first =>
          have CG1 := Lib.hid (good_go HL1.out.cur)
          have x1 : u1.cell? ⟨b1, 1, none⟩ = some (.slice As n1 c1) := HL1.out.box.cell 1
          have hfl := fun a b c d e w => field_tok0 a b c d e w
          by_cases h32 : n1 = 32
          · have h32b : ((n1 : Int) == 32) = true := by rw [beq_iff_eq]; omega
            rcases st1 with _ | r
            · go_wp2_with (first
                | (go_at_call 61; (refine CG1.out.mono ?_); rintro e w9 ⟨rfl, rfl⟩)
                | fail)
              go_meet
              exact ⟨rfl, HL1.out⟩
            · obtain ⟨t, ht⟩ : ∃ t, nowL r = t := ⟨_, rfl⟩
              obtain ⟨tk, tt, tn, tl, tc_⟩ := t
              have CN : Hid (Calls Tryz.prog 90 #[.pointer (some ⟨B, 0, none⟩)] u1 fun e w' => e = .returned (.agg #[.int .i64 tk, .string ⟨tt.toArray⟩, .int .i64 tn, .int .i64 tl, .int .i64 tc_]) ∧ Below u1.heap.size u1 w') := Lib.hid (now_good HL1.out.cur _ ht)
              have HOB : Hid (ovB n1 (some r) = (tk == 1)) := Lib.hid (by unfold ovB; simp only [ht]; rw [h32]; rfl)
              clear ht
              go_wp2_with (first
                | (go_at_call 61; (refine CG1.out.mono ?_); rintro e w9 ⟨rfl, rfl⟩)
                | (go_at_call 90; (refine CN.out.mono ?_); rintro e w8 ⟨rfl, h8⟩; have HL8 := Lib.hid (HL1.out.old (.of_below h8)); clear h8)
                | fail)
              go_meet
              exact ⟨by rw [HOB.out], HL8.out⟩
          · have h32b : ((n1 : Int) == 32) = false := by rw [beq_eq_false_iff_ne]; omega
            go_wp2_with (first
              | (go_at_call 61; (refine CG1.out.mono ?_); rintro e w9 ⟨rfl, rfl⟩)
              | fail)
            go_meet
            exact ⟨by
              have : (n1 == 32) = false := by rw [beq_eq_false_iff_ne]; exact h32
              cases st1 with
              | none => rfl
              | some r => unfold ovB; rw [this]; rfl, HL1.out⟩
        case rest =>
          obtain ⟨rfl, hL2⟩ := hcut
          have HL2 := Lib.hid hL2
          clear hL2 HL1
          cases hov : ovB n1 st1 with
          | true =>
            rw [hov, if_pos rfl] at HOV
            have h2 := HOV.out
            subst h2
            clear HOV
            have hst3 : st3 = none := by
              cases st3 with
              | none => rfl
              | some r => exact absurd (HF.out r rfl).2.2 (by
                  have hn : (n1 == 32) = true := by
                    cases st1 with
                    | none => cases hov
                    | some q => unfold ovB at hov; rw [Bool.and_eq_true] at hov; exact hov.1
                  have : n1 = 32 := by simpa using hn
                  omega)
            subst hst3
            have CN1 := Lib.hid (now_any HL2.out.cur)
            go_upto_region 7 with (first
              | (go_at_call 90; (refine CN1.out.mono ?_); rintro e w8 ⟨t, rfl, -, h8⟩; obtain ⟨tk, tt, tn, tl, tc_⟩ := t; have HL8 := Lib.hid (HL2.out.old (.of_below h8)); have CF : Hid (Calls Tryz.prog 91 #[.pointer (some ⟨B, 0, none⟩), .int .i64 3, .agg #[.int .i64 tk, .string ⟨tt.toArray⟩, .int .i64 tn, .int .i64 tl, .int .i64 tc_]] w8 (fun e w' => e = .returned (.tuple #[]) ∧ RCur w' B toks q none ∧ Ch (· = B) w8 w')) := Lib.hid (fail_any HL8.out.cur 3 (by decide) ⟨tk, tt, tn, tl, tc_⟩); clear h8)
              | (go_at_call 91; (with_reducible refine CF.out.mono ?_); rintro e W3 ⟨rfl, h9, c9⟩; have HL3 := Lib.hid (HL8.out.on h9 c9); clear h9 c9)
              | fail)
            have st2 : St := none
            have HQ : Hid (R = (⟨g.stops ++ [mm], g.rides ++ [d], g.stays⟩, none)) := Lib.hid HQ1.out
            have OR3 : Hid (W3.ownsRow w.heap.size 2 1 (.slice Ar n2 c2) n2 (cs intC g.rides)) := Lib.hid (by have hh := HL3.out.orr; rw [← HN2.out] at hh; exact hh)
            have hszr : w.heap.size ≤ W3.heap.size := HL3.out.ch.size
            have x2 : W3.cell? ⟨b1, 2, none⟩ = some (.slice Ar n2 c2) := HL3.out.box.cell 2
            go_upto_region 8 with (at_builtin; refine wpList_append_ch rfl (.tmp 39) (.tmp 41) 36 rfl w.heap.size 2 _ 1 8 Tryz.underlying36 info_int64 rfl (by omega) (by omega) (.slice Ar n2 c2) n2 (cs intC g.rides) rfl (OR3.out.alloc _) _ _ 1 1 [.int .i64 d] rfl rfl (lit_at _ _ _ _ _ (by simp) rfl) (by simp [Value.oneCell']) (by omega) (by simp; omega) ?_; intro v' w5 hown5 hg5 hob5; obtain ⟨Ar', cr', rfl, -, -⟩ := own_form hown5.out; have KB5 := Lib.hid ((HL3.out.old (by repeat (first | exact Ch.refl _ _ | refine Ch.drew ?_ | refine Ch.drewN ?_ _ | refine Ch.alloc ?_ _))).boxg (OR3.out.alloc _) (by decide) hg5.out); have k5 : w5.cell? ⟨b1, 2, none⟩ = some (.slice Ar n2 c2) := KB5.out.cell 2; have f5 : w5.frozen? ⟨b1, 2, none⟩ = false := KB5.out.frozen 2)
            have HZ : Hid (LegZ w B b0 b1 toks q nm { g with rides := g.rides ++ [d] } (.slice As n1 c1) (.slice Ar' (n2 + 1) cr') (.slice Ay n3 c3) none (w5.setCell ⟨b1, 2, none⟩ (.slice Ar' (n2 + 1) cr'))) := Lib.hid ((HL3.out.old (by repeat (first | exact Ch.refl _ _ | refine Ch.drew ?_ | refine Ch.drewN ?_ _ | refine Ch.alloc ?_ _))).ride (d := d) (by have hh := hown5.out; rw [HN2.out] at hh ⊢; exact hh) hg5.out hob5.out)
            generalize w5.setCell ⟨b1, 2, none⟩ (.slice Ar' (n2 + 1) cr') = W at HZ ⊢
            clear x2 k5 f5
            have HNM3 : Hid (∀ w', Ch (fun _ => False) W w' → Calls Tryz.prog 117 #[.pointer (some ⟨B, 0, none⟩)] w' (RPos w' B toks q (.string ⟨mm.toArray⟩) none)) := Lib.hid (fun w' hw => HNM.out w' (HZ.out.cur.ch hw fun _ _ => id))
            go_cut [50] (fun s50 wx => ∃ A' c', LegZ w B b0 b1 toks q nm ⟨g.stops ++ [mm], g.rides ++ [d], g.stays⟩ (.slice A' (n1 + 1) c') (.slice Ar' (n2 + 1) cr') (.slice Ay n3 c3) none wx)
            case first =>
              have k1 : W.cell? ⟨b1, 1, none⟩ = some (.slice As n1 c1) := HZ.out.box.cell 1
              have k1' : ∀ o, (W.alloc o).cell? ⟨b1, 1, none⟩ = some (.slice As n1 c1) := fun o => (HZ.out.box.alloc o).cell 1
              go_region_law (first
                | (refine step_append_g (by rfl) (.tmp 45) (.tmp 48) 22 (by rfl) w.heap.size 9 _ 1 16 Tryz.underlying22 info_Str rfl (by omega) (by omega) _ n1 (cs strC g.stops) (by rfl) (Lib.hid (own_after OV3.out (by repeat (first | exact Below.refl _ _ | exact one_box _ _ | refine below_drewN ?_ _ | refine below_drew ?_ | refine Below.alloc ?_ (by first | omega | (simp; done) | (simp; omega)) _)))) _ _ 1 1 [.string ⟨mm.toArray⟩] (by rfl) (Lib.hid rfl) (by first | exact Lib.hid (litd_at2 _ _ _ _ _ (by simp) rfl) | exact Lib.hid (lit_at _ _ _ _ _ (by simp) rfl)) (by simp [Value.oneCell']) (by omega) (by first | omega | (have := HZ3.out.ch.size; simp; omega)) ?_; intro v' w6 hown hgrow hob; obtain ⟨A', c', rfl, -, -⟩ := own_form hown.out; have KB6 := Lib.hid ((HZ3.out.old (by repeat (first | exact Ch.refl _ _ | refine Ch.drew ?_ | refine Ch.drewN ?_ _ | refine Ch.alloc ?_ _))).boxg (own_after OV3.out (by repeat (first | exact Below.refl _ _ | exact one_box _ _ | refine below_drewN ?_ _ | refine below_drew ?_ | refine Below.alloc ?_ (by first | omega | (simp; done) | (simp; omega)) _))) (by decide) hgrow.out); have k6 : w6.cell? ⟨b1, 1, none⟩ = some (.slice As n1 c1) := KB6.out.cell 1; have f6 : w6.frozen? ⟨b1, 1, none⟩ = false := KB6.out.frozen 1)
                | (go_simp; go_at_call 117; refine (HNM3.out _ (by repeat (first | exact Ch.refl _ _ | refine Ch.drew ?_ | refine Ch.drewN ?_ _ | refine Ch.alloc ?_ _))).mono ?_; rintro e w3 ⟨rfl, h3, c3⟩; have HZ3 := Lib.hid ((HZ.out.old (w' := _) (by repeat (first | exact Ch.refl _ _ | refine Ch.drew ?_ | refine Ch.drewN ?_ _ | refine Ch.alloc ?_ _))).on h3 c3); have OV3 : Hid (w3.ownsRow w.heap.size 9 1 (.slice As n1 c1) n1 (cs strC g.stops)) := Lib.hid (by have hh := HZ3.out.os; rw [← HN1.out] at hh; exact hh); have k3 : w3.cell? ⟨b1, 1, none⟩ = some (.slice As n1 c1) := HZ3.out.box.cell 1; have k3' : ∀ o, (w3.alloc o).cell? ⟨b1, 1, none⟩ = some (.slice As n1 c1) := (fun o => (HZ3.out.box.alloc o).cell 1); clear h3 c3)
                | fail)
              all_goals
                have HZ6 := Lib.hid (LegZ.stop (HZ3.out.old (by repeat (first | exact Ch.refl _ _ | refine Ch.drew ?_ | refine Ch.drewN ?_ _ | refine Ch.alloc ?_ _))) (d := mm) (by have hh := hown.out; rw [HN1.out] at hh ⊢; exact hh) hgrow.out hob.out)
                go_wp2_with fail
                go_meet
                exact ⟨A', c', HZ6.out⟩
            case rest =>
              obtain ⟨As', cs', hL7⟩ := hcut
              have HL7 := Lib.hid hL7
              clear hL7
              have CG := Lib.hid (good_go HL7.out.cur)
              have x0 : wc.cell? ⟨b1, 0, none⟩ = some (.string ⟨nm.toArray⟩) := HL7.out.box.cell 0
              have x1 : wc.cell? ⟨b1, 1, none⟩ = some (.slice As' (n1 + 1) cs') := HL7.out.box.cell 1
              have x2 : wc.cell? ⟨b1, 2, none⟩ = some (.slice Ar' (n2 + 1) cr') := HL7.out.box.cell 2
              have x3 : wc.cell? ⟨b1, 3, none⟩ = some (.slice Ay n3 c3) := HL7.out.box.cell 3
              have y0 : wc.cell? ⟨b0, 0, none⟩ = some (.string ⟨#[]⟩) := HL7.out.res.cell 0
              have y1 : wc.cell? ⟨b0, 1, none⟩ = some (.slice none 0 0) := HL7.out.res.cell 1
              have y2 : wc.cell? ⟨b0, 2, none⟩ = some (.slice none 0 0) := HL7.out.res.cell 2
              have y3 : wc.cell? ⟨b0, 3, none⟩ = some (.slice none 0 0) := HL7.out.res.cell 3
              have xf := HL7.out.box.frozen
              have yf := HL7.out.res.frozen
              go_wp2_with (first
                | (go_at_call 61; (refine CG.out.mono ?_); rintro e w9 ⟨rfl, rfl⟩)
                | fail)
              refine bodyPost_ret (route_res rfl (set4 HL7.out.res _ _ _ _)) rfl ?_
              exact HL7.out.fin (by rw [HN1.out]; simp) (by rw [HN2.out]; simp) HN3.out (by rw [HQ.out])
          | false =>
            rw [hov, if_neg (by decide)] at HOV
            have h2 := HOV.out
            subst h2
            clear HOV
            obtain ⟨W3, hW3⟩ : ∃ W3, W3 = wc := ⟨_, rfl⟩
            have HL3 : Hid (LegZ w B b0 b1 toks q nm g (.slice As n1 c1) (.slice Ar n2 c2) (.slice Ay n3 c3) st2 W3) := Lib.hid (by rw [hW3]; exact HL2.out)
            rw [← hW3]
            clear hW3 HL2
            have OR3 : Hid (W3.ownsRow w.heap.size 2 1 (.slice Ar n2 c2) n2 (cs intC g.rides)) := Lib.hid (by have hh := HL3.out.orr; rw [← HN2.out] at hh; exact hh)
            have hszr : w.heap.size ≤ W3.heap.size := HL3.out.ch.size
            have x2 : W3.cell? ⟨b1, 2, none⟩ = some (.slice Ar n2 c2) := HL3.out.box.cell 2
            go_upto_region 8 with (at_builtin; refine wpList_append_ch rfl (.tmp 39) (.tmp 41) 36 rfl w.heap.size 2 _ 1 8 Tryz.underlying36 info_int64 rfl (by omega) (by omega) (.slice Ar n2 c2) n2 (cs intC g.rides) rfl (OR3.out.alloc _) _ _ 1 1 [.int .i64 d] rfl rfl (lit_at _ _ _ _ _ (by simp) rfl) (by simp [Value.oneCell']) (by omega) (by simp; omega) ?_; intro v' w5 hown5 hg5 hob5; obtain ⟨Ar', cr', rfl, -, -⟩ := own_form hown5.out; have KB5 := Lib.hid ((HL3.out.old (by repeat (first | exact Ch.refl _ _ | refine Ch.drew ?_ | refine Ch.drewN ?_ _ | refine Ch.alloc ?_ _))).boxg (OR3.out.alloc _) (by decide) hg5.out); have k5 : w5.cell? ⟨b1, 2, none⟩ = some (.slice Ar n2 c2) := KB5.out.cell 2; have f5 : w5.frozen? ⟨b1, 2, none⟩ = false := KB5.out.frozen 2)
            have HZ : Hid (LegZ w B b0 b1 toks q nm { g with rides := g.rides ++ [d] } (.slice As n1 c1) (.slice Ar' (n2 + 1) cr') (.slice Ay n3 c3) st2 (w5.setCell ⟨b1, 2, none⟩ (.slice Ar' (n2 + 1) cr'))) := Lib.hid ((HL3.out.old (by repeat (first | exact Ch.refl _ _ | refine Ch.drew ?_ | refine Ch.drewN ?_ _ | refine Ch.alloc ?_ _))).ride (d := d) (by have hh := hown5.out; rw [HN2.out] at hh ⊢; exact hh) hg5.out hob5.out)
            generalize w5.setCell ⟨b1, 2, none⟩ (.slice Ar' (n2 + 1) cr') = W at HZ ⊢
            clear x2 k5 f5
            have HNM3 : Hid (∀ w', Ch (fun _ => False) W w' → Calls Tryz.prog 117 #[.pointer (some ⟨B, 0, none⟩)] w' (RPos w' B toks q (.string ⟨mm.toArray⟩) st3)) := Lib.hid (fun w' hw => HNM.out w' (HZ.out.cur.ch hw fun _ _ => id))
            go_cut [50] (fun s50 wx => ∃ A' c', LegZ w B b0 b1 toks q nm ⟨g.stops ++ [mm], g.rides ++ [d], g.stays⟩ (.slice A' (n1 + 1) c') (.slice Ar' (n2 + 1) cr') (.slice Ay n3 c3) st3 wx)
            case first =>
              have k1 : W.cell? ⟨b1, 1, none⟩ = some (.slice As n1 c1) := HZ.out.box.cell 1
              have k1' : ∀ o, (W.alloc o).cell? ⟨b1, 1, none⟩ = some (.slice As n1 c1) := fun o => (HZ.out.box.alloc o).cell 1
              go_region_law (first
                | (refine step_append_g (by rfl) (.tmp 45) (.tmp 48) 22 (by rfl) w.heap.size 9 _ 1 16 Tryz.underlying22 info_Str rfl (by omega) (by omega) _ n1 (cs strC g.stops) (by rfl) (Lib.hid (own_after OV3.out (by repeat (first | exact Below.refl _ _ | exact one_box _ _ | refine below_drewN ?_ _ | refine below_drew ?_ | refine Below.alloc ?_ (by first | omega | (simp; done) | (simp; omega)) _)))) _ _ 1 1 [.string ⟨mm.toArray⟩] (by rfl) (Lib.hid rfl) (by first | exact Lib.hid (litd_at2 _ _ _ _ _ (by simp) rfl) | exact Lib.hid (lit_at _ _ _ _ _ (by simp) rfl)) (by simp [Value.oneCell']) (by omega) (by first | omega | (have := HZ3.out.ch.size; simp; omega)) ?_; intro v' w6 hown hgrow hob; obtain ⟨A', c', rfl, -, -⟩ := own_form hown.out; have KB6 := Lib.hid ((HZ3.out.old (by repeat (first | exact Ch.refl _ _ | refine Ch.drew ?_ | refine Ch.drewN ?_ _ | refine Ch.alloc ?_ _))).boxg (own_after OV3.out (by repeat (first | exact Below.refl _ _ | exact one_box _ _ | refine below_drewN ?_ _ | refine below_drew ?_ | refine Below.alloc ?_ (by first | omega | (simp; done) | (simp; omega)) _))) (by decide) hgrow.out); have k6 : w6.cell? ⟨b1, 1, none⟩ = some (.slice As n1 c1) := KB6.out.cell 1; have f6 : w6.frozen? ⟨b1, 1, none⟩ = false := KB6.out.frozen 1)
                | (go_simp; go_at_call 117; refine (HNM3.out _ (by repeat (first | exact Ch.refl _ _ | refine Ch.drew ?_ | refine Ch.drewN ?_ _ | refine Ch.alloc ?_ _))).mono ?_; rintro e w3 ⟨rfl, h3, c3⟩; have HZ3 := Lib.hid ((HZ.out.old (w' := _) (by repeat (first | exact Ch.refl _ _ | refine Ch.drew ?_ | refine Ch.drewN ?_ _ | refine Ch.alloc ?_ _))).on h3 c3); have OV3 : Hid (w3.ownsRow w.heap.size 9 1 (.slice As n1 c1) n1 (cs strC g.stops)) := Lib.hid (by have hh := HZ3.out.os; rw [← HN1.out] at hh; exact hh); have k3 : w3.cell? ⟨b1, 1, none⟩ = some (.slice As n1 c1) := HZ3.out.box.cell 1; have k3' : ∀ o, (w3.alloc o).cell? ⟨b1, 1, none⟩ = some (.slice As n1 c1) := (fun o => (HZ3.out.box.alloc o).cell 1); clear h3 c3)
                | fail)
              all_goals
                have HZ6 := Lib.hid (LegZ.stop (HZ3.out.old (by repeat (first | exact Ch.refl _ _ | refine Ch.drew ?_ | refine Ch.drewN ?_ _ | refine Ch.alloc ?_ _))) (d := mm) (by have hh := hown.out; rw [HN1.out] at hh ⊢; exact hh) hgrow.out hob.out)
                go_wp2_with fail
                go_meet
                exact ⟨A', c', HZ6.out⟩
            case rest =>
              obtain ⟨As', cs', hL7⟩ := hcut
              have HL7 := Lib.hid hL7
              clear hL7
              rcases st3 with _ | r
              · have HQ : Hid (R = (⟨g.stops ++ [mm], g.rides ++ [d], g.stays⟩, none)) := Lib.hid HQ1.out
                have CG := Lib.hid (good_go HL7.out.cur)
                have x0 : wc.cell? ⟨b1, 0, none⟩ = some (.string ⟨nm.toArray⟩) := HL7.out.box.cell 0
                have x1 : wc.cell? ⟨b1, 1, none⟩ = some (.slice As' (n1 + 1) cs') := HL7.out.box.cell 1
                have x2 : wc.cell? ⟨b1, 2, none⟩ = some (.slice Ar' (n2 + 1) cr') := HL7.out.box.cell 2
                have x3 : wc.cell? ⟨b1, 3, none⟩ = some (.slice Ay n3 c3) := HL7.out.box.cell 3
                have y0 : wc.cell? ⟨b0, 0, none⟩ = some (.string ⟨#[]⟩) := HL7.out.res.cell 0
                have y1 : wc.cell? ⟨b0, 1, none⟩ = some (.slice none 0 0) := HL7.out.res.cell 1
                have y2 : wc.cell? ⟨b0, 2, none⟩ = some (.slice none 0 0) := HL7.out.res.cell 2
                have y3 : wc.cell? ⟨b0, 3, none⟩ = some (.slice none 0 0) := HL7.out.res.cell 3
                have xf := HL7.out.box.frozen
                have yf := HL7.out.res.frozen
                go_wp2_with (first
                  | (go_at_call 61; (refine CG.out.mono ?_); rintro e w9 ⟨rfl, rfl⟩)
                  | fail)
                refine bodyPost_ret (route_res rfl (set4 HL7.out.res _ _ _ _)) rfl ?_
                exact HL7.out.fin (by rw [HN1.out]; simp) (by rw [HN2.out]; simp) HN3.out (by rw [HQ.out])
              · have HQ : Hid (R = if (nowL r).kind = 4 then (⟨g.stops ++ [mm], g.rides ++ [d], g.stays⟩, some r) else legsS m' (stayS r).2 ⟨g.stops ++ [mm], g.rides ++ [d], g.stays ++ [(stayS r).1]⟩) := Lib.hid HQ1.out
                have CG := Lib.hid (good_go HL7.out.cur)
                obtain ⟨hE3, hlt3, h31⟩ := HF.out r rfl
                have HE3 := Lib.hid hE3
                clear hE3
                obtain ⟨t, ht⟩ : ∃ t, nowL r = t := ⟨_, rfl⟩
                obtain ⟨tk, tt, tn, tl, tc_⟩ := t
                have HT := Lib.hid ht
                have CN : Hid (Calls Tryz.prog 90 #[.pointer (some ⟨B, 0, none⟩)] wc fun e w' => e = .returned (.agg #[.int .i64 tk, .string ⟨tt.toArray⟩, .int .i64 tn, .int .i64 tl, .int .i64 tc_]) ∧ Below wc.heap.size wc w') := Lib.hid (now_good HL7.out.cur _ ht)
                have hfl := fun a b c d e w => field_tok0 a b c d e w
                clear ht
                by_cases h4 : tk = 4
                · subst h4
                  have HQ3 : Hid (R = (⟨g.stops ++ [mm], g.rides ++ [d], g.stays⟩, some r)) := Lib.hid (by rw [HQ.out]; simp only [HT.out]; rfl)
                  go_upto_region 10 with (first
                    | (go_at_call 61; (refine CG.out.mono ?_); rintro e w9 ⟨rfl, rfl⟩)
                    | (go_at_call 90; (refine CN.out.mono ?_); rintro e w8 ⟨rfl, h8⟩; have HL8 := Lib.hid (HL7.out.old (.of_below h8)); clear h8)
                    | fail)
                  have x0 : w8.cell? ⟨b1, 0, none⟩ = some (.string ⟨nm.toArray⟩) := HL8.out.box.cell 0
                  have x1 : w8.cell? ⟨b1, 1, none⟩ = some (.slice As' (n1 + 1) cs') := HL8.out.box.cell 1
                  have x2 : w8.cell? ⟨b1, 2, none⟩ = some (.slice Ar' (n2 + 1) cr') := HL8.out.box.cell 2
                  have x3 : w8.cell? ⟨b1, 3, none⟩ = some (.slice Ay n3 c3) := HL8.out.box.cell 3
                  have y0 : w8.cell? ⟨b0, 0, none⟩ = some (.string ⟨#[]⟩) := HL8.out.res.cell 0
                  have y1 : w8.cell? ⟨b0, 1, none⟩ = some (.slice none 0 0) := HL8.out.res.cell 1
                  have y2 : w8.cell? ⟨b0, 2, none⟩ = some (.slice none 0 0) := HL8.out.res.cell 2
                  have y3 : w8.cell? ⟨b0, 3, none⟩ = some (.slice none 0 0) := HL8.out.res.cell 3
                  have xf := HL8.out.box.frozen
                  have yf := HL8.out.res.frozen
                  go_wp2
                  refine bodyPost_ret (route_res rfl (set4 HL8.out.res _ _ _ _)) rfl ?_
                  exact HL8.out.fin (by rw [HN1.out]; simp) (by rw [HN2.out]; simp) HN3.out (by rw [HQ3.out])
                · have h4b : (tk == 4) = false := by rw [beq_eq_false_iff_ne]; exact h4
                  obtain ⟨y, st5, hy5⟩ : ∃ y st5, stayS r = (y, st5) := ⟨_, _, rfl⟩
                  have HQ3 : Hid (R = legsS m' st5 ⟨g.stops ++ [mm], g.rides ++ [d], g.stays ++ [y]⟩) := Lib.hid (by
                    rw [HQ.out]
                    simp only [HT.out]
                    rw [if_neg h4, hy5])
                  have HE5 : Hid ((∀ ts, st5 = some ts → EndL ts) ∧ lenS st5 ≤ r.length) := Lib.hid (by
                    have hs := suf_stay r
                    rw [hy5] at hs
                    refine ⟨fun ts e => ?_, ?_⟩
                    · obtain ⟨r0, k1, _, k3⟩ := hs ts e
                      injection k1 with k1; subst k1
                      exact k3 HE3.out
                    · cases st5 with
                      | none => exact Nat.zero_le _
                      | some ts =>
                        obtain ⟨r0, k1, k2, _⟩ := hs ts rfl
                        injection k1 with k1; subst k1
                        exact k2.length_le)
                  have OY7 : Hid (wc.ownsRow w.heap.size 2 1 (.slice Ay n3 c3) n3 (cs intC g.stays)) := Lib.hid (by have hh := HL7.out.oy; rw [show (LegS.mk (g.stops ++ [mm]) (g.rides ++ [d]) g.stays).stays = g.stays from rfl, ← HN3.out] at hh; exact hh)
                  go_upto_region 11 with (first
                    | (go_at_call 61; (refine CG.out.mono ?_); rintro e w9 ⟨rfl, rfl⟩)
                    | (go_at_call 90; (refine CN.out.mono ?_); rintro e w8 ⟨rfl, h8⟩; have HL8 := Lib.hid (HL7.out.old (.of_below h8)); have CI := Lib.hid (is_go HL8.out.cur kStay); clear h8)
                    | fail)
                  have CI2 : Hid (Calls Tryz.prog 132 #[.pointer (some ⟨B, 0, none⟩), .string ⟨#[115, 116, 97, 121]⟩] w8 fun e w' => e = .returned (.bool (decide (tk = 2 ∧ tt = kStay))) ∧ Below w8.heap.size w8 w') := Lib.hid (by have hh := CI.out; rw [HT.out] at hh; exact hh)
                  clear CI CG CN HL7 OY7
                  by_cases hst : tk = 2 ∧ tt = kStay
                  · rw [decide_eq_true hst] at CI2
                    have hy6 : afterS kStay (some r) = (y, st5) := by rw [← hy5]; unfold stayS; rw [if_pos (by rw [HT.out]; exact hst)]
                    clear hst
                    go_upto_region 14 with (first
                      | (go_at_call 132; (with_reducible refine CI2.out.mono ?_); rintro e w10 ⟨rfl, h10⟩; have HL10 := Lib.hid (HL8.out.old (.of_below h10)); have CA : Hid (Calls Tryz.prog 120 #[.pointer (some ⟨B, 0, none⟩), .string ⟨#[115, 116, 97, 121]⟩] w10 (RPos w10 B toks q (.int .i64 y) st5)) := Lib.hid (by have hh := after_go HL10.out.cur kStay; rw [hy6] at hh; exact hh); clear h10)
                      | (go_at_call 120; (with_reducible refine CA.out.mono ?_); rintro e w11 ⟨rfl, h11, c11⟩; have HL11 := Lib.hid (HL10.out.on h11 c11); clear h11 c11)
                      | fail)
                    have OY11 : Hid (w11.ownsRow w.heap.size 2 1 (.slice Ay n3 c3) n3 (cs intC g.stays)) := Lib.hid (by have hh := HL11.out.oy; rw [show (LegS.mk (g.stops ++ [mm]) (g.rides ++ [d]) g.stays).stays = g.stays from rfl, ← HN3.out] at hh; exact hh)
                    have hszy : w.heap.size ≤ w11.heap.size := HL11.out.ch.size
                    have x3 : w11.cell? ⟨b1, 3, none⟩ = some (.slice Ay n3 c3) := HL11.out.box.cell 3
                    go_wp2_with (at_builtin; refine wpList_append_ch rfl (.tmp 66) (.tmp 68) 36 rfl w.heap.size 2 _ 1 8 Tryz.underlying36 info_int64 rfl (by omega) (by omega) (.slice Ay n3 c3) n3 (cs intC g.stays) rfl (OY11.out.alloc _) _ _ 1 1 [.int .i64 y] rfl rfl (lit_at _ _ _ _ _ (by simp) rfl) (by simp [Value.oneCell']) (by omega) (by simp; omega) ?_; intro v' w12 hown12 hg12 hob12; obtain ⟨Ay', cy', rfl, -, -⟩ := own_form hown12.out; have KB12 := Lib.hid ((HL11.out.old (by repeat (first | exact Ch.refl _ _ | refine Ch.drew ?_ | refine Ch.drewN ?_ _ | refine Ch.alloc ?_ _))).boxg (OY11.out.alloc _) (by decide) hg12.out); have k12 : w12.cell? ⟨b1, 3, none⟩ = some (.slice Ay n3 c3) := KB12.out.cell 3; have f12 : w12.frozen? ⟨b1, 3, none⟩ = false := KB12.out.frozen 3)
                    have HL13 := Lib.hid ((HL11.out.old (by repeat (first | exact Ch.refl _ _ | refine Ch.drew ?_ | refine Ch.drewN ?_ _ | refine Ch.alloc ?_ _))).stay (d := y) (by have hh := hown12.out; rw [HN3.out] at hh ⊢; exact hh) hg12.out hob12.out)
                    go_roundg (lenS (st5))
                    case rel =>
                      have q5 := HE5.out
                      have q6 := HLE.out
                      have q7 := HN1.out
                      have q8 := HN2.out
                      have q9 := HN3.out
                      exact ⟨_, _, _, _, _, m', Lib.hid HL13.out, Lib.hid HQ3.out.symm, rfl, by have := q5.2; omega, Lib.hid q5.1, by simp; omega, by simp; omega, by simp; omega⟩
                    case measure => have q5 := HE5.out.2; omega
                  · rw [decide_eq_false hst] at CI2
                    have hy6 : (y, st5) = (0, some r) := by rw [← hy5]; unfold stayS; rw [if_neg (by rw [HT.out]; exact hst)]
                    injection hy6 with ey est
                    subst ey est
                    clear hst
                    go_upto_region 14 with (first
                      | (go_at_call 132; (with_reducible refine CI2.out.mono ?_); rintro e w11 ⟨rfl, h11⟩; have HL11 := Lib.hid (HL8.out.old (.of_below h11)); clear h11)
                      | fail)
                    have OY11 : Hid (w11.ownsRow w.heap.size 2 1 (.slice Ay n3 c3) n3 (cs intC g.stays)) := Lib.hid (by have hh := HL11.out.oy; rw [show (LegS.mk (g.stops ++ [mm]) (g.rides ++ [d]) g.stays).stays = g.stays from rfl, ← HN3.out] at hh; exact hh)
                    have hszy : w.heap.size ≤ w11.heap.size := HL11.out.ch.size
                    have x3 : w11.cell? ⟨b1, 3, none⟩ = some (.slice Ay n3 c3) := HL11.out.box.cell 3
                    go_wp2_with (at_builtin; refine wpList_append_ch rfl (.tmp 66) (.tmp 68) 36 rfl w.heap.size 2 _ 1 8 Tryz.underlying36 info_int64 rfl (by omega) (by omega) (.slice Ay n3 c3) n3 (cs intC g.stays) rfl (OY11.out.alloc _) _ _ 1 1 [.int .i64 0] rfl rfl (lit_at _ _ _ _ _ (by simp) rfl) (by simp [Value.oneCell']) (by omega) (by simp; omega) ?_; intro v' w12 hown12 hg12 hob12; obtain ⟨Ay', cy', rfl, -, -⟩ := own_form hown12.out; have KB12 := Lib.hid ((HL11.out.old (by repeat (first | exact Ch.refl _ _ | refine Ch.drew ?_ | refine Ch.drewN ?_ _ | refine Ch.alloc ?_ _))).boxg (OY11.out.alloc _) (by decide) hg12.out); have k12 : w12.cell? ⟨b1, 3, none⟩ = some (.slice Ay n3 c3) := KB12.out.cell 3; have f12 : w12.frozen? ⟨b1, 3, none⟩ = false := KB12.out.frozen 3)
                    have HL13 := Lib.hid ((HL11.out.old (by repeat (first | exact Ch.refl _ _ | refine Ch.drew ?_ | refine Ch.drewN ?_ _ | refine Ch.alloc ?_ _))).stay (d := 0) (by have hh := hown12.out; rw [HN3.out] at hh ⊢; exact hh) hg12.out hob12.out)
                    go_roundg (lenS (some r))
                    case rel =>
                      have q5 := HE5.out
                      have q6 := HLE.out
                      have q7 := HN1.out
                      have q8 := HN2.out
                      have q9 := HN3.out
                      exact ⟨_, _, _, _, _, m', Lib.hid HL13.out, Lib.hid HQ3.out.symm, rfl, by have := q5.2; omega, Lib.hid q5.1, by simp; omega, by simp; omega, by simp; omega⟩
                    case measure => have q5 := HE5.out.2; omega

end Go.Proofs.YtcmlmfcnbmpajaaGreatDoor.Sw
namespace Go.Proofs.YtcmlmfcnbmpajaaGreatDoor.Sw
open Go.ChangeShapes Go.WideShapes Go.ChangeAt Go.RowKit
open Lx Sh Tk
set_option linter.unusedVariables false
set_option linter.unusedSimpArgs false
set_option maxRecDepth 100000

theorem full_stop (hz : Int) (a1 a2 a3 a4 a5 a6 : Option Addr) (n1 n2 n3 n4 n5 n6 c1 c2 c3 c4 c5 c6 : Nat) (w : World) : Calls Tryz.prog 92 #[.agg #[.int .i64 hz, .slice a1 n1 c1, .slice a2 n2 c2, .slice a3 n3 c3, .slice a4 n4 c4, .slice a5 n5 c5, .slice a6 n6 c6], .string ⟨#[115, 116, 111, 112]⟩] w fun e w' => e = .returned (.bool (decide (256 ≤ n1))) ∧ Below w.heap.size w w' := by
  by_cases h : 256 ≤ n1
  · rw [decide_eq_true h]
    have hi : (256 : Int) ≤ (n1 : Int) := by omega
    clear h
    go_enter Tryz.func92, Tryz.ntmps92
    go_wp2
    go_ret
    exact ⟨by simp [hi], one_box _ _⟩
  · rw [decide_eq_false h]
    have hi : ¬ (256 : Int) ≤ (n1 : Int) := by omega
    clear h
    go_enter Tryz.func92, Tryz.ntmps92
    go_wp2
    go_ret
    exact ⟨by simp [hi], one_box _ _⟩

theorem full_path (hz : Int) (a1 a2 a3 a4 a5 a6 : Option Addr) (n1 n2 n3 n4 n5 n6 c1 c2 c3 c4 c5 c6 : Nat) (w : World) : Calls Tryz.prog 92 #[.agg #[.int .i64 hz, .slice a1 n1 c1, .slice a2 n2 c2, .slice a3 n3 c3, .slice a4 n4 c4, .slice a5 n5 c5, .slice a6 n6 c6], .string ⟨#[112, 97, 116, 104]⟩] w fun e w' => e = .returned (.bool (decide (1024 ≤ n2))) ∧ Below w.heap.size w w' := by
  by_cases h : 1024 ≤ n2
  · rw [decide_eq_true h]
    have hi : (1024 : Int) ≤ (n2 : Int) := by omega
    clear h
    go_enter Tryz.func92, Tryz.ntmps92
    go_wp2
    go_ret
    exact ⟨by simp [hi], one_box _ _⟩
  · rw [decide_eq_false h]
    have hi : ¬ (1024 : Int) ≤ (n2 : Int) := by omega
    clear h
    go_enter Tryz.func92, Tryz.ntmps92
    go_wp2
    go_ret
    exact ⟨by simp [hi], one_box _ _⟩

theorem full_door (hz : Int) (a1 a2 a3 a4 a5 a6 : Option Addr) (n1 n2 n3 n4 n5 n6 c1 c2 c3 c4 c5 c6 : Nat) (w : World) : Calls Tryz.prog 92 #[.agg #[.int .i64 hz, .slice a1 n1 c1, .slice a2 n2 c2, .slice a3 n3 c3, .slice a4 n4 c4, .slice a5 n5 c5, .slice a6 n6 c6], .string ⟨#[100, 111, 111, 114]⟩] w fun e w' => e = .returned (.bool (decide (256 ≤ n3))) ∧ Below w.heap.size w w' := by
  by_cases h : 256 ≤ n3
  · rw [decide_eq_true h]
    have hi : (256 : Int) ≤ (n3 : Int) := by omega
    clear h
    go_enter Tryz.func92, Tryz.ntmps92
    go_wp2
    go_ret
    exact ⟨by simp [hi], one_box _ _⟩
  · rw [decide_eq_false h]
    have hi : ¬ (256 : Int) ≤ (n3 : Int) := by omega
    clear h
    go_enter Tryz.func92, Tryz.ntmps92
    go_wp2
    go_ret
    exact ⟨by simp [hi], one_box _ _⟩

theorem full_route (hz : Int) (a1 a2 a3 a4 a5 a6 : Option Addr) (n1 n2 n3 n4 n5 n6 c1 c2 c3 c4 c5 c6 : Nat) (w : World) : Calls Tryz.prog 92 #[.agg #[.int .i64 hz, .slice a1 n1 c1, .slice a2 n2 c2, .slice a3 n3 c3, .slice a4 n4 c4, .slice a5 n5 c5, .slice a6 n6 c6], .string ⟨#[114, 111, 117, 116, 101]⟩] w fun e w' => e = .returned (.bool (decide (256 ≤ n4))) ∧ Below w.heap.size w w' := by
  by_cases h : 256 ≤ n4
  · rw [decide_eq_true h]
    have hi : (256 : Int) ≤ (n4 : Int) := by omega
    clear h
    go_enter Tryz.func92, Tryz.ntmps92
    go_wp2
    go_ret
    exact ⟨by simp [hi], one_box _ _⟩
  · rw [decide_eq_false h]
    have hi : ¬ (256 : Int) ≤ (n4 : Int) := by omega
    clear h
    go_enter Tryz.func92, Tryz.ntmps92
    go_wp2
    go_ret
    exact ⟨by simp [hi], one_box _ _⟩

theorem full_trip (hz : Int) (a1 a2 a3 a4 a5 a6 : Option Addr) (n1 n2 n3 n4 n5 n6 c1 c2 c3 c4 c5 c6 : Nat) (w : World) : Calls Tryz.prog 92 #[.agg #[.int .i64 hz, .slice a1 n1 c1, .slice a2 n2 c2, .slice a3 n3 c3, .slice a4 n4 c4, .slice a5 n5 c5, .slice a6 n6 c6], .string ⟨#[116, 114, 105, 112]⟩] w fun e w' => e = .returned (.bool (decide (1024 ≤ n5))) ∧ Below w.heap.size w w' := by
  by_cases h : 1024 ≤ n5
  · rw [decide_eq_true h]
    have hi : (1024 : Int) ≤ (n5 : Int) := by omega
    clear h
    go_enter Tryz.func92, Tryz.ntmps92
    go_wp2
    go_ret
    exact ⟨by simp [hi], one_box _ _⟩
  · rw [decide_eq_false h]
    have hi : ¬ (1024 : Int) ≤ (n5 : Int) := by omega
    clear h
    go_enter Tryz.func92, Tryz.ntmps92
    go_wp2
    go_ret
    exact ⟨by simp [hi], one_box _ _⟩

theorem full_hazard (hz : Int) (a1 a2 a3 a4 a5 a6 : Option Addr) (n1 n2 n3 n4 n5 n6 c1 c2 c3 c4 c5 c6 : Nat) (w : World) : Calls Tryz.prog 92 #[.agg #[.int .i64 hz, .slice a1 n1 c1, .slice a2 n2 c2, .slice a3 n3 c3, .slice a4 n4 c4, .slice a5 n5 c5, .slice a6 n6 c6], .string ⟨#[104, 97, 122, 97, 114, 100]⟩] w fun e w' => e = .returned (.bool (decide (256 ≤ n6))) ∧ Below w.heap.size w w' := by
  by_cases h : 256 ≤ n6
  · rw [decide_eq_true h]
    have hi : (256 : Int) ≤ (n6 : Int) := by omega
    clear h
    go_enter Tryz.func92, Tryz.ntmps92
    go_wp2
    go_ret
    exact ⟨by simp [hi], one_box _ _⟩
  · rw [decide_eq_false h]
    have hi : ¬ (256 : Int) ≤ (n6 : Int) := by omega
    clear h
    go_enter Tryz.func92, Tryz.ntmps92
    go_wp2
    go_ret
    exact ⟨by simp [hi], one_box _ _⟩

end Go.Proofs.YtcmlmfcnbmpajaaGreatDoor.Sw
namespace Go.Proofs.YtcmlmfcnbmpajaaGreatDoor.Sw
open Go.ChangeShapes Go.WideShapes Go.ChangeAt Go.RowKit
open Lx Sh Tk
set_option linter.unusedVariables false
set_option linter.unusedSimpArgs false
set_option maxRecDepth 100000

set_option maxHeartbeats 8000000 in
theorem thing_stop {w : World} {B : Nat} {toks : List Tok} {x : SheetM} {v1 v2 v3 v4 v5 v6 : Value} {st : St} (h : RCur w B toks (shq x v1 v2 v3 v4 v5 v6) st) (hs : ShRows w B x v1 v2 v3 v4 v5 v6) (hlt : x.stops.length < 256) :
    Calls Tryz.prog 93 #[.pointer (some ⟨B, 0, none⟩), .string ⟨#[115, 116, 111, 112]⟩] w (ThPost w B toks ({ x with stops := x.stops ++ [(nameS st).1] }, (nameS st).2)) := by
  have hB := h.lt
  have HS := Lib.hid hs
  obtain ⟨n, hn⟩ : ∃ n, n = x.stops.length := ⟨_, rfl⟩
  have HN := Lib.hid hn
  have HLT := Lib.hid hlt
  have hn2 : n ≤ 1024 := by omega
  have HNM : Hid (∀ w', Ch (fun _ => False) w w' → Calls Tryz.prog 117 #[.pointer (some ⟨B, 0, none⟩)] w' (RPos w' B toks (shq x v1 v2 v3 v4 v5 v6) (.string ⟨(nameS st).1.toArray⟩) (nameS st).2)) := Lib.hid (fun w' hw => name_go (h.ch hw fun _ _ => id))
  have k1 : w.cell? ⟨B, 6, none⟩ = some v1 := h.cell 1
  generalize (nameS st).1 = mm at *
  generalize (nameS st).2 = st' at *
  clear h hs hn hlt
  go_enter Tryz.func93, Tryz.ntmps93
  go_upto_region 7 with (fail)
  go_region_law (first
    | (refine step_append_g (by rfl) (.tmp 39) (.tmp 42) 22 (by rfl) (B + 1) 9 _ 1 16 Tryz.underlying22 info_Str rfl (by omega) (by omega) _ n (cs strC x.stops) (by rfl) (Lib.hid (own_after OV.out (by repeat (first | exact Below.refl _ _ | exact one_box _ _ | refine below_drewN ?_ _ | refine below_drew ?_ | refine Below.alloc ?_ (by first | omega | (simp; done) | (simp; omega)) _)))) _ _ 1 1 [.string ⟨mm.toArray⟩] (by rfl) (Lib.hid rfl) (by first | exact Lib.hid (litd_at2 _ _ _ _ _ (by simp) rfl) | exact Lib.hid (lit_at _ _ _ _ _ (by simp) rfl)) (by simp [Value.oneCell']) (by omega) (by first | omega | (have := HR.out.lt; simp; omega)) ?_; intro v' w6 hown hgrow hob; obtain ⟨A', c', rfl, -, -⟩ := own_form hown.out; have HR6 := Lib.hid (close_cur HR.out (HN.out ▸ OV.out) (by repeat (first | exact Ch.refl _ _ | refine Ch.drew ?_ | refine Ch.drewN ?_ _ | refine Ch.alloc ?_ _)) hgrow.out); have k6 : w6.cell? ⟨B, 6, none⟩ = some v1 := HR6.out.cell 1; have f6 : w6.frozen? ⟨B, 6, none⟩ = false := HR6.out.frozen 6)
    | (go_simp; go_at_call 117; refine (HNM.out _ (by repeat (first | exact Ch.refl _ _ | refine Ch.drew ?_ | refine Ch.drewN ?_ _ | refine Ch.alloc ?_ _))).mono ?_; rintro e w3 ⟨rfl, h3, c3⟩; have HR := Lib.hid h3; have HCW : Hid (Ch (· = B) w w3) := Lib.hid (Ch.trans (by repeat (first | exact Ch.refl _ _ | refine Ch.drew ?_ | refine Ch.drewN ?_ _ | refine Ch.alloc ?_ _)) c3); have HSW := Lib.hid (HS.out.ch HCW.out (fun k hk e => by omega)); have OV : Hid (w3.ownsRow (B + 1) 9 1 v1 n (cs strC x.stops)) := Lib.hid (by rw [HN.out]; exact HSW.out.r1); have k3 : w3.cell? ⟨B, 6, none⟩ = some v1 := HR.out.cell 1; have k3' : ∀ o, (w3.alloc o).cell? ⟨B, 6, none⟩ = some v1 := (fun o => (HR.out.after (one_box _ _)).cell 1); clear h3 c3)
    | fail)
  all_goals
    go_end0
    exact stop_close (a := mm) hB HCW.out HR.out HSW.out (by repeat (first | exact Ch.refl _ _ | refine Ch.drew ?_ | refine Ch.drewN ?_ _ | refine Ch.alloc ?_ _)) hgrow.out hown.out hob.out HN.out HLT.out
theorem route_close {w W Wo w6 : World} {B : Nat} {toks : List Tok} {x : SheetM} {v1 v2 v3 v4 v5 v6 v' : Value} {st : St} {a : RouteM} {n : Nat} {c4 : List Value} {sa ra ya : Option Addr} {sc rc yc : Nat} (hB : B < w.heap.size) (hcw : Ch (· = B) w W) (h : RCur W B toks (shq x v1 v2 v3 v4 v5 v6) st) (hs0 : ShRows w B x v1 v2 v3 v4 v5 v6) (hs : ShRows W B x v1 v2 v3 v4 v5 v6) (hWo : Ch (fun _ => False) W Wo) (hg : Wo.grownBy w6 v4.ownBlock)
    (h4 : W.ownsRow (B + 1) 38 4 v4 x.routes.length c4) (h4' : Rts W (Away W B [v1, v2, v3, v4, v5, v6]) x.routes c4)
    (r1 : Rd W (fun b => w.heap.size ≤ b ∧ b < W.heap.size) sa (cs strC a.stops)) (r2 : Rd W (fun b => w.heap.size ≤ b ∧ b < W.heap.size) ra (cs intC a.rides)) (r3 : Rd W (fun b => w.heap.size ≤ b ∧ b < W.heap.size) ya (cs intC a.stays))
    (ho : w6.ownsRow (B + 1) 38 4 v' (n + 1) (c4 ++ [.string ⟨a.name.toArray⟩, .slice sa a.stops.length sc, .slice ra a.rides.length rc, .slice ya a.stays.length yc])) (hob : v'.ownBlock = v4.ownBlock ∨ v'.ownBlock = some Wo.heap.size) (hn : n = x.routes.length) (hlt : x.routes.length < 256) :
    ThPost w B toks ({ x with routes := x.routes ++ [a] }, st) (.returned (.tuple #[])) (w6.setCell ⟨B, 9, none⟩ v') := by
  subst hn
  have hch2 := close_ch (B := B) hWo hg
  have hk : Ch (· = B) w6 (w6.setCell ⟨B, 9, none⟩ v') := ch_set _ _ _ _
  have hob' := close_ob hWo hob
  have zc := hcw.size
  have z2 := hch2.size
  have z3 := hk.size
  obtain ⟨c40, h40, -⟩ := hs0.r4
  have far : ∀ {e size n : Nat} {v : Value} {xs : List Value} {b : Nat}, w.ownsRow (B + 1) e size v n xs → w.heap.size ≤ b → v.ownBlock ≠ some b := fun ho hb e => by have := (ho.lt _ e).2; omega
  have hrt : Rts W (fun b => w.heap.size ≤ b ∧ b < W.heap.size) [a] [.string ⟨a.name.toArray⟩, .slice sa a.stops.length sc, .slice ra a.rides.length rc, .slice ya a.stays.length yc] := ⟨sa, sc, ra, rc, ya, yc, [], rfl, r1, r2, r3, rfl⟩
  have hnew : Rts (w6.setCell ⟨B, 9, none⟩ v') (Away (w6.setCell ⟨B, 9, none⟩ v') B [v1, v2, v3, v', v5, v6]) [a] [.string ⟨a.name.toArray⟩, .slice sa a.stops.length sc, .slice ra a.rides.length rc, .slice ya a.stays.length yc] := by
    refine (hrt.keep fun b hb => (hk.block b ?_ ?_).trans (hch2.block b hb.2 ?_)).more fun b hb => ⟨by omega, by omega, fun u hu => ?_⟩
    · have := hb.2; omega
    · have := hb.1; omega
    · rintro (e | e)
      · have := hb.1; omega
      · exact far h40 hb.1 e.symm
    · simp only [List.mem_cons, List.not_mem_nil, or_false] at hu
      rcases hu with rfl | rfl | rfl | rfl | rfl | rfl
      · exact far hs0.r1 hb.1
      · exact far hs0.r2 hb.1
      · exact far hs0.r3 hb.1
      · rcases hob' with e | ⟨k, e, hk'⟩
        · rw [e]; exact far h40 hb.1
        · rw [e]; intro e2; injection e2 with e2; have := hb.2; omega
      · exact far hs0.r5 hb.1
      · exact far hs0.r6 hb.1
  exact ⟨rfl, ⟨v1, v2, v3, v', v5, v6, (close_cur h h4 hWo hg).set 4 v', rows_route hs h4 h4' ho hnew hch2 hob' hk hlt⟩, close_below hB hcw h4 hch2 _ rfl _⟩
set_option maxHeartbeats 8000000 in
theorem thing_route {w : World} {B : Nat} {toks : List Tok} {x : SheetM} {v1 v2 v3 v4 v5 v6 : Value} {st : St} (h : RCur w B toks (shq x v1 v2 v3 v4 v5 v6) st) (hs : ShRows w B x v1 v2 v3 v4 v5 v6) (hlt : x.routes.length < 256) (he : ∀ ts, st = some ts → EndL ts) :
    Calls Tryz.prog 93 #[.pointer (some ⟨B, 0, none⟩), .string ⟨#[114, 111, 117, 116, 101]⟩] w (ThPost w B toks ({ x with routes := x.routes ++ [(routeS st).1] }, (routeS st).2)) := by
  have hB := h.lt
  have HS := Lib.hid hs
  obtain ⟨n, hn⟩ : ∃ n, n = x.routes.length := ⟨_, rfl⟩
  have HN := Lib.hid hn
  have HLT := Lib.hid hlt
  have hn2 : n ≤ 1024 := by omega
  have HNM0 : ∀ w', Ch (fun _ => False) w w' → Calls Tryz.prog 119 #[.pointer (some ⟨B, 0, none⟩)] w' (RtPos w' B toks (shq x v1 v2 v3 v4 v5 v6) (routeS st)) := fun w' hw => route_go (h.ch hw fun _ _ => id) he
  have k1 : w.cell? ⟨B, 9, none⟩ = some v4 := h.cell 4
  obtain ⟨⟨nm, st_, ri, sy⟩, st', hy⟩ : ∃ a b, routeS st = (a, b) := ⟨_, _, rfl⟩
  rw [hy] at HNM0 ⊢
  obtain ⟨m1, hm1⟩ : ∃ m1, m1 = st_.length := ⟨_, rfl⟩
  obtain ⟨m2, hm2⟩ : ∃ m2, m2 = ri.length := ⟨_, rfl⟩
  obtain ⟨m3, hm3⟩ : ∃ m3, m3 = sy.length := ⟨_, rfl⟩
  have HM := Lib.hid (And.intro hm1 (And.intro hm2 hm3))
  have HNM : Hid (∀ w', Ch (fun _ => False) w w' → Calls Tryz.prog 119 #[.pointer (some ⟨B, 0, none⟩)] w' (fun e w2 => ∃ sa sc ra rc ya yc, e = .returned (.agg #[.string ⟨nm.toArray⟩, .slice sa m1 sc, .slice ra m2 rc, .slice ya m3 yc]) ∧ Rd w2 (fun b => w'.heap.size ≤ b ∧ b < w2.heap.size) sa (cs strC st_) ∧ Rd w2 (fun b => w'.heap.size ≤ b ∧ b < w2.heap.size) ra (cs intC ri) ∧ Rd w2 (fun b => w'.heap.size ≤ b ∧ b < w2.heap.size) ya (cs intC sy) ∧ RCur w2 B toks (shq x v1 v2 v3 v4 v5 v6) st' ∧ Ch (· = B) w' w2)) := Lib.hid (by rw [hm1, hm2, hm3]; exact HNM0)
  clear h hs hn hlt he hy HNM0 hm1 hm2 hm3
  go_enter Tryz.func93, Tryz.ntmps93
  go_upto_region 16 with (fail)
  go_region_law (first
    | (refine step_append_g (by rfl) (.tmp 103) (.tmp 106) 25 (by rfl) (B + 1) 38 _ 4 88 Tryz.underlying25 info_Route rfl (by omega) (by omega) _ n c4 (by rfl) (Lib.hid (own_after OV.out (by repeat (first | exact Below.refl _ _ | exact one_box _ _ | refine below_drewN ?_ _ | refine below_drew ?_ | refine Below.alloc ?_ (by first | omega | (simp; done) | (simp; omega)) _)))) _ _ 1 1 [.string ⟨nm.toArray⟩, .slice sa m1 sc, .slice ra m2 rc, .slice ya m3 yc] (by rfl) (Lib.hid rfl) (by first | exact Lib.hid (litd_at2 _ _ _ _ _ (by simp) rfl) | exact Lib.hid (lit_at _ _ _ _ _ (by simp) rfl)) (by simp [Value.oneCell']) (by omega) (by first | omega | (have := HR.out.lt; simp; omega)) ?_; intro v' w6 hown hgrow hob; obtain ⟨A', c', rfl, -, -⟩ := own_form hown.out; have HR6 := Lib.hid (close_cur HR.out OV.out (by repeat (first | exact Ch.refl _ _ | refine Ch.drew ?_ | refine Ch.drewN ?_ _ | refine Ch.alloc ?_ _)) hgrow.out); have k6 : w6.cell? ⟨B, 9, none⟩ = some v4 := HR6.out.cell 4; have f6 : w6.frozen? ⟨B, 9, none⟩ = false := HR6.out.frozen 9)
    | (go_simp; go_at_call 119; refine (HNM.out _ (by repeat (first | exact Ch.refl _ _ | refine Ch.drew ?_ | refine Ch.drewN ?_ _ | refine Ch.alloc ?_ _))).mono ?_; rintro e w3 ⟨sa, sc, ra, rc, ya, yc, rfl, r1, r2, r3, h3, c3⟩; have HR := Lib.hid h3; have HCW : Hid (Ch (· = B) w w3) := Lib.hid (Ch.trans (by repeat (first | exact Ch.refl _ _ | refine Ch.drew ?_ | refine Ch.drewN ?_ _ | refine Ch.alloc ?_ _)) c3); have HSW := Lib.hid (HS.out.ch HCW.out (fun k hk e => by omega)); have HRD := Lib.hid (And.intro r1 (And.intro r2 r3)); obtain ⟨c4, h4, h4'⟩ := HSW.out.r4; have OV : Hid (w3.ownsRow (B + 1) 38 4 v4 n c4) := Lib.hid (by rw [HN.out]; exact h4); have H4 := Lib.hid (And.intro h4 h4'); have k3 : w3.cell? ⟨B, 9, none⟩ = some v4 := HR.out.cell 4; have k3' : ∀ o, (w3.alloc o).cell? ⟨B, 9, none⟩ = some v4 := (fun o => (HR.out.after (one_box _ _)).cell 4); clear h3 c3 r1 r2 r3 h4 h4')
    | fail)
  all_goals
    go_end0
    obtain ⟨rfl, rfl, rfl⟩ := HM.out
    exact route_close (a := ⟨nm, st_, ri, sy⟩) hB HCW.out HR.out HS.out HSW.out (by repeat (first | exact Ch.refl _ _ | refine Ch.drew ?_ | refine Ch.drewN ?_ _ | refine Ch.alloc ?_ _)) hgrow.out H4.out.1 H4.out.2 HRD.out.1 HRD.out.2.1 HRD.out.2.2 hown.out hob.out HN.out HLT.out

end Go.Proofs.YtcmlmfcnbmpajaaGreatDoor.Sw
namespace Go.Proofs.YtcmlmfcnbmpajaaGreatDoor.Sw
open Go.ChangeShapes Go.WideShapes Go.ChangeAt Go.RowKit
open Lx Sh Tk
set_option linter.unusedVariables false
set_option linter.unusedSimpArgs false
set_option maxRecDepth 100000

/-- a line while its word is looked for -/
structure LnAt (w : World) (B b M : Nat) (toks : List Tok) (q : List Value) (tk : Int) (tt : List UInt8) (tn tl tc_ : Int) (st : St) (wr : World) : Prop where
  cur : RCur wr B toks q st
  box : Blk wr b 107 [.int .i64 tk, .string ⟨tt.toArray⟩, .int .i64 tn, .int .i64 tl, .int .i64 tc_]
  lst : Blk wr M 9 (cs strC kinds)
  ch : Ch (· = B) w wr
  h0 : w.heap.size ≤ b
  h1 : b < M
theorem LnAt.old {w wr w' : World} {B b M : Nat} {toks : List Tok} {q : List Value} {tk tn tl tc_ : Int} {tt : List UInt8} {st : St} (h : LnAt w B b M toks q tk tt tn tl tc_ st wr) (hb : Ch (fun _ => False) wr w') : LnAt w B b M toks q tk tt tn tl tc_ st w' :=
  ⟨h.cur.ch hb fun _ _ => id, hb.blk h.box id, hb.blk h.lst id, h.ch.trans (hb.mono fun _ _ h => h.elim), h.h0, h.h1⟩
theorem LnAt.on {w wr w' : World} {B b M : Nat} {toks : List Tok} {q q' : List Value} {tk tn tl tc_ : Int} {tt : List UInt8} {st st' : St} (h : LnAt w B b M toks q tk tt tn tl tc_ st wr) (hB : B < w.heap.size) (hc : RCur w' B toks q' st') (hb : Ch (· = B) wr w') : LnAt w B b M toks q' tk tt tn tl tc_ st' w' :=
  ⟨hc, hb.blk h.box (by have := h.h0; omega), hb.blk h.lst (by have := h.h0; have := h.h1; omega), h.ch.trans hb, h.h0, h.h1⟩
theorem kinds_more {tk : Int} {tt r : List UInt8} {i : Nat} (hr : kinds[i]? = some r) : decide (tk = 2 ∧ tt ∈ kinds.take (i + 1)) = (decide (tk = 2 ∧ tt ∈ kinds.take i) || ((tk == 2) && (tt == r))) := by
  rw [List.take_add_one, hr, Bool.eq_iff_iff]
  simp only [decide_eq_true_eq, List.mem_append, Option.toList_some, List.mem_singleton, Bool.or_eq_true, Bool.and_eq_true, beq_iff_eq]
  constructor
  · rintro ⟨h1, h2 | h2⟩
    · exact .inl ⟨h1, h2⟩
    · exact .inr ⟨h1, h2⟩
  · rintro (⟨h1, h2⟩ | ⟨h1, h2⟩)
    · exact ⟨h1, .inl h2⟩
    · exact ⟨h1, .inr h2⟩
theorem line_no {x : SheetM} {t : Tok} {r : List Tok} (h : decide (t.kind = 2 ∧ t.text ∈ kinds) = false) : lineS x t r = (x, none) := by
  unfold lineS; rw [if_neg (of_decide_eq_false h)]
theorem below_ch {w w' : World} {B : Nat} (hB : B < w.heap.size) (h : Ch (· = B) w w') : Below B w w' := h.below (Nat.le_of_lt hB) fun k e => by omega
theorem fault_close {w w' : World} {B : Nat} {toks : List Tok} {x : SheetM} {v1 v2 v3 v4 v5 v6 : Value} {y : SheetM × St} (hB : B < w.heap.size) (hs : ShRows w B x v1 v2 v3 v4 v5 v6) (hy : y = (x, none)) (h : RCur w' B toks (shq x v1 v2 v3 v4 v5 v6) none) (hc : Ch (· = B) w w') : ThPost w B toks y (.returned (.tuple #[])) w' := by
  subst hy
  exact ⟨rfl, ⟨v1, v2, v3, v4, v5, v6, h, hs.ch hc fun k hk e => by omega⟩, below_ch hB hc⟩

set_option maxHeartbeats 16000000 in
theorem line_go {w : World} {B : Nat} {toks r : List Tok} {t : Tok} {x : SheetM} {v1 v2 v3 v4 v5 v6 : Value} (h : RCur w B toks (shq x v1 v2 v3 v4 v5 v6) (some (t :: r))) (hs : ShRows w B x v1 v2 v3 v4 v5 v6) (he : t.kind = 2 → EndL r) :
    Calls Tryz.prog 62 #[.pointer (some ⟨B, 0, none⟩)] w (ThPost w B toks (lineS x t r)) := by
  have hB := h.lt
  have HS := Lib.hid hs
  obtain ⟨tk, tt, tn, tl, tc_⟩ := t
  have CN : Hid (Calls Tryz.prog 90 #[.pointer (some ⟨B, 0, none⟩)] w fun e w' => e = .returned (.agg #[.int .i64 tk, .string ⟨tt.toArray⟩, .int .i64 tn, .int .i64 tl, .int .i64 tc_]) ∧ Below w.heap.size w w') := Lib.hid (now_good h _ rfl)
  have HR0 := Lib.hid h
  have HE : Hid (tk = 2 → EndL r) := Lib.hid he
  clear h hs he
  go_enter Tryz.func62, Tryz.ntmps62
  go_upto_region 2 with (first
    | (go_at_call 90; (refine CN.out.mono ?_); rintro e u1 ⟨rfl, h1⟩; have HU1 := Lib.hid h1; clear h1)
    | fail)
  obtain ⟨b, hb⟩ : ∃ b, b = u1.heap.size := ⟨_, rfl⟩
  obtain ⟨M, hM⟩ : ∃ M, M = u1.heap.size + 1 := ⟨_, rfl⟩
  have HL0 : Hid (LnAt w B b M toks (shq x v1 v2 v3 v4 v5 v6) tk tt tn tl tc_ (some (⟨tk, tt, tn, tl, tc_⟩ :: r)) ((u1.alloc (.cells #[.int .i64 tk, .string ⟨tt.toArray⟩, .int .i64 tn, .int .i64 tl, .int .i64 tc_] 107)).alloc (.cells #[.string ⟨#[115, 116, 111, 112]⟩, .string ⟨#[112, 97, 116, 104]⟩, .string ⟨#[100, 111, 111, 114]⟩, .string ⟨#[114, 111, 117, 116, 101]⟩, .string ⟨#[116, 114, 105, 112]⟩, .string ⟨#[104, 97, 122, 97, 114, 100]⟩] 9))) := Lib.hid (by
    have k2 := Blk.new (u1.alloc (.cells #[.int .i64 tk, .string ⟨tt.toArray⟩, .int .i64 tn, .int .i64 tl, .int .i64 tc_] 107)) 9 (cs strC kinds)
    rw [hb, hM]
    exact ⟨((HR0.out.after HU1.out).after (one_box _ _)).after (one_box _ _), (Blk.new u1 _ _).alloc _, (by simp at k2; exact k2), (((Ch.of_below HU1.out).alloc _).alloc _), HU1.out.size, by omega⟩)
  rw [← hM]
  rw [← hb]
  clear hM hb HU1
  generalize (u1.alloc (.cells #[.int .i64 tk, .string ⟨tt.toArray⟩, .int .i64 tn, .int .i64 tl, .int .i64 tc_] 107)).alloc (.cells #[.string ⟨#[115, 116, 111, 112]⟩, .string ⟨#[112, 97, 116, 104]⟩, .string ⟨#[100, 111, 111, 114]⟩, .string ⟨#[114, 111, 117, 116, 101]⟩, .string ⟨#[116, 114, 105, 112]⟩, .string ⟨#[104, 97, 122, 97, 114, 100]⟩] 9) = W2 at HL0 ⊢
  go_wp2
  go_loopw [4, 5] (fun a4 a5 wr => ∃ (i : Nat) (kb : Bool), a4 = .bool kb ∧ a5 = .int .i64 i ∧ i ≤ 6 ∧ Hid (kb = decide (tk = 2 ∧ tt ∈ kinds.take i)) ∧ Hid (LnAt w B b M toks (shq x v1 v2 v3 v4 v5 v6) tk tt tn tl tc_ (some (⟨tk, tt, tn, tl, tc_⟩ :: r)) wr)) (fun _ v _ => 6 - (intOf v).toNat)
  case atStart => exact ⟨0, false, rfl, rfl, by omega, Lib.hid (by simp), HL0⟩
  case round =>
    obtain ⟨i, kb, rfl, rfl, hi, HKB, HL⟩ := hrel
    have y0 : wr.cell? ⟨b, 0, none⟩ = some (.int .i64 tk) := HL.out.box.cell 0
    have y1 : wr.cell? ⟨b, 1, none⟩ = some (.string ⟨tt.toArray⟩) := HL.out.box.cell 1
    have y2 : wr.cell? ⟨b, 2, none⟩ = some (.int .i64 tn) := HL.out.box.cell 2
    have y3 : wr.cell? ⟨b, 3, none⟩ = some (.int .i64 tl) := HL.out.box.cell 3
    have y4 : wr.cell? ⟨b, 4, none⟩ = some (.int .i64 tc_) := HL.out.box.cell 4
    by_cases hlt : i < 6
    · have hi1 : (i : Int) < 6 := by omega
      obtain ⟨ki, hki⟩ : ∃ ki, kinds[i]? = some ki := ⟨_, List.getElem?_eq_getElem (by exact hlt)⟩
      have xi : wr.cell? ⟨M, i, none⟩ = some (.string ⟨ki.toArray⟩) := by
        rw [HL.out.lst.cell]
        have e : cs strC kinds = kinds.map (fun a => Value.string ⟨a.toArray⟩) := rfl
        rw [e, List.getElem?_map, hki]; rfl
      have HMORE := Lib.hid (kinds_more (tk := tk) (tt := tt) hki)
      cases kb with
      | true =>
        have HK2 : Hid (true = decide (tk = 2 ∧ tt ∈ kinds.take (i + 1))) := Lib.hid (by rw [HMORE.out, ← HKB.out]; rfl)
        clear hki
        go_wp2
        go_region
        all_goals
          go_wp2
          go_roundw
          case rel => exact ⟨i + 1, true, by rfl, by go_num, by omega, HK2, Lib.hid (HL.out.old (by repeat (first | exact Ch.refl _ _ | refine Ch.drew ?_ | refine Ch.drewN ?_ _ | refine Ch.alloc ?_ _)))⟩
          case measure => simp [intOf]; omega
      | false =>
        cases hk2 : (tk == 2) with
        | false =>
          have HK2 : Hid (false = decide (tk = 2 ∧ tt ∈ kinds.take (i + 1))) := Lib.hid (by rw [HMORE.out, ← HKB.out, hk2]; rfl)
          clear hki
          go_wp2
          go_region
          all_goals
            go_wp2
            go_roundw
            case rel => exact ⟨i + 1, false, by rfl, by go_num, by omega, HK2, Lib.hid (HL.out.old (by repeat (first | exact Ch.refl _ _ | refine Ch.drew ?_ | refine Ch.drewN ?_ _ | refine Ch.alloc ?_ _)))⟩
            case measure => simp [intOf]; omega
        | true =>
          have HK2 : Hid ((tt == ki) = decide (tk = 2 ∧ tt ∈ kinds.take (i + 1))) := Lib.hid (by rw [HMORE.out, ← HKB.out, hk2]; simp)
          clear hki
          have etk : tk = 2 := by simpa using hk2
          subst etk
          go_wp2
          go_region
          all_goals
            go_wp2
            go_roundw
            case rel => exact ⟨i + 1, (tt == ki), by rfl, by go_num, by omega, HK2, Lib.hid (HL.out.old (by repeat (first | exact Ch.refl _ _ | refine Ch.drew ?_ | refine Ch.drewN ?_ _ | refine Ch.alloc ?_ _)))⟩
            case measure => simp [intOf]; omega
    · have hi1 : ¬ (i : Int) < 6 := by omega
      have hi6 : i = 6 := by omega
      have HKF : Hid (kb = decide (tk = 2 ∧ tt ∈ kinds)) := Lib.hid (by rw [HKB.out, hi6]; rfl)
      clear hi6
      cases kb with
      | false =>
        have CF : Hid (Calls Tryz.prog 91 #[.pointer (some ⟨B, 0, none⟩), .int .i64 7, .agg #[.int .i64 tk, .string ⟨tt.toArray⟩, .int .i64 tn, .int .i64 tl, .int .i64 tc_]] wr (fun e w' => e = .returned (.tuple #[]) ∧ RCur w' B toks (shq x v1 v2 v3 v4 v5 v6) none ∧ Ch (· = B) wr w')) := Lib.hid (fail_any HL.out.cur 7 (by decide) ⟨tk, tt, tn, tl, tc_⟩)
        go_wp2_with (first
          | (go_at_call 91; (with_reducible refine CF.out.mono ?_); rintro e w8 ⟨rfl, h8, c8⟩; have HC8 := Lib.hid c8; have HR8 := Lib.hid h8; clear h8 c8)
          | fail)
        refine bodyPost_ret (results_none rfl _ _ _) rfl ?_
        exact fault_close hB HS.out (line_no HKF.out.symm) HR8.out (HL.out.ch.trans HC8.out)
      | true =>
        have hkf := of_decide_eq_true HKF.out.symm
        obtain ⟨etk, hmem⟩ := hkf
        subst etk
        obtain ⟨p, rfl, rfl, rfl, rfl, rfl, rfl, -, -⟩ := HS.out.sh
        simp only [kinds, List.mem_cons, List.not_mem_nil, or_false] at hmem
        clear HKB HKF
        rcases hmem with e | e | e | e | e | e
        · subst e
          have HY : Hid (lineS x ⟨2, kStop, tn, tl, tc_⟩ r = if fullS x kStop = true then (x, none) else ((thingS kStop x (some r)).1, (takeS 4 [] (thingS kStop x (some r)).2).2)) := Lib.hid (by unfold lineS; exact if_pos ⟨rfl, (by decide : kStop ∈ kinds)⟩)
          have HFL : Hid (fullS x kStop = decide (256 ≤ x.stops.length)) := Lib.hid rfl
          have y1 : wr.cell? ⟨b, 1, none⟩ = some (.string ⟨#[115, 116, 111, 112]⟩) := HL.out.box.cell 1
          have x0 : wr.cell? ⟨B, 5, none⟩ = some (.int .i64 x.horizon) := HL.out.cur.cell 0
          have x1 : wr.cell? ⟨B, 6, none⟩ = some (.slice p.a1 x.stops.length p.c1) := HL.out.cur.cell 1
          have x2 : wr.cell? ⟨B, 7, none⟩ = some (.slice p.a2 x.paths.length p.c2) := HL.out.cur.cell 2
          have x3 : wr.cell? ⟨B, 8, none⟩ = some (.slice p.a3 x.doors.length p.c3) := HL.out.cur.cell 3
          have x4 : wr.cell? ⟨B, 9, none⟩ = some (.slice p.a4 x.routes.length p.c4) := HL.out.cur.cell 4
          have x5 : wr.cell? ⟨B, 10, none⟩ = some (.slice p.a5 x.trips.length p.c5) := HL.out.cur.cell 5
          have x6 : wr.cell? ⟨B, 11, none⟩ = some (.slice p.a6 x.hazards.length p.c6) := HL.out.cur.cell 6
          have CFU := Lib.hid (fun w' => full_stop x.horizon p.a1 p.a2 p.a3 p.a4 p.a5 p.a6 x.stops.length x.paths.length x.doors.length x.routes.length x.trips.length x.hazards.length p.c1 p.c2 p.c3 p.c4 p.c5 p.c6 w')
          go_upto_region 9 with (fail)
          go_cut [41] (fun s41 wx => s41 = .bool (decide (256 ≤ x.stops.length)) ∧ LnAt w B b M toks (shq x (.slice p.a1 x.stops.length p.c1) (.slice p.a2 x.paths.length p.c2) (.slice p.a3 x.doors.length p.c3) (.slice p.a4 x.routes.length p.c4) (.slice p.a5 x.trips.length p.c5) (.slice p.a6 x.hazards.length p.c6)) 2 kStop tn tl tc_ (some (⟨2, kStop, tn, tl, tc_⟩ :: r)) wx)
          case first =>
            go_region_law (first
              | (go_simp; go_at_call 92; refine (CFU.out _).mono ?_; rintro e w7 ⟨rfl, h7⟩; have HL7 := Lib.hid (HL.out.old (Ch.trans (by repeat (first | exact Ch.refl _ _ | refine Ch.drew ?_ | refine Ch.drewN ?_ _ | refine Ch.alloc ?_ _)) (.of_below h7))); clear h7)
              | fail)
            all_goals
              go_wp2_with fail
              go_meet
              exact ⟨rfl, HL7.out⟩
          case rest =>
            obtain ⟨rfl, hl9⟩ := hcut
            have HL9 := Lib.hid hl9
            clear hl9 x0 x1 x2 x3 x4 x5 x6 y0 y1 y2 y3 y4 HL
            cases hf : decide (256 ≤ x.stops.length) with
            | true =>
              have HYN : Hid (lineS x ⟨2, kStop, tn, tl, tc_⟩ r = (x, none)) := Lib.hid (by rw [HY.out, HFL.out, hf]; rfl)
              have CF : Hid (Calls Tryz.prog 91 #[.pointer (some ⟨B, 0, none⟩), .int .i64 3, .agg #[.int .i64 2, .string ⟨#[115, 116, 111, 112]⟩, .int .i64 tn, .int .i64 tl, .int .i64 tc_]] wc (fun e w' => e = .returned (.tuple #[]) ∧ RCur w' B toks (shq x (.slice p.a1 x.stops.length p.c1) (.slice p.a2 x.paths.length p.c2) (.slice p.a3 x.doors.length p.c3) (.slice p.a4 x.routes.length p.c4) (.slice p.a5 x.trips.length p.c5) (.slice p.a6 x.hazards.length p.c6)) none ∧ Ch (· = B) wc w')) := Lib.hid (fail_any HL9.out.cur 3 (by decide) ⟨2, kStop, tn, tl, tc_⟩)
              have y0 : wc.cell? ⟨b, 0, none⟩ = some (.int .i64 2) := HL9.out.box.cell 0
              have y1 : wc.cell? ⟨b, 1, none⟩ = some (.string ⟨#[115, 116, 111, 112]⟩) := HL9.out.box.cell 1
              have y2 : wc.cell? ⟨b, 2, none⟩ = some (.int .i64 tn) := HL9.out.box.cell 2
              have y3 : wc.cell? ⟨b, 3, none⟩ = some (.int .i64 tl) := HL9.out.box.cell 3
              have y4 : wc.cell? ⟨b, 4, none⟩ = some (.int .i64 tc_) := HL9.out.box.cell 4
              go_wp2_with (first
                | (go_at_call 91; (with_reducible refine CF.out.mono ?_); rintro e w8 ⟨rfl, h8, c8⟩; have HC8 := Lib.hid c8; have HR8 := Lib.hid h8; clear h8 c8)
                | fail)
              refine bodyPost_ret (results_none rfl _ _ _) rfl ?_
              exact fault_close hB HS.out HYN.out HR8.out (HL9.out.ch.trans HC8.out)
            | false =>
              have hlt9 : x.stops.length < 256 := by have := of_decide_eq_false hf; omega
              have HYN : Hid (lineS x ⟨2, kStop, tn, tl, tc_⟩ r = ((thingS kStop x (some r)).1, (takeS 4 [] (thingS kStop x (some r)).2).2)) := Lib.hid (by rw [HY.out, HFL.out, hf]; rfl)
              obtain ⟨at_, hat, b1, hadv⟩ := HL9.out.cur.adv
              have bf := HL9.out.cur.frozen
              have hbB : b ≠ B := by have := HL9.out.h0; omega
              have hbB' : B ≠ b := fun e => hbB e.symm
              have hcA := HL9.out.ch.trans (ch_set wc B 1 (.int .i64 ((at_ : Int) + 1)))
              have TH : Hid (Calls Tryz.prog 93 #[.pointer (some ⟨B, 0, none⟩), .string ⟨#[115, 116, 111, 112]⟩] (wc.setCell ⟨B, 1, none⟩ (.int .i64 ((at_ : Int) + 1))) (ThPost (wc.setCell ⟨B, 1, none⟩ (.int .i64 ((at_ : Int) + 1))) B toks (thingS kStop x (some r)))) := Lib.hid (thing_stop hadv (HS.out.ch hcA fun k hk e => by omega) hlt9)
              have y1 : (wc.setCell ⟨B, 1, none⟩ (.int .i64 ((at_ : Int) + 1))).cell? ⟨b, 1, none⟩ = some (.string ⟨#[115, 116, 111, 112]⟩) := ((ch_set wc B 1 (.int .i64 ((at_ : Int) + 1))).blk HL9.out.box hbB).cell 1
              have HSF := Lib.hid (suf_end (suf_thing kStop x (some r)) (fun ts e => by injection e with e; subst e; exact HE.out rfl))
              have HBA : Hid (Below B w (wc.setCell ⟨B, 1, none⟩ (.int .i64 ((at_ : Int) + 1)))) := Lib.hid (below_ch hB hcA)
              generalize thingS kStop x (some r) = y at HYN HSF TH
              obtain ⟨xx, st'⟩ := y
              dsimp only at HYN HSF
              clear hadv hcA hf
              go_wp2_with (first
                | (go_at_call 93; (with_reducible refine TH.out.mono ?_); rintro e w12 ⟨rfl, ⟨u1, u2, u3, u4, u5, u6, h12, hs12⟩, hb12⟩; have HR12 := Lib.hid h12; have HS12 := Lib.hid hs12; have HB12 := Lib.hid (HBA.out.trans hb12); have TK : Hid (Calls Tryz.prog 60 #[.pointer (some ⟨B, 0, none⟩), .int .i64 4, .string ⟨#[]⟩] w12 (RPos w12 B toks (shq xx u1 u2 u3 u4 u5 u6) (tkV (takeS 4 [] st').1) (takeS 4 [] st').2)) := Lib.hid (take_any HR12.out 4 [] (fun _ ts e => (HSF.out ts e).ne)); clear h12 hs12 hb12)
                | (go_at_call 60; (with_reducible refine TK.out.mono ?_); rintro e w13 ⟨rfl, h13, c13⟩; have HR13 := Lib.hid h13; have HC13 := Lib.hid c13; clear h13 c13)
                | fail)
              go_end0
              rw [HYN.out]
              exact ⟨rfl, ⟨u1, u2, u3, u4, u5, u6, HR13.out, HS12.out.ch HC13.out fun k hk e => by omega⟩, HB12.out.trans (HC13.out.below (Nat.le_of_lt HR12.out.lt) fun k e => by omega)⟩
        · subst e
          have HY : Hid (lineS x ⟨2, kPath, tn, tl, tc_⟩ r = if fullS x kPath = true then (x, none) else ((thingS kPath x (some r)).1, (takeS 4 [] (thingS kPath x (some r)).2).2)) := Lib.hid (by unfold lineS; exact if_pos ⟨rfl, (by decide : kPath ∈ kinds)⟩)
          have HFL : Hid (fullS x kPath = decide (1024 ≤ x.paths.length)) := Lib.hid rfl
          have y1 : wr.cell? ⟨b, 1, none⟩ = some (.string ⟨#[112, 97, 116, 104]⟩) := HL.out.box.cell 1
          have x0 : wr.cell? ⟨B, 5, none⟩ = some (.int .i64 x.horizon) := HL.out.cur.cell 0
          have x1 : wr.cell? ⟨B, 6, none⟩ = some (.slice p.a1 x.stops.length p.c1) := HL.out.cur.cell 1
          have x2 : wr.cell? ⟨B, 7, none⟩ = some (.slice p.a2 x.paths.length p.c2) := HL.out.cur.cell 2
          have x3 : wr.cell? ⟨B, 8, none⟩ = some (.slice p.a3 x.doors.length p.c3) := HL.out.cur.cell 3
          have x4 : wr.cell? ⟨B, 9, none⟩ = some (.slice p.a4 x.routes.length p.c4) := HL.out.cur.cell 4
          have x5 : wr.cell? ⟨B, 10, none⟩ = some (.slice p.a5 x.trips.length p.c5) := HL.out.cur.cell 5
          have x6 : wr.cell? ⟨B, 11, none⟩ = some (.slice p.a6 x.hazards.length p.c6) := HL.out.cur.cell 6
          have CFU := Lib.hid (fun w' => full_path x.horizon p.a1 p.a2 p.a3 p.a4 p.a5 p.a6 x.stops.length x.paths.length x.doors.length x.routes.length x.trips.length x.hazards.length p.c1 p.c2 p.c3 p.c4 p.c5 p.c6 w')
          go_upto_region 9 with (fail)
          go_cut [41] (fun s41 wx => s41 = .bool (decide (1024 ≤ x.paths.length)) ∧ LnAt w B b M toks (shq x (.slice p.a1 x.stops.length p.c1) (.slice p.a2 x.paths.length p.c2) (.slice p.a3 x.doors.length p.c3) (.slice p.a4 x.routes.length p.c4) (.slice p.a5 x.trips.length p.c5) (.slice p.a6 x.hazards.length p.c6)) 2 kPath tn tl tc_ (some (⟨2, kPath, tn, tl, tc_⟩ :: r)) wx)
          case first =>
            go_region_law (first
              | (go_simp; go_at_call 92; refine (CFU.out _).mono ?_; rintro e w7 ⟨rfl, h7⟩; have HL7 := Lib.hid (HL.out.old (Ch.trans (by repeat (first | exact Ch.refl _ _ | refine Ch.drew ?_ | refine Ch.drewN ?_ _ | refine Ch.alloc ?_ _)) (.of_below h7))); clear h7)
              | fail)
            all_goals
              go_wp2_with fail
              go_meet
              exact ⟨rfl, HL7.out⟩
          case rest =>
            obtain ⟨rfl, hl9⟩ := hcut
            have HL9 := Lib.hid hl9
            clear hl9 x0 x1 x2 x3 x4 x5 x6 y0 y1 y2 y3 y4 HL
            cases hf : decide (1024 ≤ x.paths.length) with
            | true =>
              have HYN : Hid (lineS x ⟨2, kPath, tn, tl, tc_⟩ r = (x, none)) := Lib.hid (by rw [HY.out, HFL.out, hf]; rfl)
              have CF : Hid (Calls Tryz.prog 91 #[.pointer (some ⟨B, 0, none⟩), .int .i64 3, .agg #[.int .i64 2, .string ⟨#[112, 97, 116, 104]⟩, .int .i64 tn, .int .i64 tl, .int .i64 tc_]] wc (fun e w' => e = .returned (.tuple #[]) ∧ RCur w' B toks (shq x (.slice p.a1 x.stops.length p.c1) (.slice p.a2 x.paths.length p.c2) (.slice p.a3 x.doors.length p.c3) (.slice p.a4 x.routes.length p.c4) (.slice p.a5 x.trips.length p.c5) (.slice p.a6 x.hazards.length p.c6)) none ∧ Ch (· = B) wc w')) := Lib.hid (fail_any HL9.out.cur 3 (by decide) ⟨2, kPath, tn, tl, tc_⟩)
              have y0 : wc.cell? ⟨b, 0, none⟩ = some (.int .i64 2) := HL9.out.box.cell 0
              have y1 : wc.cell? ⟨b, 1, none⟩ = some (.string ⟨#[112, 97, 116, 104]⟩) := HL9.out.box.cell 1
              have y2 : wc.cell? ⟨b, 2, none⟩ = some (.int .i64 tn) := HL9.out.box.cell 2
              have y3 : wc.cell? ⟨b, 3, none⟩ = some (.int .i64 tl) := HL9.out.box.cell 3
              have y4 : wc.cell? ⟨b, 4, none⟩ = some (.int .i64 tc_) := HL9.out.box.cell 4
              go_wp2_with (first
                | (go_at_call 91; (with_reducible refine CF.out.mono ?_); rintro e w8 ⟨rfl, h8, c8⟩; have HC8 := Lib.hid c8; have HR8 := Lib.hid h8; clear h8 c8)
                | fail)
              refine bodyPost_ret (results_none rfl _ _ _) rfl ?_
              exact fault_close hB HS.out HYN.out HR8.out (HL9.out.ch.trans HC8.out)
            | false =>
              have hlt9 : x.paths.length < 1024 := by have := of_decide_eq_false hf; omega
              have HYN : Hid (lineS x ⟨2, kPath, tn, tl, tc_⟩ r = ((thingS kPath x (some r)).1, (takeS 4 [] (thingS kPath x (some r)).2).2)) := Lib.hid (by rw [HY.out, HFL.out, hf]; rfl)
              obtain ⟨at_, hat, b1, hadv⟩ := HL9.out.cur.adv
              have bf := HL9.out.cur.frozen
              have hbB : b ≠ B := by have := HL9.out.h0; omega
              have hbB' : B ≠ b := fun e => hbB e.symm
              have hcA := HL9.out.ch.trans (ch_set wc B 1 (.int .i64 ((at_ : Int) + 1)))
              have TH : Hid (Calls Tryz.prog 93 #[.pointer (some ⟨B, 0, none⟩), .string ⟨#[112, 97, 116, 104]⟩] (wc.setCell ⟨B, 1, none⟩ (.int .i64 ((at_ : Int) + 1))) (ThPost (wc.setCell ⟨B, 1, none⟩ (.int .i64 ((at_ : Int) + 1))) B toks (thingS kPath x (some r)))) := Lib.hid (thing_path hadv (HS.out.ch hcA fun k hk e => by omega) hlt9)
              have y1 : (wc.setCell ⟨B, 1, none⟩ (.int .i64 ((at_ : Int) + 1))).cell? ⟨b, 1, none⟩ = some (.string ⟨#[112, 97, 116, 104]⟩) := ((ch_set wc B 1 (.int .i64 ((at_ : Int) + 1))).blk HL9.out.box hbB).cell 1
              have HSF := Lib.hid (suf_end (suf_thing kPath x (some r)) (fun ts e => by injection e with e; subst e; exact HE.out rfl))
              have HBA : Hid (Below B w (wc.setCell ⟨B, 1, none⟩ (.int .i64 ((at_ : Int) + 1)))) := Lib.hid (below_ch hB hcA)
              generalize thingS kPath x (some r) = y at HYN HSF TH
              obtain ⟨xx, st'⟩ := y
              dsimp only at HYN HSF
              clear hadv hcA hf
              go_wp2_with (first
                | (go_at_call 93; (with_reducible refine TH.out.mono ?_); rintro e w12 ⟨rfl, ⟨u1, u2, u3, u4, u5, u6, h12, hs12⟩, hb12⟩; have HR12 := Lib.hid h12; have HS12 := Lib.hid hs12; have HB12 := Lib.hid (HBA.out.trans hb12); have TK : Hid (Calls Tryz.prog 60 #[.pointer (some ⟨B, 0, none⟩), .int .i64 4, .string ⟨#[]⟩] w12 (RPos w12 B toks (shq xx u1 u2 u3 u4 u5 u6) (tkV (takeS 4 [] st').1) (takeS 4 [] st').2)) := Lib.hid (take_any HR12.out 4 [] (fun _ ts e => (HSF.out ts e).ne)); clear h12 hs12 hb12)
                | (go_at_call 60; (with_reducible refine TK.out.mono ?_); rintro e w13 ⟨rfl, h13, c13⟩; have HR13 := Lib.hid h13; have HC13 := Lib.hid c13; clear h13 c13)
                | fail)
              go_end0
              rw [HYN.out]
              exact ⟨rfl, ⟨u1, u2, u3, u4, u5, u6, HR13.out, HS12.out.ch HC13.out fun k hk e => by omega⟩, HB12.out.trans (HC13.out.below (Nat.le_of_lt HR12.out.lt) fun k e => by omega)⟩
        · subst e
          have HY : Hid (lineS x ⟨2, kDoor, tn, tl, tc_⟩ r = if fullS x kDoor = true then (x, none) else ((thingS kDoor x (some r)).1, (takeS 4 [] (thingS kDoor x (some r)).2).2)) := Lib.hid (by unfold lineS; exact if_pos ⟨rfl, (by decide : kDoor ∈ kinds)⟩)
          have HFL : Hid (fullS x kDoor = decide (256 ≤ x.doors.length)) := Lib.hid rfl
          have y1 : wr.cell? ⟨b, 1, none⟩ = some (.string ⟨#[100, 111, 111, 114]⟩) := HL.out.box.cell 1
          have x0 : wr.cell? ⟨B, 5, none⟩ = some (.int .i64 x.horizon) := HL.out.cur.cell 0
          have x1 : wr.cell? ⟨B, 6, none⟩ = some (.slice p.a1 x.stops.length p.c1) := HL.out.cur.cell 1
          have x2 : wr.cell? ⟨B, 7, none⟩ = some (.slice p.a2 x.paths.length p.c2) := HL.out.cur.cell 2
          have x3 : wr.cell? ⟨B, 8, none⟩ = some (.slice p.a3 x.doors.length p.c3) := HL.out.cur.cell 3
          have x4 : wr.cell? ⟨B, 9, none⟩ = some (.slice p.a4 x.routes.length p.c4) := HL.out.cur.cell 4
          have x5 : wr.cell? ⟨B, 10, none⟩ = some (.slice p.a5 x.trips.length p.c5) := HL.out.cur.cell 5
          have x6 : wr.cell? ⟨B, 11, none⟩ = some (.slice p.a6 x.hazards.length p.c6) := HL.out.cur.cell 6
          have CFU := Lib.hid (fun w' => full_door x.horizon p.a1 p.a2 p.a3 p.a4 p.a5 p.a6 x.stops.length x.paths.length x.doors.length x.routes.length x.trips.length x.hazards.length p.c1 p.c2 p.c3 p.c4 p.c5 p.c6 w')
          go_upto_region 9 with (fail)
          go_cut [41] (fun s41 wx => s41 = .bool (decide (256 ≤ x.doors.length)) ∧ LnAt w B b M toks (shq x (.slice p.a1 x.stops.length p.c1) (.slice p.a2 x.paths.length p.c2) (.slice p.a3 x.doors.length p.c3) (.slice p.a4 x.routes.length p.c4) (.slice p.a5 x.trips.length p.c5) (.slice p.a6 x.hazards.length p.c6)) 2 kDoor tn tl tc_ (some (⟨2, kDoor, tn, tl, tc_⟩ :: r)) wx)
          case first =>
            go_region_law (first
              | (go_simp; go_at_call 92; refine (CFU.out _).mono ?_; rintro e w7 ⟨rfl, h7⟩; have HL7 := Lib.hid (HL.out.old (Ch.trans (by repeat (first | exact Ch.refl _ _ | refine Ch.drew ?_ | refine Ch.drewN ?_ _ | refine Ch.alloc ?_ _)) (.of_below h7))); clear h7)
              | fail)
            all_goals
              go_wp2_with fail
              go_meet
              exact ⟨rfl, HL7.out⟩
          case rest =>
            obtain ⟨rfl, hl9⟩ := hcut
            have HL9 := Lib.hid hl9
            clear hl9 x0 x1 x2 x3 x4 x5 x6 y0 y1 y2 y3 y4 HL
            cases hf : decide (256 ≤ x.doors.length) with
            | true =>
              have HYN : Hid (lineS x ⟨2, kDoor, tn, tl, tc_⟩ r = (x, none)) := Lib.hid (by rw [HY.out, HFL.out, hf]; rfl)
              have CF : Hid (Calls Tryz.prog 91 #[.pointer (some ⟨B, 0, none⟩), .int .i64 3, .agg #[.int .i64 2, .string ⟨#[100, 111, 111, 114]⟩, .int .i64 tn, .int .i64 tl, .int .i64 tc_]] wc (fun e w' => e = .returned (.tuple #[]) ∧ RCur w' B toks (shq x (.slice p.a1 x.stops.length p.c1) (.slice p.a2 x.paths.length p.c2) (.slice p.a3 x.doors.length p.c3) (.slice p.a4 x.routes.length p.c4) (.slice p.a5 x.trips.length p.c5) (.slice p.a6 x.hazards.length p.c6)) none ∧ Ch (· = B) wc w')) := Lib.hid (fail_any HL9.out.cur 3 (by decide) ⟨2, kDoor, tn, tl, tc_⟩)
              have y0 : wc.cell? ⟨b, 0, none⟩ = some (.int .i64 2) := HL9.out.box.cell 0
              have y1 : wc.cell? ⟨b, 1, none⟩ = some (.string ⟨#[100, 111, 111, 114]⟩) := HL9.out.box.cell 1
              have y2 : wc.cell? ⟨b, 2, none⟩ = some (.int .i64 tn) := HL9.out.box.cell 2
              have y3 : wc.cell? ⟨b, 3, none⟩ = some (.int .i64 tl) := HL9.out.box.cell 3
              have y4 : wc.cell? ⟨b, 4, none⟩ = some (.int .i64 tc_) := HL9.out.box.cell 4
              go_wp2_with (first
                | (go_at_call 91; (with_reducible refine CF.out.mono ?_); rintro e w8 ⟨rfl, h8, c8⟩; have HC8 := Lib.hid c8; have HR8 := Lib.hid h8; clear h8 c8)
                | fail)
              refine bodyPost_ret (results_none rfl _ _ _) rfl ?_
              exact fault_close hB HS.out HYN.out HR8.out (HL9.out.ch.trans HC8.out)
            | false =>
              have hlt9 : x.doors.length < 256 := by have := of_decide_eq_false hf; omega
              have HYN : Hid (lineS x ⟨2, kDoor, tn, tl, tc_⟩ r = ((thingS kDoor x (some r)).1, (takeS 4 [] (thingS kDoor x (some r)).2).2)) := Lib.hid (by rw [HY.out, HFL.out, hf]; rfl)
              obtain ⟨at_, hat, b1, hadv⟩ := HL9.out.cur.adv
              have bf := HL9.out.cur.frozen
              have hbB : b ≠ B := by have := HL9.out.h0; omega
              have hbB' : B ≠ b := fun e => hbB e.symm
              have hcA := HL9.out.ch.trans (ch_set wc B 1 (.int .i64 ((at_ : Int) + 1)))
              have TH : Hid (Calls Tryz.prog 93 #[.pointer (some ⟨B, 0, none⟩), .string ⟨#[100, 111, 111, 114]⟩] (wc.setCell ⟨B, 1, none⟩ (.int .i64 ((at_ : Int) + 1))) (ThPost (wc.setCell ⟨B, 1, none⟩ (.int .i64 ((at_ : Int) + 1))) B toks (thingS kDoor x (some r)))) := Lib.hid (thing_door hadv (HS.out.ch hcA fun k hk e => by omega) hlt9)
              have y1 : (wc.setCell ⟨B, 1, none⟩ (.int .i64 ((at_ : Int) + 1))).cell? ⟨b, 1, none⟩ = some (.string ⟨#[100, 111, 111, 114]⟩) := ((ch_set wc B 1 (.int .i64 ((at_ : Int) + 1))).blk HL9.out.box hbB).cell 1
              have HSF := Lib.hid (suf_end (suf_thing kDoor x (some r)) (fun ts e => by injection e with e; subst e; exact HE.out rfl))
              have HBA : Hid (Below B w (wc.setCell ⟨B, 1, none⟩ (.int .i64 ((at_ : Int) + 1)))) := Lib.hid (below_ch hB hcA)
              generalize thingS kDoor x (some r) = y at HYN HSF TH
              obtain ⟨xx, st'⟩ := y
              dsimp only at HYN HSF
              clear hadv hcA hf
              go_wp2_with (first
                | (go_at_call 93; (with_reducible refine TH.out.mono ?_); rintro e w12 ⟨rfl, ⟨u1, u2, u3, u4, u5, u6, h12, hs12⟩, hb12⟩; have HR12 := Lib.hid h12; have HS12 := Lib.hid hs12; have HB12 := Lib.hid (HBA.out.trans hb12); have TK : Hid (Calls Tryz.prog 60 #[.pointer (some ⟨B, 0, none⟩), .int .i64 4, .string ⟨#[]⟩] w12 (RPos w12 B toks (shq xx u1 u2 u3 u4 u5 u6) (tkV (takeS 4 [] st').1) (takeS 4 [] st').2)) := Lib.hid (take_any HR12.out 4 [] (fun _ ts e => (HSF.out ts e).ne)); clear h12 hs12 hb12)
                | (go_at_call 60; (with_reducible refine TK.out.mono ?_); rintro e w13 ⟨rfl, h13, c13⟩; have HR13 := Lib.hid h13; have HC13 := Lib.hid c13; clear h13 c13)
                | fail)
              go_end0
              rw [HYN.out]
              exact ⟨rfl, ⟨u1, u2, u3, u4, u5, u6, HR13.out, HS12.out.ch HC13.out fun k hk e => by omega⟩, HB12.out.trans (HC13.out.below (Nat.le_of_lt HR12.out.lt) fun k e => by omega)⟩
        · subst e
          have HY : Hid (lineS x ⟨2, kRoute, tn, tl, tc_⟩ r = if fullS x kRoute = true then (x, none) else ((thingS kRoute x (some r)).1, (takeS 4 [] (thingS kRoute x (some r)).2).2)) := Lib.hid (by unfold lineS; exact if_pos ⟨rfl, (by decide : kRoute ∈ kinds)⟩)
          have HFL : Hid (fullS x kRoute = decide (256 ≤ x.routes.length)) := Lib.hid rfl
          have y1 : wr.cell? ⟨b, 1, none⟩ = some (.string ⟨#[114, 111, 117, 116, 101]⟩) := HL.out.box.cell 1
          have x0 : wr.cell? ⟨B, 5, none⟩ = some (.int .i64 x.horizon) := HL.out.cur.cell 0
          have x1 : wr.cell? ⟨B, 6, none⟩ = some (.slice p.a1 x.stops.length p.c1) := HL.out.cur.cell 1
          have x2 : wr.cell? ⟨B, 7, none⟩ = some (.slice p.a2 x.paths.length p.c2) := HL.out.cur.cell 2
          have x3 : wr.cell? ⟨B, 8, none⟩ = some (.slice p.a3 x.doors.length p.c3) := HL.out.cur.cell 3
          have x4 : wr.cell? ⟨B, 9, none⟩ = some (.slice p.a4 x.routes.length p.c4) := HL.out.cur.cell 4
          have x5 : wr.cell? ⟨B, 10, none⟩ = some (.slice p.a5 x.trips.length p.c5) := HL.out.cur.cell 5
          have x6 : wr.cell? ⟨B, 11, none⟩ = some (.slice p.a6 x.hazards.length p.c6) := HL.out.cur.cell 6
          have CFU := Lib.hid (fun w' => full_route x.horizon p.a1 p.a2 p.a3 p.a4 p.a5 p.a6 x.stops.length x.paths.length x.doors.length x.routes.length x.trips.length x.hazards.length p.c1 p.c2 p.c3 p.c4 p.c5 p.c6 w')
          go_upto_region 9 with (fail)
          go_cut [41] (fun s41 wx => s41 = .bool (decide (256 ≤ x.routes.length)) ∧ LnAt w B b M toks (shq x (.slice p.a1 x.stops.length p.c1) (.slice p.a2 x.paths.length p.c2) (.slice p.a3 x.doors.length p.c3) (.slice p.a4 x.routes.length p.c4) (.slice p.a5 x.trips.length p.c5) (.slice p.a6 x.hazards.length p.c6)) 2 kRoute tn tl tc_ (some (⟨2, kRoute, tn, tl, tc_⟩ :: r)) wx)
          case first =>
            go_region_law (first
              | (go_simp; go_at_call 92; refine (CFU.out _).mono ?_; rintro e w7 ⟨rfl, h7⟩; have HL7 := Lib.hid (HL.out.old (Ch.trans (by repeat (first | exact Ch.refl _ _ | refine Ch.drew ?_ | refine Ch.drewN ?_ _ | refine Ch.alloc ?_ _)) (.of_below h7))); clear h7)
              | fail)
            all_goals
              go_wp2_with fail
              go_meet
              exact ⟨rfl, HL7.out⟩
          case rest =>
            obtain ⟨rfl, hl9⟩ := hcut
            have HL9 := Lib.hid hl9
            clear hl9 x0 x1 x2 x3 x4 x5 x6 y0 y1 y2 y3 y4 HL
            cases hf : decide (256 ≤ x.routes.length) with
            | true =>
              have HYN : Hid (lineS x ⟨2, kRoute, tn, tl, tc_⟩ r = (x, none)) := Lib.hid (by rw [HY.out, HFL.out, hf]; rfl)
              have CF : Hid (Calls Tryz.prog 91 #[.pointer (some ⟨B, 0, none⟩), .int .i64 3, .agg #[.int .i64 2, .string ⟨#[114, 111, 117, 116, 101]⟩, .int .i64 tn, .int .i64 tl, .int .i64 tc_]] wc (fun e w' => e = .returned (.tuple #[]) ∧ RCur w' B toks (shq x (.slice p.a1 x.stops.length p.c1) (.slice p.a2 x.paths.length p.c2) (.slice p.a3 x.doors.length p.c3) (.slice p.a4 x.routes.length p.c4) (.slice p.a5 x.trips.length p.c5) (.slice p.a6 x.hazards.length p.c6)) none ∧ Ch (· = B) wc w')) := Lib.hid (fail_any HL9.out.cur 3 (by decide) ⟨2, kRoute, tn, tl, tc_⟩)
              have y0 : wc.cell? ⟨b, 0, none⟩ = some (.int .i64 2) := HL9.out.box.cell 0
              have y1 : wc.cell? ⟨b, 1, none⟩ = some (.string ⟨#[114, 111, 117, 116, 101]⟩) := HL9.out.box.cell 1
              have y2 : wc.cell? ⟨b, 2, none⟩ = some (.int .i64 tn) := HL9.out.box.cell 2
              have y3 : wc.cell? ⟨b, 3, none⟩ = some (.int .i64 tl) := HL9.out.box.cell 3
              have y4 : wc.cell? ⟨b, 4, none⟩ = some (.int .i64 tc_) := HL9.out.box.cell 4
              go_wp2_with (first
                | (go_at_call 91; (with_reducible refine CF.out.mono ?_); rintro e w8 ⟨rfl, h8, c8⟩; have HC8 := Lib.hid c8; have HR8 := Lib.hid h8; clear h8 c8)
                | fail)
              refine bodyPost_ret (results_none rfl _ _ _) rfl ?_
              exact fault_close hB HS.out HYN.out HR8.out (HL9.out.ch.trans HC8.out)
            | false =>
              have hlt9 : x.routes.length < 256 := by have := of_decide_eq_false hf; omega
              have HYN : Hid (lineS x ⟨2, kRoute, tn, tl, tc_⟩ r = ((thingS kRoute x (some r)).1, (takeS 4 [] (thingS kRoute x (some r)).2).2)) := Lib.hid (by rw [HY.out, HFL.out, hf]; rfl)
              obtain ⟨at_, hat, b1, hadv⟩ := HL9.out.cur.adv
              have bf := HL9.out.cur.frozen
              have hbB : b ≠ B := by have := HL9.out.h0; omega
              have hbB' : B ≠ b := fun e => hbB e.symm
              have hcA := HL9.out.ch.trans (ch_set wc B 1 (.int .i64 ((at_ : Int) + 1)))
              have TH : Hid (Calls Tryz.prog 93 #[.pointer (some ⟨B, 0, none⟩), .string ⟨#[114, 111, 117, 116, 101]⟩] (wc.setCell ⟨B, 1, none⟩ (.int .i64 ((at_ : Int) + 1))) (ThPost (wc.setCell ⟨B, 1, none⟩ (.int .i64 ((at_ : Int) + 1))) B toks (thingS kRoute x (some r)))) := Lib.hid (thing_route hadv (HS.out.ch hcA fun k hk e => by omega) hlt9 (fun ts e => by injection e with e; subst e; exact HE.out rfl))
              have y1 : (wc.setCell ⟨B, 1, none⟩ (.int .i64 ((at_ : Int) + 1))).cell? ⟨b, 1, none⟩ = some (.string ⟨#[114, 111, 117, 116, 101]⟩) := ((ch_set wc B 1 (.int .i64 ((at_ : Int) + 1))).blk HL9.out.box hbB).cell 1
              have HSF := Lib.hid (suf_end (suf_thing kRoute x (some r)) (fun ts e => by injection e with e; subst e; exact HE.out rfl))
              have HBA : Hid (Below B w (wc.setCell ⟨B, 1, none⟩ (.int .i64 ((at_ : Int) + 1)))) := Lib.hid (below_ch hB hcA)
              generalize thingS kRoute x (some r) = y at HYN HSF TH
              obtain ⟨xx, st'⟩ := y
              dsimp only at HYN HSF
              clear hadv hcA hf
              go_wp2_with (first
                | (go_at_call 93; (with_reducible refine TH.out.mono ?_); rintro e w12 ⟨rfl, ⟨u1, u2, u3, u4, u5, u6, h12, hs12⟩, hb12⟩; have HR12 := Lib.hid h12; have HS12 := Lib.hid hs12; have HB12 := Lib.hid (HBA.out.trans hb12); have TK : Hid (Calls Tryz.prog 60 #[.pointer (some ⟨B, 0, none⟩), .int .i64 4, .string ⟨#[]⟩] w12 (RPos w12 B toks (shq xx u1 u2 u3 u4 u5 u6) (tkV (takeS 4 [] st').1) (takeS 4 [] st').2)) := Lib.hid (take_any HR12.out 4 [] (fun _ ts e => (HSF.out ts e).ne)); clear h12 hs12 hb12)
                | (go_at_call 60; (with_reducible refine TK.out.mono ?_); rintro e w13 ⟨rfl, h13, c13⟩; have HR13 := Lib.hid h13; have HC13 := Lib.hid c13; clear h13 c13)
                | fail)
              go_end0
              rw [HYN.out]
              exact ⟨rfl, ⟨u1, u2, u3, u4, u5, u6, HR13.out, HS12.out.ch HC13.out fun k hk e => by omega⟩, HB12.out.trans (HC13.out.below (Nat.le_of_lt HR12.out.lt) fun k e => by omega)⟩
        · subst e
          have HY : Hid (lineS x ⟨2, kTrip, tn, tl, tc_⟩ r = if fullS x kTrip = true then (x, none) else ((thingS kTrip x (some r)).1, (takeS 4 [] (thingS kTrip x (some r)).2).2)) := Lib.hid (by unfold lineS; exact if_pos ⟨rfl, (by decide : kTrip ∈ kinds)⟩)
          have HFL : Hid (fullS x kTrip = decide (1024 ≤ x.trips.length)) := Lib.hid rfl
          have y1 : wr.cell? ⟨b, 1, none⟩ = some (.string ⟨#[116, 114, 105, 112]⟩) := HL.out.box.cell 1
          have x0 : wr.cell? ⟨B, 5, none⟩ = some (.int .i64 x.horizon) := HL.out.cur.cell 0
          have x1 : wr.cell? ⟨B, 6, none⟩ = some (.slice p.a1 x.stops.length p.c1) := HL.out.cur.cell 1
          have x2 : wr.cell? ⟨B, 7, none⟩ = some (.slice p.a2 x.paths.length p.c2) := HL.out.cur.cell 2
          have x3 : wr.cell? ⟨B, 8, none⟩ = some (.slice p.a3 x.doors.length p.c3) := HL.out.cur.cell 3
          have x4 : wr.cell? ⟨B, 9, none⟩ = some (.slice p.a4 x.routes.length p.c4) := HL.out.cur.cell 4
          have x5 : wr.cell? ⟨B, 10, none⟩ = some (.slice p.a5 x.trips.length p.c5) := HL.out.cur.cell 5
          have x6 : wr.cell? ⟨B, 11, none⟩ = some (.slice p.a6 x.hazards.length p.c6) := HL.out.cur.cell 6
          have CFU := Lib.hid (fun w' => full_trip x.horizon p.a1 p.a2 p.a3 p.a4 p.a5 p.a6 x.stops.length x.paths.length x.doors.length x.routes.length x.trips.length x.hazards.length p.c1 p.c2 p.c3 p.c4 p.c5 p.c6 w')
          go_upto_region 9 with (fail)
          go_cut [41] (fun s41 wx => s41 = .bool (decide (1024 ≤ x.trips.length)) ∧ LnAt w B b M toks (shq x (.slice p.a1 x.stops.length p.c1) (.slice p.a2 x.paths.length p.c2) (.slice p.a3 x.doors.length p.c3) (.slice p.a4 x.routes.length p.c4) (.slice p.a5 x.trips.length p.c5) (.slice p.a6 x.hazards.length p.c6)) 2 kTrip tn tl tc_ (some (⟨2, kTrip, tn, tl, tc_⟩ :: r)) wx)
          case first =>
            go_region_law (first
              | (go_simp; go_at_call 92; refine (CFU.out _).mono ?_; rintro e w7 ⟨rfl, h7⟩; have HL7 := Lib.hid (HL.out.old (Ch.trans (by repeat (first | exact Ch.refl _ _ | refine Ch.drew ?_ | refine Ch.drewN ?_ _ | refine Ch.alloc ?_ _)) (.of_below h7))); clear h7)
              | fail)
            all_goals
              go_wp2_with fail
              go_meet
              exact ⟨rfl, HL7.out⟩
          case rest =>
            obtain ⟨rfl, hl9⟩ := hcut
            have HL9 := Lib.hid hl9
            clear hl9 x0 x1 x2 x3 x4 x5 x6 y0 y1 y2 y3 y4 HL
            cases hf : decide (1024 ≤ x.trips.length) with
            | true =>
              have HYN : Hid (lineS x ⟨2, kTrip, tn, tl, tc_⟩ r = (x, none)) := Lib.hid (by rw [HY.out, HFL.out, hf]; rfl)
              have CF : Hid (Calls Tryz.prog 91 #[.pointer (some ⟨B, 0, none⟩), .int .i64 3, .agg #[.int .i64 2, .string ⟨#[116, 114, 105, 112]⟩, .int .i64 tn, .int .i64 tl, .int .i64 tc_]] wc (fun e w' => e = .returned (.tuple #[]) ∧ RCur w' B toks (shq x (.slice p.a1 x.stops.length p.c1) (.slice p.a2 x.paths.length p.c2) (.slice p.a3 x.doors.length p.c3) (.slice p.a4 x.routes.length p.c4) (.slice p.a5 x.trips.length p.c5) (.slice p.a6 x.hazards.length p.c6)) none ∧ Ch (· = B) wc w')) := Lib.hid (fail_any HL9.out.cur 3 (by decide) ⟨2, kTrip, tn, tl, tc_⟩)
              have y0 : wc.cell? ⟨b, 0, none⟩ = some (.int .i64 2) := HL9.out.box.cell 0
              have y1 : wc.cell? ⟨b, 1, none⟩ = some (.string ⟨#[116, 114, 105, 112]⟩) := HL9.out.box.cell 1
              have y2 : wc.cell? ⟨b, 2, none⟩ = some (.int .i64 tn) := HL9.out.box.cell 2
              have y3 : wc.cell? ⟨b, 3, none⟩ = some (.int .i64 tl) := HL9.out.box.cell 3
              have y4 : wc.cell? ⟨b, 4, none⟩ = some (.int .i64 tc_) := HL9.out.box.cell 4
              go_wp2_with (first
                | (go_at_call 91; (with_reducible refine CF.out.mono ?_); rintro e w8 ⟨rfl, h8, c8⟩; have HC8 := Lib.hid c8; have HR8 := Lib.hid h8; clear h8 c8)
                | fail)
              refine bodyPost_ret (results_none rfl _ _ _) rfl ?_
              exact fault_close hB HS.out HYN.out HR8.out (HL9.out.ch.trans HC8.out)
            | false =>
              have hlt9 : x.trips.length < 1024 := by have := of_decide_eq_false hf; omega
              have HYN : Hid (lineS x ⟨2, kTrip, tn, tl, tc_⟩ r = ((thingS kTrip x (some r)).1, (takeS 4 [] (thingS kTrip x (some r)).2).2)) := Lib.hid (by rw [HY.out, HFL.out, hf]; rfl)
              obtain ⟨at_, hat, b1, hadv⟩ := HL9.out.cur.adv
              have bf := HL9.out.cur.frozen
              have hbB : b ≠ B := by have := HL9.out.h0; omega
              have hbB' : B ≠ b := fun e => hbB e.symm
              have hcA := HL9.out.ch.trans (ch_set wc B 1 (.int .i64 ((at_ : Int) + 1)))
              have TH : Hid (Calls Tryz.prog 93 #[.pointer (some ⟨B, 0, none⟩), .string ⟨#[116, 114, 105, 112]⟩] (wc.setCell ⟨B, 1, none⟩ (.int .i64 ((at_ : Int) + 1))) (ThPost (wc.setCell ⟨B, 1, none⟩ (.int .i64 ((at_ : Int) + 1))) B toks (thingS kTrip x (some r)))) := Lib.hid (thing_trip hadv (HS.out.ch hcA fun k hk e => by omega) hlt9)
              have y1 : (wc.setCell ⟨B, 1, none⟩ (.int .i64 ((at_ : Int) + 1))).cell? ⟨b, 1, none⟩ = some (.string ⟨#[116, 114, 105, 112]⟩) := ((ch_set wc B 1 (.int .i64 ((at_ : Int) + 1))).blk HL9.out.box hbB).cell 1
              have HSF := Lib.hid (suf_end (suf_thing kTrip x (some r)) (fun ts e => by injection e with e; subst e; exact HE.out rfl))
              have HBA : Hid (Below B w (wc.setCell ⟨B, 1, none⟩ (.int .i64 ((at_ : Int) + 1)))) := Lib.hid (below_ch hB hcA)
              generalize thingS kTrip x (some r) = y at HYN HSF TH
              obtain ⟨xx, st'⟩ := y
              dsimp only at HYN HSF
              clear hadv hcA hf
              go_wp2_with (first
                | (go_at_call 93; (with_reducible refine TH.out.mono ?_); rintro e w12 ⟨rfl, ⟨u1, u2, u3, u4, u5, u6, h12, hs12⟩, hb12⟩; have HR12 := Lib.hid h12; have HS12 := Lib.hid hs12; have HB12 := Lib.hid (HBA.out.trans hb12); have TK : Hid (Calls Tryz.prog 60 #[.pointer (some ⟨B, 0, none⟩), .int .i64 4, .string ⟨#[]⟩] w12 (RPos w12 B toks (shq xx u1 u2 u3 u4 u5 u6) (tkV (takeS 4 [] st').1) (takeS 4 [] st').2)) := Lib.hid (take_any HR12.out 4 [] (fun _ ts e => (HSF.out ts e).ne)); clear h12 hs12 hb12)
                | (go_at_call 60; (with_reducible refine TK.out.mono ?_); rintro e w13 ⟨rfl, h13, c13⟩; have HR13 := Lib.hid h13; have HC13 := Lib.hid c13; clear h13 c13)
                | fail)
              go_end0
              rw [HYN.out]
              exact ⟨rfl, ⟨u1, u2, u3, u4, u5, u6, HR13.out, HS12.out.ch HC13.out fun k hk e => by omega⟩, HB12.out.trans (HC13.out.below (Nat.le_of_lt HR12.out.lt) fun k e => by omega)⟩
        · subst e
          have HY : Hid (lineS x ⟨2, kHazard, tn, tl, tc_⟩ r = if fullS x kHazard = true then (x, none) else ((thingS kHazard x (some r)).1, (takeS 4 [] (thingS kHazard x (some r)).2).2)) := Lib.hid (by unfold lineS; exact if_pos ⟨rfl, (by decide : kHazard ∈ kinds)⟩)
          have HFL : Hid (fullS x kHazard = decide (256 ≤ x.hazards.length)) := Lib.hid rfl
          have y1 : wr.cell? ⟨b, 1, none⟩ = some (.string ⟨#[104, 97, 122, 97, 114, 100]⟩) := HL.out.box.cell 1
          have x0 : wr.cell? ⟨B, 5, none⟩ = some (.int .i64 x.horizon) := HL.out.cur.cell 0
          have x1 : wr.cell? ⟨B, 6, none⟩ = some (.slice p.a1 x.stops.length p.c1) := HL.out.cur.cell 1
          have x2 : wr.cell? ⟨B, 7, none⟩ = some (.slice p.a2 x.paths.length p.c2) := HL.out.cur.cell 2
          have x3 : wr.cell? ⟨B, 8, none⟩ = some (.slice p.a3 x.doors.length p.c3) := HL.out.cur.cell 3
          have x4 : wr.cell? ⟨B, 9, none⟩ = some (.slice p.a4 x.routes.length p.c4) := HL.out.cur.cell 4
          have x5 : wr.cell? ⟨B, 10, none⟩ = some (.slice p.a5 x.trips.length p.c5) := HL.out.cur.cell 5
          have x6 : wr.cell? ⟨B, 11, none⟩ = some (.slice p.a6 x.hazards.length p.c6) := HL.out.cur.cell 6
          have CFU := Lib.hid (fun w' => full_hazard x.horizon p.a1 p.a2 p.a3 p.a4 p.a5 p.a6 x.stops.length x.paths.length x.doors.length x.routes.length x.trips.length x.hazards.length p.c1 p.c2 p.c3 p.c4 p.c5 p.c6 w')
          go_upto_region 9 with (fail)
          go_cut [41] (fun s41 wx => s41 = .bool (decide (256 ≤ x.hazards.length)) ∧ LnAt w B b M toks (shq x (.slice p.a1 x.stops.length p.c1) (.slice p.a2 x.paths.length p.c2) (.slice p.a3 x.doors.length p.c3) (.slice p.a4 x.routes.length p.c4) (.slice p.a5 x.trips.length p.c5) (.slice p.a6 x.hazards.length p.c6)) 2 kHazard tn tl tc_ (some (⟨2, kHazard, tn, tl, tc_⟩ :: r)) wx)
          case first =>
            go_region_law (first
              | (go_simp; go_at_call 92; refine (CFU.out _).mono ?_; rintro e w7 ⟨rfl, h7⟩; have HL7 := Lib.hid (HL.out.old (Ch.trans (by repeat (first | exact Ch.refl _ _ | refine Ch.drew ?_ | refine Ch.drewN ?_ _ | refine Ch.alloc ?_ _)) (.of_below h7))); clear h7)
              | fail)
            all_goals
              go_wp2_with fail
              go_meet
              exact ⟨rfl, HL7.out⟩
          case rest =>
            obtain ⟨rfl, hl9⟩ := hcut
            have HL9 := Lib.hid hl9
            clear hl9 x0 x1 x2 x3 x4 x5 x6 y0 y1 y2 y3 y4 HL
            cases hf : decide (256 ≤ x.hazards.length) with
            | true =>
              have HYN : Hid (lineS x ⟨2, kHazard, tn, tl, tc_⟩ r = (x, none)) := Lib.hid (by rw [HY.out, HFL.out, hf]; rfl)
              have CF : Hid (Calls Tryz.prog 91 #[.pointer (some ⟨B, 0, none⟩), .int .i64 3, .agg #[.int .i64 2, .string ⟨#[104, 97, 122, 97, 114, 100]⟩, .int .i64 tn, .int .i64 tl, .int .i64 tc_]] wc (fun e w' => e = .returned (.tuple #[]) ∧ RCur w' B toks (shq x (.slice p.a1 x.stops.length p.c1) (.slice p.a2 x.paths.length p.c2) (.slice p.a3 x.doors.length p.c3) (.slice p.a4 x.routes.length p.c4) (.slice p.a5 x.trips.length p.c5) (.slice p.a6 x.hazards.length p.c6)) none ∧ Ch (· = B) wc w')) := Lib.hid (fail_any HL9.out.cur 3 (by decide) ⟨2, kHazard, tn, tl, tc_⟩)
              have y0 : wc.cell? ⟨b, 0, none⟩ = some (.int .i64 2) := HL9.out.box.cell 0
              have y1 : wc.cell? ⟨b, 1, none⟩ = some (.string ⟨#[104, 97, 122, 97, 114, 100]⟩) := HL9.out.box.cell 1
              have y2 : wc.cell? ⟨b, 2, none⟩ = some (.int .i64 tn) := HL9.out.box.cell 2
              have y3 : wc.cell? ⟨b, 3, none⟩ = some (.int .i64 tl) := HL9.out.box.cell 3
              have y4 : wc.cell? ⟨b, 4, none⟩ = some (.int .i64 tc_) := HL9.out.box.cell 4
              go_wp2_with (first
                | (go_at_call 91; (with_reducible refine CF.out.mono ?_); rintro e w8 ⟨rfl, h8, c8⟩; have HC8 := Lib.hid c8; have HR8 := Lib.hid h8; clear h8 c8)
                | fail)
              refine bodyPost_ret (results_none rfl _ _ _) rfl ?_
              exact fault_close hB HS.out HYN.out HR8.out (HL9.out.ch.trans HC8.out)
            | false =>
              have hlt9 : x.hazards.length < 256 := by have := of_decide_eq_false hf; omega
              have HYN : Hid (lineS x ⟨2, kHazard, tn, tl, tc_⟩ r = ((thingS kHazard x (some r)).1, (takeS 4 [] (thingS kHazard x (some r)).2).2)) := Lib.hid (by rw [HY.out, HFL.out, hf]; rfl)
              obtain ⟨at_, hat, b1, hadv⟩ := HL9.out.cur.adv
              have bf := HL9.out.cur.frozen
              have hbB : b ≠ B := by have := HL9.out.h0; omega
              have hbB' : B ≠ b := fun e => hbB e.symm
              have hcA := HL9.out.ch.trans (ch_set wc B 1 (.int .i64 ((at_ : Int) + 1)))
              have TH : Hid (Calls Tryz.prog 93 #[.pointer (some ⟨B, 0, none⟩), .string ⟨#[104, 97, 122, 97, 114, 100]⟩] (wc.setCell ⟨B, 1, none⟩ (.int .i64 ((at_ : Int) + 1))) (ThPost (wc.setCell ⟨B, 1, none⟩ (.int .i64 ((at_ : Int) + 1))) B toks (thingS kHazard x (some r)))) := Lib.hid (thing_haz hadv (HS.out.ch hcA fun k hk e => by omega) hlt9)
              have y1 : (wc.setCell ⟨B, 1, none⟩ (.int .i64 ((at_ : Int) + 1))).cell? ⟨b, 1, none⟩ = some (.string ⟨#[104, 97, 122, 97, 114, 100]⟩) := ((ch_set wc B 1 (.int .i64 ((at_ : Int) + 1))).blk HL9.out.box hbB).cell 1
              have HSF := Lib.hid (suf_end (suf_thing kHazard x (some r)) (fun ts e => by injection e with e; subst e; exact HE.out rfl))
              have HBA : Hid (Below B w (wc.setCell ⟨B, 1, none⟩ (.int .i64 ((at_ : Int) + 1)))) := Lib.hid (below_ch hB hcA)
              generalize thingS kHazard x (some r) = y at HYN HSF TH
              obtain ⟨xx, st'⟩ := y
              dsimp only at HYN HSF
              clear hadv hcA hf
              go_wp2_with (first
                | (go_at_call 93; (with_reducible refine TH.out.mono ?_); rintro e w12 ⟨rfl, ⟨u1, u2, u3, u4, u5, u6, h12, hs12⟩, hb12⟩; have HR12 := Lib.hid h12; have HS12 := Lib.hid hs12; have HB12 := Lib.hid (HBA.out.trans hb12); have TK : Hid (Calls Tryz.prog 60 #[.pointer (some ⟨B, 0, none⟩), .int .i64 4, .string ⟨#[]⟩] w12 (RPos w12 B toks (shq xx u1 u2 u3 u4 u5 u6) (tkV (takeS 4 [] st').1) (takeS 4 [] st').2)) := Lib.hid (take_any HR12.out 4 [] (fun _ ts e => (HSF.out ts e).ne)); clear h12 hs12 hb12)
                | (go_at_call 60; (with_reducible refine TK.out.mono ?_); rintro e w13 ⟨rfl, h13, c13⟩; have HR13 := Lib.hid h13; have HC13 := Lib.hid c13; clear h13 c13)
                | fail)
              go_end0
              rw [HYN.out]
              exact ⟨rfl, ⟨u1, u2, u3, u4, u5, u6, HR13.out, HS12.out.ch HC13.out fun k hk e => by omega⟩, HB12.out.trans (HC13.out.below (Nat.le_of_lt HR12.out.lt) fun k e => by omega)⟩

end Go.Proofs.YtcmlmfcnbmpajaaGreatDoor.Sw
namespace Go.Proofs.YtcmlmfcnbmpajaaGreatDoor.Sw
open Go.ChangeShapes Go.WideShapes Go.ChangeAt Go.RowKit
open Lx Sh Tk
set_option linter.unusedVariables false
set_option linter.unusedSimpArgs false
set_option maxRecDepth 100000

def RParsePost (w : World) : PR SheetM → Ending → World → Prop
  | .ok x _, e, w' => ∃ p : ShA, e = .returned (.tuple #[shV x p, .agg #[.int .i64 0, .int .i64 0, .int .i64 0]]) ∧ Sh w' (fun b => w.heap.size ≤ b ∧ b < w'.heap.size) x p ∧ Below w.heap.size w w'
  | .bad _ _ _, e, w' => ∃ er l c, (er == 0) = false ∧ e = .returned (.tuple #[.agg #[.int .i64 0, .slice none 0 0, .slice none 0 0, .slice none 0 0, .slice none 0 0, .slice none 0 0, .slice none 0 0], .agg #[.int .i64 er, .int .i64 l, .int .i64 c]]) ∧ Below w.heap.size w w'
theorem parse_res {W : World} {n0 n1 : Nat} {a0 a1 a2 a3 a4 a5 a6 b0 b1 b2 : Value} {tmps : Array Value} (h2 : tmps[2]? = some (.pointer (some ⟨n0, 0, none⟩))) (h3 : tmps[3]? = some (.pointer (some ⟨n1, 0, none⟩)))
    (k0 : Blk W n0 29 [a0, a1, a2, a3, a4, a5, a6]) (k1 : Blk W n1 61 [b0, b1, b2]) :
    (results Tryz.f26 tmps).run Tryz.prog W = .ok (.tuple #[.agg #[a0, a1, a2, a3, a4, a5, a6], .agg #[b0, b1, b2]]) W := by
  have x0 : W.cell? ⟨n0, 0, none⟩ = some a0 := k0.cell 0
  have x1 : W.cell? ⟨n0, 1, none⟩ = some a1 := k0.cell 1
  have x2 : W.cell? ⟨n0, 2, none⟩ = some a2 := k0.cell 2
  have x3 : W.cell? ⟨n0, 3, none⟩ = some a3 := k0.cell 3
  have x4 : W.cell? ⟨n0, 4, none⟩ = some a4 := k0.cell 4
  have x5 : W.cell? ⟨n0, 5, none⟩ = some a5 := k0.cell 5
  have x6 : W.cell? ⟨n0, 6, none⟩ = some a6 := k0.cell 6
  have y0 : W.cell? ⟨n1, 0, none⟩ = some b0 := k1.cell 0
  have y1 : W.cell? ⟨n1, 1, none⟩ = some b1 := k1.cell 1
  have y2 : W.cell? ⟨n1, 2, none⟩ = some b2 := k1.cell 2
  simp [results, Tryz.results26, go_sem, h2, h3, x0, x1, x2, x3, x4, x5, x6, y0, y1, y2]
theorem RCur.places {w : World} {B : Nat} {toks ts : List Tok} {q : List Value} (h : RCur w B toks q (some ts)) : ∃ (A : Option Addr) (n c at_ : Nat), w.cell? ⟨B, 0, none⟩ = some (.slice A n c) ∧ w.cell? ⟨B, 1, none⟩ = some (.int .i64 at_) ∧ at_ ≤ n ∧ n ≤ 131072 ∧ (ts = [] → at_ = n) ∧ (ts ≠ [] → at_ < n) := by
  obtain ⟨A, c, at_, f0, f1, f2, hb, h1, h2, h3, h4, h5⟩ := h
  refine ⟨A, toks.length, c, at_, hb.cell 0, hb.cell 1, h1, h2, fun e => ?_, fun e => ?_⟩
  · rw [e] at h5
    have := List.drop_eq_nil_iff.1 h5
    omega
  · rcases Nat.lt_or_ge at_ toks.length with h | h
    · exact h
    · rw [List.drop_eq_nil_of_le h] at h5; exact absurd h5.symm e
theorem RCur.places' {w : World} {B : Nat} {toks : List Tok} {st : St} {q : List Value} (h : RCur w B toks q st) : ∃ (A : Option Addr) (n c at_ : Nat) (f0 f1 f2 : Int), w.cell? ⟨B, 0, none⟩ = some (.slice A n c) ∧ w.cell? ⟨B, 1, none⟩ = some (.int .i64 at_) ∧ w.cell? ⟨B, 2, none⟩ = some (.int .i64 f0) ∧ w.cell? ⟨B, 3, none⟩ = some (.int .i64 f1) ∧ w.cell? ⟨B, 4, none⟩ = some (.int .i64 f2) ∧ (f0 == 0) = st.isSome := by
  obtain ⟨A, c, at_, f0, f1, f2, hb, h1, h2, h3, h4⟩ := h
  refine ⟨A, toks.length, c, at_, f0, f1, f2, hb.cell 0, hb.cell 1, hb.cell 2, hb.cell 3, hb.cell 4, ?_⟩
  cases st with
  | none => exact h4
  | some ts => simp [h4.1]
/-- the boxes of the results, and all that is old -/
structure PBox (w : World) (n0 n1 : Nat) (wr : World) : Prop where
  k0 : Blk wr n0 29 [.int .i64 0, .slice none 0 0, .slice none 0 0, .slice none 0 0, .slice none 0 0, .slice none 0 0, .slice none 0 0]
  k1 : Blk wr n1 61 [.int .i64 0, .int .i64 0, .int .i64 0]
  e0 : n0 = w.heap.size
  e1 : n1 = w.heap.size + 1
  bel : Below w.heap.size w wr
theorem PBox.on {w wr w' : World} {n0 n1 b : Nat} (h : PBox w n0 n1 wr) (hb : Below b wr w') (h2 : n1 < b) : PBox w n0 n1 w' :=
  ⟨h.k0.below hb (by have := h.e0; have := h.e1; omega), h.k1.below hb h2, h.e0, h.e1, h.bel.trans (hb.mono (by have := h.e1; omega))⟩
theorem PBox.fin {w wr : World} {n0 n1 : Nat} (h : PBox w n0 n1 wr) (u0 u1 u2 u3 u4 u5 u6 c0 c1 c2 : Value) :
    Blk ((((((((((wr.setCell ⟨n0, 0, none⟩ u0).setCell ⟨n0, 1, none⟩ u1).setCell ⟨n0, 2, none⟩ u2).setCell ⟨n0, 3, none⟩ u3).setCell ⟨n0, 4, none⟩ u4).setCell ⟨n0, 5, none⟩ u5).setCell ⟨n0, 6, none⟩ u6).setCell ⟨n1, 0, none⟩ c0).setCell ⟨n1, 1, none⟩ c1).setCell ⟨n1, 2, none⟩ c2) n0 29 [u0, u1, u2, u3, u4, u5, u6] ∧
    Blk ((((((((((wr.setCell ⟨n0, 0, none⟩ u0).setCell ⟨n0, 1, none⟩ u1).setCell ⟨n0, 2, none⟩ u2).setCell ⟨n0, 3, none⟩ u3).setCell ⟨n0, 4, none⟩ u4).setCell ⟨n0, 5, none⟩ u5).setCell ⟨n0, 6, none⟩ u6).setCell ⟨n1, 0, none⟩ c0).setCell ⟨n1, 1, none⟩ c1).setCell ⟨n1, 2, none⟩ c2) n1 61 [c0, c1, c2] ∧
    Ch (fun k => k = n0 ∨ k = n1) wr ((((((((((wr.setCell ⟨n0, 0, none⟩ u0).setCell ⟨n0, 1, none⟩ u1).setCell ⟨n0, 2, none⟩ u2).setCell ⟨n0, 3, none⟩ u3).setCell ⟨n0, 4, none⟩ u4).setCell ⟨n0, 5, none⟩ u5).setCell ⟨n0, 6, none⟩ u6).setCell ⟨n1, 0, none⟩ c0).setCell ⟨n1, 1, none⟩ c1).setCell ⟨n1, 2, none⟩ c2) := by
  have hne : n0 ≠ n1 := by have := h.e0; have := h.e1; omega
  have q0 := set7 h.k0 u0 u1 u2 u3 u4 u5 u6
  have d0 := ch_set7 wr n0 u0 u1 u2 u3 u4 u5 u6
  have q1 := d0.blk h.k1 (Ne.symm hne)
  have d1 := ch_set3 ((((((((wr.setCell ⟨n0, 0, none⟩ u0).setCell ⟨n0, 1, none⟩ u1).setCell ⟨n0, 2, none⟩ u2).setCell ⟨n0, 3, none⟩ u3).setCell ⟨n0, 4, none⟩ u4).setCell ⟨n0, 5, none⟩ u5).setCell ⟨n0, 6, none⟩ u6)) n1 c0 c1 c2
  exact ⟨d1.blk q0 hne, set3 q1 c0 c1 c2, (d0.mono fun k _ e => .inl e : Ch (fun k => k = n0 ∨ k = n1) wr _).trans (d1.mono fun k _ e => .inr e)⟩
theorem PBox.below {w wr w' : World} {n0 n1 : Nat} (h : PBox w n0 n1 wr) (hc : Ch (fun k => k = n0 ∨ k = n1) wr w') : Below w.heap.size w w' :=
  h.bel.trans (hc.below h.bel.size fun k hk => by have := h.e0; have := h.e1; omega)

set_option maxHeartbeats 8000000 in
theorem rparse_lex (s : ByteArray) (w : World) {e l c : Nat} (hl : lexAll s = .bad e l c) : Calls Tryz.prog 26 #[.string s] w (RParsePost w (.bad e l c)) := by
  have CA : Hid (∀ w', Calls Tryz.prog 57 #[.string s] w' fun e w2 => (∃ er l c, (er == 0) = false ∧ e = .returned (.tuple #[.slice none 0 0, .agg #[.int .i64 er, .int .i64 l, .int .i64 c]])) ∧ Below w'.heap.size w' w2) := Lib.hid (fun w' => by have hh := rall_all s w'; rw [hl] at hh; exact hh)
  clear hl
  go_enter Tryz.func26, Tryz.ntmps26
  go_upto_region 2 with (first
    | (go_at_call 57; (refine (CA.out _).mono ?_); rintro e u1 ⟨⟨er, l1, c1, her, rfl⟩, h1⟩; have HU1 := Lib.hid h1; have HER := Lib.hid her; clear h1 her)
    | fail)
  obtain ⟨n0, hn0⟩ : ∃ n, n = w.heap.size := ⟨_, rfl⟩
  obtain ⟨n1, hn1⟩ : ∃ n, n = w.heap.size + 1 := ⟨_, rfl⟩
  obtain ⟨n2, hn2⟩ : ∃ n, n = u1.heap.size := ⟨_, rfl⟩
  have HP0 : Hid (PBox w n0 n1 ((w.alloc (.cells #[.int .i64 0, .slice none 0 0, .slice none 0 0, .slice none 0 0, .slice none 0 0, .slice none 0 0, .slice none 0 0] 29)).alloc (.cells #[.int .i64 0, .int .i64 0, .int .i64 0] 61))) := Lib.hid (by
    have k1 := Blk.new (w.alloc (.cells #[.int .i64 0, .slice none 0 0, .slice none 0 0, .slice none 0 0, .slice none 0 0, .slice none 0 0, .slice none 0 0] 29)) 61 [.int .i64 0, .int .i64 0, .int .i64 0]
    simp at k1
    rw [hn0, hn1]
    exact ⟨(Blk.new w 29 [.int .i64 0, .slice none 0 0, .slice none 0 0, .slice none 0 0, .slice none 0 0, .slice none 0 0, .slice none 0 0]).alloc _, by simpa using k1, rfl, rfl, two_box _ _ _⟩)
  have HPW : Hid (PBox w n0 n1 (u1.alloc (.cells #[.int .i64 er, .int .i64 l1, .int .i64 c1] 61)) ∧ n1 < n2) := Lib.hid (by
    have k := HP0.out.on HU1.out (by rw [hn1]; simp)
    exact ⟨k.on (one_box _ _) k.k1.lt, by rw [hn2]; exact k.k1.lt⟩)
  have KF : Hid (Blk (u1.alloc (.cells #[.int .i64 er, .int .i64 l1, .int .i64 c1] 61)) n2 61 [.int .i64 er, .int .i64 l1, .int .i64 c1]) := Lib.hid (by rw [hn2]; exact Blk.new u1 _ _)
  rw [← hn2, ← hn1, ← hn0]
  clear hn0 hn1 hn2 HP0 HU1
  generalize u1.alloc (.cells #[.int .i64 er, .int .i64 l1, .int .i64 c1] 61) = W at HPW KF ⊢
  have x0 : W.cell? ⟨n0, 0, none⟩ = some (.int .i64 0) := HPW.out.1.k0.cell 0
  have x1 : W.cell? ⟨n0, 1, none⟩ = some (.slice none 0 0) := HPW.out.1.k0.cell 1
  have x2 : W.cell? ⟨n0, 2, none⟩ = some (.slice none 0 0) := HPW.out.1.k0.cell 2
  have x3 : W.cell? ⟨n0, 3, none⟩ = some (.slice none 0 0) := HPW.out.1.k0.cell 3
  have x4 : W.cell? ⟨n0, 4, none⟩ = some (.slice none 0 0) := HPW.out.1.k0.cell 4
  have x5 : W.cell? ⟨n0, 5, none⟩ = some (.slice none 0 0) := HPW.out.1.k0.cell 5
  have x6 : W.cell? ⟨n0, 6, none⟩ = some (.slice none 0 0) := HPW.out.1.k0.cell 6
  have y0 : W.cell? ⟨n1, 0, none⟩ = some (.int .i64 0) := HPW.out.1.k1.cell 0
  have y1 : W.cell? ⟨n1, 1, none⟩ = some (.int .i64 0) := HPW.out.1.k1.cell 1
  have y2 : W.cell? ⟨n1, 2, none⟩ = some (.int .i64 0) := HPW.out.1.k1.cell 2
  have xf := HPW.out.1.k0.frozen
  have yf := HPW.out.1.k1.frozen
  have e0 : W.cell? ⟨n2, 0, none⟩ = some (.int .i64 er) := KF.out.cell 0
  have e1 : W.cell? ⟨n2, 1, none⟩ = some (.int .i64 l1) := KF.out.cell 1
  have e2 : W.cell? ⟨n2, 2, none⟩ = some (.int .i64 c1) := KF.out.cell 2
  have her := HER.out
  have h12 : n1 < n2 := HPW.out.2
  have h01 : n0 < n1 := by have := HPW.out.1.e0; have := HPW.out.1.e1; omega
  go_wp2
  go_region
  all_goals
    go_wp2
    have hq := HPW.out.1.fin (.int .i64 0) (.slice none 0 0) (.slice none 0 0) (.slice none 0 0) (.slice none 0 0) (.slice none 0 0) (.slice none 0 0) (.int .i64 er) (.int .i64 l1) (.int .i64 c1)
    refine bodyPost_ret (parse_res rfl rfl (blk_drew hq.1) (blk_drew hq.2.1)) rfl ?_
    exact ⟨er, l1, c1, HER.out, rfl, below_drew (HPW.out.1.below hq.2.2)⟩

/-- where the reading of lines is -/
def PrRel (w : World) (n0 n1 B : Nat) (toks : List Tok) (R : SheetM × St) (k : Nat) (wr : World) : Prop :=
  ∃ (x : SheetM) (v1 v2 v3 v4 v5 v6 : Value) (st : St) (n : Nat), Hid (RCur wr B toks (shq x v1 v2 v3 v4 v5 v6) st) ∧ Hid (ShRows wr B x v1 v2 v3 v4 v5 v6) ∧ Hid (runS n x st = R) ∧ k = lenS st ∧ k ≤ n ∧ Hid (∀ ts, st = some ts → ts = [] ∨ EndL ts) ∧ Hid (PBox w n0 n1 wr)
/-- what Parse answers -/
def RPz (w : World) (R : SheetM × St) (e : Ending) (w' : World) : Prop :=
  match R.2 with
  | some _ => ∃ p : ShA, e = .returned (.tuple #[shV R.1 p, .agg #[.int .i64 0, .int .i64 0, .int .i64 0]]) ∧ Sh w' (fun b => w.heap.size ≤ b ∧ b < w'.heap.size) R.1 p ∧ Below w.heap.size w w'
  | none => ∃ er l c, (er == 0) = false ∧ e = .returned (.tuple #[.agg #[.int .i64 0, .slice none 0 0, .slice none 0 0, .slice none 0 0, .slice none 0 0, .slice none 0 0, .slice none 0 0], .agg #[.int .i64 er, .int .i64 l, .int .i64 c]]) ∧ Below w.heap.size w w'
set_option maxHeartbeats 16000000 in
theorem rparse_toks (s : ByteArray) (w : World) {toks : List Tok} (hl : lexAll s = .ok toks) : Calls Tryz.prog 26 #[.string s] w (RPz w (parseS toks)) := by
  have hg := lexAll_good hl
  have HEND : Hid (toks = [] ∨ EndL toks) := Lib.hid (by rcases good_end hg with ⟨h, _⟩ | h; exact .inl h; exact .inr h)
  obtain ⟨m, hm⟩ : ∃ m, m = toks.length := ⟨_, rfl⟩
  have CA : Hid (∀ w', Calls Tryz.prog 57 #[.string s] w' fun e w2 => (∃ A c, e = .returned (.tuple #[.slice A m c, .agg #[.int .i64 0, .int .i64 0, .int .i64 0]]) ∧ toks.length ≤ 131072 ∧ Rd w2 (fun b => w'.heap.size ≤ b ∧ b < w2.heap.size) A (tc toks)) ∧ Below w'.heap.size w' w2) := Lib.hid (fun w' => by have hh := rall_all s w'; rw [hl] at hh; rw [hm]; exact hh)
  have HM := Lib.hid hm
  obtain ⟨st1, hst1⟩ : ∃ a, a = keyS kHorizon (some toks) := ⟨_, rfl⟩
  obtain ⟨d, st2, hds⟩ : ∃ a b, numS st1 = (a, b) := ⟨_, _, rfl⟩
  obtain ⟨st3, hst3⟩ : ∃ a, a = (takeS 4 [] st2).2 := ⟨_, rfl⟩
  obtain ⟨R, hR⟩ : ∃ R, R = parseS toks := ⟨_, rfl⟩
  have HRR : Hid (R = runS (toks.length - 1) { emptyM with horizon := d } st3) := Lib.hid (by
    rw [hR, hst3]
    have e1 : (numS (keyS kHorizon (some toks))).1 = d := by rw [← hst1, hds]
    have e2 : (numS (keyS kHorizon (some toks))).2 = st2 := by rw [← hst1, hds]
    unfold parseS
    rw [e1, e2])
  have HE1 : Hid (∀ ts, st2 = some ts → EndL ts ∧ ts.length < toks.length) := Lib.hid (fun ts e => by
    have q2 : (numS st1).2 = some ts := by rw [hds]; exact e
    obtain ⟨r1, k1, k2, k3⟩ := suf_num st1 ts q2
    have k1' := k1
    rw [hst1] at k1'
    obtain ⟨r0, j1, j2, j3⟩ := suf_key kHorizon (some toks) r1 k1'
    injection j1 with j1; subst j1
    have hne : EndL toks := by
      rcases HEND.out with h | h
      · rw [h] at k1'; cases k1'
      · exact h
    have hl := j2.length_le
    have hk : ts.length < r1.length := by rw [k1] at q2; exact num_less q2
    exact ⟨k3 (j3 hne), by omega⟩)
  have HE3 : Hid ((∀ ts, st3 = some ts → ts = [] ∨ EndL ts) ∧ lenS st3 ≤ toks.length - 1) := Lib.hid (by
    refine ⟨fun ts e => ?_, ?_⟩
    · rw [hst3] at e
      obtain ⟨r, k1, k2, k3⟩ := end_suf e
      exact EndL.suf (HE1.out r k1).1 k2
    · cases hc : st3 with
      | none => exact Nat.zero_le _
      | some ts =>
        rw [hst3] at hc
        obtain ⟨r, k1, k2, k3⟩ := end_suf hc
        have := (HE1.out r k1).2
        show ts.length ≤ _
        omega)
  rw [← hR]
  have CK : Hid (∀ w' B q, RCur w' B toks q (some toks) → Calls Tryz.prog 58 #[.pointer (some ⟨B, 0, none⟩), .string ⟨#[104, 111, 114, 105, 122, 111, 110]⟩] w' (RPos w' B toks q (.tuple #[]) st1)) := Lib.hid (fun w' B q h => by rw [hst1]; exact key_go h kHorizon)
  have CNU : Hid (∀ w' B q, RCur w' B toks q st1 → Calls Tryz.prog 59 #[.pointer (some ⟨B, 0, none⟩)] w' (RPos w' B toks q (.int .i64 d) st2)) := Lib.hid (fun w' B q h => by have hh := num_go h; rw [hds] at hh; exact hh)
  have CT : Hid (∀ w' B q, RCur w' B toks q st2 → Calls Tryz.prog 60 #[.pointer (some ⟨B, 0, none⟩), .int .i64 4, .string ⟨#[]⟩] w' (RPos w' B toks q (tkV (takeS 4 [] st2).1) st3)) := Lib.hid (fun w' B q h => by rw [hst3]; exact take_any h 4 [] (fun _ ts e => (HE1.out ts e).1.ne))
  clear hl hg hm hst1 hds hst3 hR
  go_enter Tryz.func26, Tryz.ntmps26
  go_upto_region 2 with (first
    | (go_at_call 57; (refine (CA.out _).mono ?_); rintro e u1 ⟨⟨A, c, rfl, hlen, hrd⟩, h1⟩; have HU1 := Lib.hid h1; have HLEN := Lib.hid hlen; have HRD := Lib.hid hrd; clear h1 hlen hrd)
    | fail)
  obtain ⟨n0, hn0⟩ : ∃ n, n = w.heap.size := ⟨_, rfl⟩
  obtain ⟨n1, hn1⟩ : ∃ n, n = w.heap.size + 1 := ⟨_, rfl⟩
  obtain ⟨n2, hn2⟩ : ∃ n, n = u1.heap.size := ⟨_, rfl⟩
  have HP0 : Hid (PBox w n0 n1 ((w.alloc (.cells #[.int .i64 0, .slice none 0 0, .slice none 0 0, .slice none 0 0, .slice none 0 0, .slice none 0 0, .slice none 0 0] 29)).alloc (.cells #[.int .i64 0, .int .i64 0, .int .i64 0] 61))) := Lib.hid (by
    have k1 := Blk.new (w.alloc (.cells #[.int .i64 0, .slice none 0 0, .slice none 0 0, .slice none 0 0, .slice none 0 0, .slice none 0 0, .slice none 0 0] 29)) 61 [.int .i64 0, .int .i64 0, .int .i64 0]
    simp at k1
    rw [hn0, hn1]
    exact ⟨(Blk.new w 29 [.int .i64 0, .slice none 0 0, .slice none 0 0, .slice none 0 0, .slice none 0 0, .slice none 0 0, .slice none 0 0]).alloc _, by simpa using k1, rfl, rfl, two_box _ _ _⟩)
  have HPW : Hid (PBox w n0 n1 (u1.alloc (.cells #[.int .i64 0, .int .i64 0, .int .i64 0] 61)) ∧ n1 < n2) := Lib.hid (by
    have k := HP0.out.on HU1.out (by rw [hn1]; simp)
    exact ⟨k.on (one_box _ _) k.k1.lt, by rw [hn2]; exact k.k1.lt⟩)
  have KF : Hid (Blk (u1.alloc (.cells #[.int .i64 0, .int .i64 0, .int .i64 0] 61)) n2 61 [.int .i64 0, .int .i64 0, .int .i64 0]) := Lib.hid (by rw [hn2]; exact Blk.new u1 _ _)
  have HRW : Hid (Rd (u1.alloc (.cells #[.int .i64 0, .int .i64 0, .int .i64 0] 61)) (· < (u1.alloc (.cells #[.int .i64 0, .int .i64 0, .int .i64 0] 61)).heap.size) A (tc toks)) := Lib.hid ((HRD.out.keep fun b hb => Below.heap_alloc _ _ _ hb.2).more fun b hb => by have := hb.2; simp; omega)
  rw [← hn2, ← hn1, ← hn0]
  clear hn0 hn1 hn2 HP0 HU1 HRD
  generalize u1.alloc (.cells #[.int .i64 0, .int .i64 0, .int .i64 0] 61) = W at HPW KF HRW ⊢
  have e0 : W.cell? ⟨n2, 0, none⟩ = some (.int .i64 0) := KF.out.cell 0
  go_upto_region 5 with (fail)
  obtain ⟨B, hB⟩ : ∃ B, B = W.heap.size := ⟨_, rfl⟩
  have HR0 : Hid (RCur (W.alloc (.cells #[.slice A m c, .int .i64 0, .int .i64 0, .int .i64 0, .int .i64 0, .int .i64 0, .slice none 0 0, .slice none 0 0, .slice none 0 0, .slice none 0 0, .slice none 0 0, .slice none 0 0] 103)) B toks (shq emptyM (.slice none 0 0) (.slice none 0 0) (.slice none 0 0) (.slice none 0 0) (.slice none 0 0) (.slice none 0 0)) (some toks)) := Lib.hid (by
    rw [hB, HM.out]
    exact ⟨A, c, 0, 0, 0, 0, Blk.new W _ _, by omega, HLEN.out, HRW.out.keep fun b hb => Below.heap_alloc _ _ _ hb, rfl, by simp⟩)
  have HP1 : Hid (PBox w n0 n1 (W.alloc (.cells #[.slice A m c, .int .i64 0, .int .i64 0, .int .i64 0, .int .i64 0, .int .i64 0, .slice none 0 0, .slice none 0 0, .slice none 0 0, .slice none 0 0, .slice none 0 0, .slice none 0 0] 103)) ∧ n1 < B) := Lib.hid ⟨HPW.out.1.on (one_box _ _) HPW.out.1.k1.lt, by rw [hB]; exact HPW.out.1.k1.lt⟩
  rw [← hB]
  clear hB e0
  generalize W.alloc (.cells #[.slice A m c, .int .i64 0, .int .i64 0, .int .i64 0, .int .i64 0, .int .i64 0, .slice none 0 0, .slice none 0 0, .slice none 0 0, .slice none 0 0, .slice none 0 0, .slice none 0 0] 103) = W1 at HR0 HP1 ⊢
  go_wp2_with (first
    | (go_at_call 58; (refine (CK.out _ _ _ HR0.out).mono ?_); rintro e u2 ⟨rfl, h2, c2⟩; have HR2 := Lib.hid h2; have HP2 := Lib.hid (HP1.out.1.on (below_ch HR0.out.lt c2) HP1.out.2); clear h2 c2)
    | (go_at_call 59; (refine (CNU.out _ _ _ HR2.out).mono ?_); rintro e u3 ⟨rfl, h3, c3⟩; have HR3 := Lib.hid h3; have HP3 := Lib.hid (HP2.out.on (below_ch HR2.out.lt c3) HP1.out.2); have q5 : u3.cell? ⟨B, 5, none⟩ = some (.int .i64 0) := HR3.out.cell 0; have qf := HR3.out.frozen; have HR3' := Lib.hid (HR3.out.set 0 (.int .i64 d)); have HP3' := Lib.hid (HP3.out.on (below_ch HR3.out.lt (ch_set u3 B 5 (.int .i64 d))) HP1.out.2); clear h3 c3)
    | (go_at_call 60; (refine (CT.out _ _ _ HR3'.out).mono ?_); rintro e u4 ⟨rfl, h4, c4⟩; have HR4 := Lib.hid h4; have HP4 := Lib.hid (HP3'.out.on (below_ch HR3'.out.lt c4) HP1.out.2); clear h4 c4 q5 qf)
    | fail)
  go_loopg [] (lenS st3) (fun k wr => PrRel w n0 n1 B toks R k wr)
  case atStart => exact ⟨{ emptyM with horizon := d }, .slice none 0 0, .slice none 0 0, .slice none 0 0, .slice none 0 0, .slice none 0 0, .slice none 0 0, st3, toks.length - 1, HR4, Lib.hid ⟨World.ownsRow_nil _ _ _ _, World.ownsRow_nil _ _ _ _, World.ownsRow_nil _ _ _ _, ⟨[], World.ownsRow_nil _ _ _ _, rfl⟩, World.ownsRow_nil _ _ _ _, World.ownsRow_nil _ _ _ _, by simp [emptyM], by simp [emptyM], by simp [emptyM], by simp [emptyM], by simp [emptyM], by simp [emptyM]⟩, Lib.hid HRR.out.symm, rfl, HE3.out.2, Lib.hid HE3.out.1, HP4⟩
  case round =>
    obtain ⟨x, v1, v2, v3, v4, v5, v6, st, n, HR, HS, HQ, hk, hn, HE, HP⟩ := hrel
    obtain ⟨p, rfl, rfl, rfl, rfl, rfl, rfl, hsh, -⟩ := HS.out.sh
    have HSH := Lib.hid hsh
    have hn1B : n1 < B := HP1.out.2
    have h01 : n0 < n1 := by have := HP.out.e0; have := HP.out.e1; omega
    obtain ⟨A9, m9, c9, at9, f0, f1, f2, r0, r1, r2, r3, r4, hfz⟩ := HR.out.places'
    clear hsh
    rcases st with _ | ts
    · have CG : Hid (∀ w', Ch (fun _ => False) wr w' → Calls Tryz.prog 61 #[.pointer (some ⟨B, 0, none⟩)] w' fun e w2 => e = .returned (.bool false) ∧ w' = w2) := Lib.hid (fun w' hw => good_go (HR.out.ch hw fun _ _ => id))
      have HRN : Hid (R = (x, none)) := Lib.hid (by rw [← HQ.out, run_none])
      clear hfz
      go_upto_region 8 with (fail)
      go_cut [43] (fun s43 wx => s43 = .bool false ∧ RCur wx B toks (shq x (.slice p.a1 x.stops.length p.c1) (.slice p.a2 x.paths.length p.c2) (.slice p.a3 x.doors.length p.c3) (.slice p.a4 x.routes.length p.c4) (.slice p.a5 x.trips.length p.c5) (.slice p.a6 x.hazards.length p.c6)) none ∧ PBox w n0 n1 wx)
      case first =>
        go_quiet (first
          | (go_at_call 61; (refine (CG.out _ (by repeat (first | exact Ch.refl _ _ | refine Ch.drew ?_ | refine Ch.drewN ?_ _ | refine Ch.alloc ?_ _))).mono ?_); rintro e w9 ⟨rfl, rfl⟩; exact ⟨rfl, _, rfl⟩)
          | fail)
        go_wp2_with fail
        go_meet
        exact ⟨rfl, HR.out, HP.out.on (below_drewN (Below.refl wr.heap.size wr) _) HP.out.k1.lt⟩
      case rest =>
        obtain ⟨rfl, hr8, hp8⟩ := hcut
        have HR8 := Lib.hid hr8
        have HP8 := Lib.hid hp8
        clear hr8 hp8 r0 r1 r2 r3 r4
        obtain ⟨A9, m9, c9, at9, f0, f1, f2, r0, r1, r2, r3, r4, hfz⟩ := HR8.out.places'
        have HFZ : Hid ((f0 == 0) = false) := Lib.hid hfz
        have CG8 := Lib.hid (good_go HR8.out)
        clear hfz
        have x0 : wc.cell? ⟨n0, 0, none⟩ = some (.int .i64 0) := HP8.out.k0.cell 0
        have x1 : wc.cell? ⟨n0, 1, none⟩ = some (.slice none 0 0) := HP8.out.k0.cell 1
        have x2 : wc.cell? ⟨n0, 2, none⟩ = some (.slice none 0 0) := HP8.out.k0.cell 2
        have x3 : wc.cell? ⟨n0, 3, none⟩ = some (.slice none 0 0) := HP8.out.k0.cell 3
        have x4 : wc.cell? ⟨n0, 4, none⟩ = some (.slice none 0 0) := HP8.out.k0.cell 4
        have x5 : wc.cell? ⟨n0, 5, none⟩ = some (.slice none 0 0) := HP8.out.k0.cell 5
        have x6 : wc.cell? ⟨n0, 6, none⟩ = some (.slice none 0 0) := HP8.out.k0.cell 6
        have y0 : wc.cell? ⟨n1, 0, none⟩ = some (.int .i64 0) := HP8.out.k1.cell 0
        have y1 : wc.cell? ⟨n1, 1, none⟩ = some (.int .i64 0) := HP8.out.k1.cell 1
        have y2 : wc.cell? ⟨n1, 2, none⟩ = some (.int .i64 0) := HP8.out.k1.cell 2
        have xf := HP8.out.k0.frozen
        have yf := HP8.out.k1.frozen
        go_wp2_with (first
          | (go_at_call 61; refine CG8.out.mono ?_; rintro e w9 ⟨rfl, rfl⟩)
          | fail)
        go_region
        all_goals
          go_wp2
          have hq := HP8.out.fin (.int .i64 0) (.slice none 0 0) (.slice none 0 0) (.slice none 0 0) (.slice none 0 0) (.slice none 0 0) (.slice none 0 0) (.int .i64 f0) (.int .i64 f1) (.int .i64 f2)
          refine bodyPost_ret (parse_res rfl rfl (blk_drew hq.1) (blk_drew hq.2.1)) rfl ?_
          rw [HRN.out]
          exact ⟨f0, f1, f2, HFZ.out, rfl, below_drew (HP8.out.below hq.2.2)⟩
    · have CG : Hid (∀ w', Ch (fun _ => False) wr w' → Calls Tryz.prog 61 #[.pointer (some ⟨B, 0, none⟩)] w' fun e w2 => e = .returned (.bool true) ∧ w' = w2) := Lib.hid (fun w' hw => good_go (HR.out.ch hw fun _ _ => id))
      clear hfz r0 r1 r2 r3 r4
      obtain ⟨A9, m9, c9, at9, r0, r1, hat, hm9, hn9, hne9⟩ := HR.out.places
      go_upto_region 8 with (fail)
      go_cut [43] (fun s43 wx => s43 = .bool (decide (at9 < m9)) ∧ RCur wx B toks (shq x (.slice p.a1 x.stops.length p.c1) (.slice p.a2 x.paths.length p.c2) (.slice p.a3 x.doors.length p.c3) (.slice p.a4 x.routes.length p.c4) (.slice p.a5 x.trips.length p.c5) (.slice p.a6 x.hazards.length p.c6)) (some ts) ∧ ShRows wx B x (.slice p.a1 x.stops.length p.c1) (.slice p.a2 x.paths.length p.c2) (.slice p.a3 x.doors.length p.c3) (.slice p.a4 x.routes.length p.c4) (.slice p.a5 x.trips.length p.c5) (.slice p.a6 x.hazards.length p.c6) ∧ PBox w n0 n1 wx)
      case first =>
        have hdd : decide ((at9 : Int) < (m9 : Int)) = decide (at9 < m9) := by simp
        go_quiet (first
          | (go_at_call 61; (refine (CG.out _ (by repeat (first | exact Ch.refl _ _ | refine Ch.drew ?_ | refine Ch.drewN ?_ _ | refine Ch.alloc ?_ _))).mono ?_); rintro e w9 ⟨rfl, rfl⟩; exact ⟨rfl, _, rfl⟩)
          | fail)
        go_wp2_with fail
        go_meet
        exact ⟨by simp, HR.out, HS.out.ch ((Ch.refl (fun _ => False) _).drewN _) (fun _ _ => id), HP.out.on (below_drewN (Below.refl wr.heap.size wr) _) HP.out.k1.lt⟩
      case rest =>
        obtain ⟨rfl, hr8, hs8, hp8⟩ := hcut
        have HR8 := Lib.hid hr8
        have HS8 := Lib.hid hs8
        have HP8 := Lib.hid hp8
        clear hr8 hs8 hp8 r0 r1 HR HS HP HSH
        rcases ts with _ | ⟨t, r⟩
        · have hd : decide (at9 < m9) = false := by have := hn9 rfl; rw [decide_eq_false]; omega
          rw [hd]
          have HRN : Hid (R = (x, some [])) := Lib.hid (by rw [← HQ.out, run_nil])
          have CG8 : Hid (Calls Tryz.prog 61 #[.pointer (some ⟨B, 0, none⟩)] wc fun e w2 => e = .returned (.bool true) ∧ wc = w2) := Lib.hid (good_go HR8.out)
          obtain ⟨p2, e1, e2, e3, e4, e5, e6, hsh, -⟩ := HS8.out.sh
          have HSH : Hid (Sh wc (fun b => B < b ∧ b < wc.heap.size) x p) := Lib.hid (by
            injection e1 with a1 _ b1; injection e2 with a2 _ b2; injection e3 with a3 _ b3; injection e4 with a4 _ b4; injection e5 with a5 _ b5; injection e6 with a6 _ b6
            obtain ⟨g1, g2, g3, g4, g5, g6⟩ := hsh
            rw [← a1] at g1; rw [← a2] at g2; rw [← a3] at g3; rw [← a4] at g4; rw [← a5] at g5; rw [← a6] at g6
            exact ⟨g1, g2, g3, g4, g5, g6⟩)
          clear hd hsh e1 e2 e3 e4 e5 e6 hn9 hne9 hat
          have s0 : wc.cell? ⟨B, 5, none⟩ = some (.int .i64 x.horizon) := HR8.out.cell 0
          have s1 : wc.cell? ⟨B, 6, none⟩ = some (.slice p.a1 x.stops.length p.c1) := HR8.out.cell 1
          have s2 : wc.cell? ⟨B, 7, none⟩ = some (.slice p.a2 x.paths.length p.c2) := HR8.out.cell 2
          have s3 : wc.cell? ⟨B, 8, none⟩ = some (.slice p.a3 x.doors.length p.c3) := HR8.out.cell 3
          have s4 : wc.cell? ⟨B, 9, none⟩ = some (.slice p.a4 x.routes.length p.c4) := HR8.out.cell 4
          have s5 : wc.cell? ⟨B, 10, none⟩ = some (.slice p.a5 x.trips.length p.c5) := HR8.out.cell 5
          have s6 : wc.cell? ⟨B, 11, none⟩ = some (.slice p.a6 x.hazards.length p.c6) := HR8.out.cell 6
          have x0 : wc.cell? ⟨n0, 0, none⟩ = some (.int .i64 0) := HP8.out.k0.cell 0
          have x1 : wc.cell? ⟨n0, 1, none⟩ = some (.slice none 0 0) := HP8.out.k0.cell 1
          have x2 : wc.cell? ⟨n0, 2, none⟩ = some (.slice none 0 0) := HP8.out.k0.cell 2
          have x3 : wc.cell? ⟨n0, 3, none⟩ = some (.slice none 0 0) := HP8.out.k0.cell 3
          have x4 : wc.cell? ⟨n0, 4, none⟩ = some (.slice none 0 0) := HP8.out.k0.cell 4
          have x5 : wc.cell? ⟨n0, 5, none⟩ = some (.slice none 0 0) := HP8.out.k0.cell 5
          have x6 : wc.cell? ⟨n0, 6, none⟩ = some (.slice none 0 0) := HP8.out.k0.cell 6
          have y0 : wc.cell? ⟨n1, 0, none⟩ = some (.int .i64 0) := HP8.out.k1.cell 0
          have y1 : wc.cell? ⟨n1, 1, none⟩ = some (.int .i64 0) := HP8.out.k1.cell 1
          have y2 : wc.cell? ⟨n1, 2, none⟩ = some (.int .i64 0) := HP8.out.k1.cell 2
          have xf := HP8.out.k0.frozen
          have yf := HP8.out.k1.frozen
          go_wp2_with (first
            | (go_at_call 61; refine CG8.out.mono ?_; rintro e w9 ⟨rfl, rfl⟩)
            | fail)
          have hq := HP8.out.fin (.int .i64 x.horizon) (.slice p.a1 x.stops.length p.c1) (.slice p.a2 x.paths.length p.c2) (.slice p.a3 x.doors.length p.c3) (.slice p.a4 x.routes.length p.c4) (.slice p.a5 x.trips.length p.c5) (.slice p.a6 x.hazards.length p.c6) (.int .i64 0) (.int .i64 0) (.int .i64 0)
          refine bodyPost_ret (parse_res rfl rfl hq.1 hq.2.1) rfl ?_
          rw [HRN.out]
          refine ⟨p, rfl, (HSH.out.keep fun b hb => hq.2.2.block b hb.2 (by have := hb.1; omega)).more fun b hb => ⟨by have := HP8.out.e1; have := hb.1; omega, Nat.lt_of_lt_of_le hb.2 hq.2.2.size⟩, HP8.out.below hq.2.2⟩
        · have hd : decide (at9 < m9) = true := by rw [decide_eq_true]; exact hne9 (by simp)
          rw [hd]
          obtain ⟨n', rfl⟩ : ∃ n', n = n' + 1 := ⟨n - 1, by have : lenS (some (t :: r)) = r.length + 1 := rfl; omega⟩
          have HET : Hid (EndL (t :: r)) := Lib.hid (by rcases HE.out _ rfl with h | h; cases h; exact h)
          have CL := Lib.hid (line_go HR8.out HS8.out (fun h2 => HET.out.tail (by omega)))
          have HQ2 : Hid (runS n' (lineS x t r).1 (lineS x t r).2 = R) := Lib.hid HQ.out
          have HE2 : Hid ((∀ ts, (lineS x t r).2 = some ts → ts = [] ∨ EndL ts) ∧ lenS (lineS x t r).2 ≤ r.length) := Lib.hid (by
            refine ⟨fun ts e => ?_, ?_⟩
            · have hs := line_suf e
              exact EndL.suf HET.out (hs.1.trans (List.suffix_cons _ _))
            · cases hc : (lineS x t r).2 with
              | none => exact Nat.zero_le _
              | some ts => have := (line_suf hc).2; show ts.length ≤ _; omega)
          have hk2 := hk
          change _ = r.length + 1 at hk2
          generalize lineS x t r = y at CL HQ2 HE2
          obtain ⟨xx, st'⟩ := y
          clear hd hne9 hn9 hat HQ HE hk
          go_wp2_with (first
            | (go_at_call 62; (refine CL.out.mono ?_); rintro e w10 ⟨rfl, ⟨u1, u2, u3, u4, u5, u6, h10, hs10⟩, hb10⟩; have HR10 := Lib.hid h10; have HS10 := Lib.hid hs10; have HP10 := Lib.hid (HP8.out.on hb10 hn1B); clear h10 hs10 hb10)
            | fail)
          go_roundg (lenS st')
          case rel => exact ⟨xx, u1, u2, u3, u4, u5, u6, st', n', HR10, HS10, HQ2, rfl, by have := HE2.out.2; omega, Lib.hid HE2.out.1, HP10⟩
          case measure => have := HE2.out.2; omega

/-- Parse at a text that is read, and at one that isn't -/
theorem rparse_ok {s : ByteArray} {x : SheetM} (h : parseT s = .ok x []) (w : World) : Calls Tryz.prog 26 #[.string s] w (fun e w' => ∃ p : ShA, e = .returned (.tuple #[shV x p, .agg #[.int .i64 0, .int .i64 0, .int .i64 0]]) ∧ Sh w' (fun b => w.heap.size ≤ b ∧ b < w'.heap.size) x p ∧ Below w.heap.size w w') := by
  unfold parseT at h
  cases hl : lexAll s with
  | bad e l c => rw [hl] at h; cases h
  | ok toks =>
    rw [hl] at h
    have hk := link_parse (lexAll_good hl)
    rw [show parseM toks = .ok x [] from h] at hk
    have hr : parseS toks = (x, some []) := hk
    have hh := rparse_toks s w hl
    rw [hr] at hh
    exact hh
theorem rparse_no {s : ByteArray} {e l c : Int} (h : parseT s = .bad e l c) (w : World) : Calls Tryz.prog 26 #[.string s] w (fun e w' => (∃ er l c, (er == 0) = false ∧ e = .returned (.tuple #[.agg #[.int .i64 0, .slice none 0 0, .slice none 0 0, .slice none 0 0, .slice none 0 0, .slice none 0 0, .slice none 0 0], .agg #[.int .i64 er, .int .i64 l, .int .i64 c]])) ∧ Below w.heap.size w w') := by
  unfold parseT at h
  cases hl : lexAll s with
  | bad e l c =>
    refine (rparse_lex s w hl).mono ?_
    rintro e w' ⟨er, l, c, h1, h2, h3⟩
    exact ⟨⟨er, l, c, h1, h2⟩, h3⟩
  | ok toks =>
    rw [hl] at h
    have hk := link_parse (lexAll_good hl)
    rw [show parseM toks = .bad e l c from h] at hk
    have hr : (parseS toks).2 = none := hk
    refine (rparse_toks s w hl).mono ?_
    intro e w' h
    unfold RPz at h
    rw [hr] at h
    obtain ⟨er, l, c, h1, h2, h3⟩ := h
    exact ⟨⟨er, l, c, h1, h2⟩, h3⟩

end Go.Proofs.YtcmlmfcnbmpajaaGreatDoor.Sw
