/- The kit's OwnSheet: a sheet in memory of the call's own, proved by walking its text. Conditions: the sheet's rows have at most a million things. -/
import Derived.Test.YtcmlmfcnbmpajaaGreatDoorKitOwnR
import Derived.Test.YtcmlmfcnbmpajaaGreatDoorSheetBackWalk
import Derived.Deep.CutRange
namespace Go.Proofs.YtcmlmfcnbmpajaaGreatDoor.Sh
open Go.ChangeShapes Go.WideShapes Go.ChangeAt Go.RowKit
open Lx
set_option linter.unusedVariables false
set_option linter.unusedSimpArgs false
theorem own_down {w : World} {b b' e size n : Nat} {v : Value} {xs : List Value} (h : w.ownsRow b e size v n xs) (hb : b' ≤ b) : w.ownsRow b' e size v n xs := by
  refine ⟨h.1, ?_⟩
  rcases h.2 with hn | ⟨g, cap, cur, rfl, hbg, rest⟩
  · exact .inl hn
  · exact .inr ⟨g, cap, cur, rfl, by omega, rest⟩
abbrev bxV (s : Nat) : Value := .slice (some ⟨s, 0, none⟩) 0 0
/-- rows of the call's own beyond B; those of routes are none that is appended to, and not the box -/
structure OwS (w : World) (B s : Nat) (x : SheetM) (v1 v2 v3 v4 v5 v6 : Value) : Prop where
  r1 : w.ownsRow (B + 1) 9 1 v1 x.stops.length (cs strC x.stops)
  r2 : w.ownsRow (B + 1) 31 4 v2 x.paths.length (cs paC x.paths)
  r3 : w.ownsRow (B + 1) 35 7 v3 x.doors.length (cs doC x.doors)
  r4 : ∃ c, w.ownsRow (B + 1) 38 4 v4 x.routes.length c ∧ Rts w (Away w B [v1, v2, v3, v4, v5, v6, bxV s]) x.routes c
  r5 : w.ownsRow (B + 1) 40 5 v5 x.trips.length (cs trC x.trips)
  r6 : w.ownsRow (B + 1) 42 5 v6 x.hazards.length (cs haC x.hazards)
theorem OwS.keep {w w' : World} {B s : Nat} {x : SheetM} {v1 v2 v3 v4 v5 v6 : Value} (h : OwS w B s x v1 v2 v3 v4 v5 v6) {X : Nat → Prop} (hc : Ch X w w') (h1 : ∀ v ∈ [v1, v2, v3, v4, v5, v6], ∀ k, v.ownBlock = some k → ¬ X k) (h2 : ∀ b, Away w B [v1, v2, v3, v4, v5, v6, bxV s] b → ¬ X b) : OwS w' B s x v1 v2 v3 v4 v5 v6 := by
  obtain ⟨c, h4, h4'⟩ := h.r4
  exact ⟨hc.own h.r1 (h1 _ (by simp)), hc.own h.r2 (h1 _ (by simp)), hc.own h.r3 (h1 _ (by simp)), ⟨c, hc.own h4 (h1 _ (by simp)), (h4'.keep fun b hb => hc.block b hb.2.1 (h2 b hb)).more fun b hb => hb.on hc.size fun _ h => .inl h⟩, hc.own h.r5 (h1 _ (by simp)), hc.own h.r6 (h1 _ (by simp))⟩
theorem OwS.after {w w' : World} {B s : Nat} {x : SheetM} {v1 v2 v3 v4 v5 v6 : Value} (h : OwS w B s x v1 v2 v3 v4 v5 v6) (hb : Below w.heap.size w w') : OwS w' B s x v1 v2 v3 v4 v5 v6 :=
  h.keep (Ch.of_below (X := fun _ => False) hb) (fun _ _ _ _ h => h) (fun _ _ h => h)
/-- what lies at or below B is changed -/
theorem OwS.low {w w' : World} {B s : Nat} {x : SheetM} {v1 v2 v3 v4 v5 v6 : Value} (h : OwS w B s x v1 v2 v3 v4 v5 v6) {X : Nat → Prop} (hc : Ch X w w') (hX : ∀ k, X k → k ≤ B) : OwS w' B s x v1 v2 v3 v4 v5 v6 := by
  obtain ⟨c, h4, h4'⟩ := h.r4
  refine h.keep hc ?_ (fun b hb e => by have := hX b e; have := hb.1; omega)
  intro v hv k hk e
  have := hX k e
  simp only [List.mem_cons, List.not_mem_nil, or_false] at hv
  rcases hv with rfl | rfl | rfl | rfl | rfl | rfl
  · have := (h.r1.lt k hk).1; omega
  · have := (h.r2.lt k hk).1; omega
  · have := (h.r3.lt k hk).1; omega
  · have := (h4.lt k hk).1; omega
  · have := (h.r5.lt k hk).1; omega
  · have := (h.r6.lt k hk).1; omega
/-- the box is written -/
theorem OwS.box {w w' : World} {B s : Nat} {x : SheetM} {v1 v2 v3 v4 v5 v6 : Value} {l : List Value} (h : OwS w B s x v1 v2 v3 v4 v5 v6) (hk : Blk w s 29 l) (hc : Ch (· = s) w w') : OwS w' B s x v1 v2 v3 v4 v5 v6 := by
  obtain ⟨c, h4, h4'⟩ := h.r4
  refine h.keep hc ?_ (fun b hb e => hb.2.2 (bxV s) (by simp) (by rw [e]; rfl))
  intro v hv
  simp only [List.mem_cons, List.not_mem_nil, or_false] at hv
  rcases hv with rfl | rfl | rfl | rfl | rfl | rfl
  · exact own_ne_blk h.r1 hk (by decide)
  · exact own_ne_blk h.r2 hk (by decide)
  · exact own_ne_blk h.r3 hk (by decide)
  · exact own_ne_blk h4 hk (by decide)
  · exact own_ne_blk h.r5 hk (by decide)
  · exact own_ne_blk h.r6 hk (by decide)
theorem sto7_ch {w : World} {s : Nat} {v0 v1 v2 v3 v4 v5 v6 : Value} : Ch (· = s) w (sto7 w s v0 v1 v2 v3 v4 v5 v6) := ch_set7 w s v0 v1 v2 v3 v4 v5 v6
theorem own_nil {w : World} {base e size : Nat} : w.ownsRow base e size (.slice none 0 0) 0 [] := ⟨by simp, .inl ⟨rfl, rfl⟩⟩
/-- a route more -/
theorem OwS.route {w0 w1 w2 w3 : World} {B s : Nat} {x : SheetM} {v1 v2 v3 v4 v5 v6 v4' : Value} {r : RouteM} {sa ra ya : Option Addr} {sc rc yc : Nat} {l c : List Value}
    (h : OwS w0 B s x v1 v2 v3 v4 v5 v6) (h4 : w0.ownsRow (B + 1) 38 4 v4 x.routes.length c) (h4' : Rts w0 (Away w0 B [v1, v2, v3, v4, v5, v6, bxV s]) x.routes c) (hs : Blk w0 s 29 l) (hB : B < w0.heap.size)
    (h1 : Below w0.heap.size w0 w1) (hr : RtAt w1 (fun b => w0.heap.size ≤ b ∧ b < w1.heap.size) r sa ra ya) (h2 : Below w1.heap.size w1 w2)
    (h3 : w3.ownsRow (B + 1) 38 4 v4' (x.routes.length + 1) (c ++ [.string ⟨r.name.toArray⟩, .slice sa r.stops.length sc, .slice ra r.rides.length rc, .slice ya r.stays.length yc]))
    (hg : w2.grownBy w3 v4.ownBlock) (hor : v4'.ownBlock = v4.ownBlock ∨ v4'.ownBlock = some w2.heap.size) :
    OwS (w3.setCell ⟨s, 4, none⟩ v4') B s { x with routes := x.routes ++ [r] } v1 v2 v3 v4' v5 v6 ∧ Blk (w3.setCell ⟨s, 4, none⟩ v4') s 29 (l.set 4 v4') := by
  have hw : Below w0.heap.size w0 w2 := keep_trans h1 h2
  have g2 := h.after hw
  have k2 := hs.after hw
  have o4 := own_after h4 hw
  have r4 : Rts w2 (Away w2 B [v1, v2, v3, v4, v5, v6, bxV s]) x.routes c := (h4'.keep fun b hb => hw.block b hb.2.1).more fun b hb => hb.on hw.size fun _ h => .inl h
  have hX : Ch (fun b => some b = v4.ownBlock) w2 w3 := Ch.of_grown hg fun k e => e
  have f : ∀ {e size n : Nat} {v : Value} {xs : List Value}, e ≠ 38 → w2.ownsRow (B + 1) e size v n xs → w3.ownsRow (B + 1) e size v n xs := fun hne ho => hX.own ho fun k hk e => own_ne ho o4 hne k hk e.symm
  have k3 := hX.blk k2 fun e => own_ne_blk o4 k2 (by decide) s e.symm rfl
  have hsz := h1.size
  have hsz2 := h2.size
  have g3 : OwS w3 B s { x with routes := x.routes ++ [r] } v1 v2 v3 v4' v5 v6 := by
    refine ⟨f (by decide) g2.r1, f (by decide) g2.r2, f (by decide) g2.r3, ⟨_, by simpa using h3, Rts.snoc ?_ ?_⟩, f (by decide) g2.r5, f (by decide) g2.r6⟩
    · have hb : ∀ b, w0.heap.size ≤ b ∧ b < w1.heap.size → w3.heap[b]? = w1.heap[b]? := fun b hb => (hX.block b (by omega) (fun e => by have := (h4.lt b e.symm).2; omega)).trans (h2.block b hb.2)
      have ha : ∀ b, w0.heap.size ≤ b ∧ b < w1.heap.size → Away w3 B [v1, v2, v3, v4', v5, v6, bxV s] b := fun b hb => by
        refine ⟨by omega, by have := hX.size; omega, fun v hv e => ?_⟩
        simp only [List.mem_cons, List.not_mem_nil, or_false] at hv
        rcases hv with rfl | rfl | rfl | rfl | rfl | rfl | rfl
        · have := (h.r1.lt b e).2; omega
        · have := (h.r2.lt b e).2; omega
        · have := (h.r3.lt b e).2; omega
        · rcases hor with e2 | e2
          · rw [e2] at e; have := (h4.lt b e).2; omega
          · rw [e2] at e; injection e with e; omega
        · have := (h.r5.lt b e).2; omega
        · have := (h.r6.lt b e).2; omega
        · have e2 : (some s : Option Nat) = some b := e
          injection e2 with e2
          have := hs.lt
          omega
      exact ⟨sa, sc, ra, rc, ya, yc, [], rfl, (hr.hs.keep hb).more ha, (hr.hr.keep hb).more ha, (hr.hy.keep hb).more ha, rfl⟩
    · refine (r4.keep fun b hb => hX.block b hb.2.1 fun e => hb.2.2 v4 (by simp) e.symm).more fun b hb => hb.on hX.size ?_
      intro v' hv'
      simp only [List.mem_cons, List.not_mem_nil, or_false] at hv'
      rcases hv' with rfl | rfl | rfl | rfl | rfl | rfl | rfl
      · exact .inl (by simp)
      · exact .inl (by simp)
      · exact .inl (by simp)
      · refine .inr ⟨v4, by simp, ?_⟩
        rcases hor with e | e
        · exact .inl e
        · exact .inr ⟨_, e, Nat.le_refl _⟩
      · exact .inl (by simp)
      · exact .inl (by simp)
      · exact .inl (by simp)
  exact ⟨g3.box k3 (ch_set w3 s 4 v4'), k3.set_ 4 v4'⟩
theorem step_append_g {P : Program} {w : World} {ops : Array Oper} {o : Oper} {a : Act} {K : Act → World → Prop} {Q : Exit → Act → World → Prop} {E : Prop} (hgd : o.guard = none) (s x : Operand) (t : TypeId)
    (ho : o.op = .call { callee := .builtin .append, args := #[s, x], argTypes := #[t, t] })
    (base : Nat) (e : TypeId) (z : Value) (size bytes : Nat) (ht : P.underlying t = some (.slice e)) (hinfo : (P.info? e).map (fun i => (i.zero, i.size, i.bytes)) = some (some z, size, bytes)) (hzs : z.cells.size = size) (hsz : 0 < size) (hb16 : bytes ≤ 128)
    (v : Value) (n : Nat) (xs : List Value) (hs : a.eval s = v) (hown : Hid (w.ownsRow base e size v n xs)) (S : Nat → Prop) (A : Option Addr) (m c : Nat) (news : List Value) (hx : a.eval x = .slice A m c) (hl : Hid (news.length = m * size)) (hr : Hid (Rd w S A news)) (h1 : ∀ u ∈ news, u.oneCell' = true)
    (hN : n + m ≤ 4000000) (hbase : base ≤ w.heap.size)
    (h : ∀ v' w', Hid (w'.ownsRow base e size v' (n + m) (xs ++ news)) → Hid (w.grownBy w' v.ownBlock) → Hid (v'.ownBlock = v.ownBlock ∨ v'.ownBlock = some w.heap.size) → K (a.put o.dst v') w') :
    if Region.wanted o (yielded ops a.tmps) = true then Oper.wp P o a w K Q else E := by
  have hw : Region.wanted o (yielded ops a.tmps) = true := by simp [Region.wanted, hgd]
  rw [if_pos hw]
  obtain ⟨i, hi, hz, hsize, hby⟩ := info_parts hinfo
  obtain ⟨v', w', hrun, h2, h3, h4⟩ := run_append_rd (P := P) w base t o.type e i z size bytes ht hi hz hsize hby hzs hsz v n xs hown.out S A m c news hl.out hr.out h1 (by simp only [maxLen]; omega)
    (by have : (n + m) * bytes ≤ 4000000 * 128 := Nat.mul_le_mul hN hb16
        omega) hbase
  unfold Oper.wp
  simp only [execOp, ho, resolve, invoke, builtin, Sem.run_bind, Sem.run_pure, Result.andThen_ok, List.map_toArray, List.map_cons, List.map_nil, hs, hx, hrun]
  exact h v' w' h2 h3 h4


end Go.Proofs.YtcmlmfcnbmpajaaGreatDoor.Sh

