/- ShowAdds: a sheet of the call's own behind an append to its trips, or its stops. -/
import Derived.Test.YtcmlmfcnbmpajaaDoorShowAddsMath
import Derived.Test.YtcmlmfcnbmpajaaDoorKitOwnS
import Derived.Lib.ItoaLen
namespace Go.Proofs.YtcmlmfcnbmpajaaDoor.Sw
open Go.ChangeShapes Go.WideShapes Go.ChangeAt Go.RowKit
open Lx Sh
set_option linter.unusedVariables false
set_option linter.unusedSimpArgs false

theorem step_len (l s : List UInt8) : (stepW l s).length ≤ l.length + 1 + s.length := by
  unfold stepW; split
  · rename_i h; subst h; simp
  · simp; omega
theorem join_len : ∀ (ws : List (List UInt8)) (l : List UInt8), (joinW l ws).length ≤ l.length + (ws.map (fun s => s.length + 1)).sum
  | [], l => by simp [joinW]
  | s :: r, l => by
    rw [joinW_cons]
    have h1 := join_len r (stepW l s)
    have h2 := step_len l s
    simp only [List.map_cons, List.sum_cons]
    omega
theorem itoa_le {n : Int} (h : I64 n) : (Lib.itoa n).length ≤ 21 := Lib.itoa_length_le n h.1 h.2
theorem trip_len {t : TripM} (h : TrS t) : (tripX t).length ≤ 140737488355328 := by
  have hj := join_len [kTrip, t.name, kOf, t.route, kFrom, Lib.itoa t.frm, kEvery, Lib.itoa t.every, kUntil, Lib.itoa t.til] []
  have h1 : t.name.length ≤ 1048576 := h.1
  have h2 : t.route.length ≤ 1048576 := h.2.1
  have h3 := itoa_le h.2.2.1
  have h4 := itoa_le h.2.2.2.1
  have h5 := itoa_le h.2.2.2.2
  have e : tripX t = joinW [] [kTrip, t.name, kOf, t.route, kFrom, Lib.itoa t.frm, kEvery, Lib.itoa t.every, kUntil, Lib.itoa t.til] := rfl
  rw [e]
  simp only [List.map_cons, List.map_nil, List.sum_cons, List.sum_nil, List.length_nil] at hj
  have l1 : kTrip.length = 4 := rfl
  have l2 : kOf.length = 2 := rfl
  have l3 : kFrom.length = 4 := rfl
  have l4 : kEvery.length = 5 := rfl
  have l5 : kUntil.length = 5 := rfl
  omega
theorem stop_len {s : List UInt8} (h : NL s) : (stopX s).length ≤ 140737488355328 := by
  rw [← stopX_cat]
  have h1 : s.length ≤ 1048576 := h
  simp; omega
theorem shT_of {w3 wf w6 Wo : World} {B s n7 n : Nat} {x : SheetM} {t : TripM} {A1 A2 A3 A4 A5 A6 A' : Option Addr} {c1 c2 c3 c4 c5 c6 c' : Nat} {u : Value}
    (h : OwS w3 B s x (.slice A1 x.stops.length c1) (.slice A2 x.paths.length c2) (.slice A3 x.doors.length c3) (.slice A4 x.routes.length c4) (.slice A5 x.trips.length c5) (.slice A6 x.hazards.length c6))
    (h7 : n7 = w3.heap.size) (hWo : Below w3.heap.size w3 Wo) (h7o : n7 < Wo.heap.size) (hg : Wo.grownBy w6 (Value.slice A5 x.trips.length c5).ownBlock)
    (ho : w6.ownsRow (B + 1) 50 5 (.slice A' (n + 1) c') (n + 1) (cs trC x.trips ++ trC t)) (hob : (Value.slice A' (n + 1) c').ownBlock = (Value.slice A5 x.trips.length c5).ownBlock ∨ (Value.slice A' (n + 1) c').ownBlock = some Wo.heap.size)
    (hn : n = x.trips.length) (hf : wf = w6.setCell ⟨n7, 5, none⟩ u) :
    Sh wf (· < wf.heap.size) (addT x t) ⟨A1, A2, A3, A4, A', A6, c1, c2, c3, c4, c', c6⟩ ∧ Ch (fun k => k = n7 ∨ some k = (Value.slice A5 x.trips.length c5).ownBlock) Wo wf := by
  subst hn hf
  have hch0 : Ch (fun k => some k = (Value.slice A5 x.trips.length c5).ownBlock) w3 w6 := (Ch.of_below hWo).trans' (Ch.of_grown hg fun _ e => e) (fun k hk e => e)
  have hch : Ch (fun k => some k = (Value.slice A5 x.trips.length c5).ownBlock) w3 (w6.setCell ⟨n7, 5, none⟩ u) := hch0.fresh (by omega) (ch_set w6 n7 5 u)
  have hs : Ch (· = n7) w6 (w6.setCell ⟨n7, 5, none⟩ u) := ch_set w6 n7 5 u
  have rdd : ∀ {b e size n c : Nat} {A : Option Addr} {xs : List Value} {W : World}, W.ownsRow b e size (.slice A n c) n xs → Rd W (· < W.heap.size) A xs := fun h => (own_rd' h).more fun b hb => hb.2
  have r1 := rdd (hch.own h.r1 fun k hk e => own_ne h.r1 h.r5 (by decide) k hk e.symm)
  have r2 := rdd (hch.own h.r2 fun k hk e => own_ne h.r2 h.r5 (by decide) k hk e.symm)
  have r3 := rdd (hch.own h.r3 fun k hk e => own_ne h.r3 h.r5 (by decide) k hk e.symm)
  have r6 := rdd (hch.own h.r6 fun k hk e => own_ne h.r6 h.r5 (by decide) k hk e.symm)
  obtain ⟨c, h4, h4'⟩ := h.r4
  have r4 := rdd (hch.own h4 fun k hk e => own_ne h4 h.r5 (by decide) k hk e.symm)
  have r4' : Rts (w6.setCell ⟨n7, 5, none⟩ u) (· < (w6.setCell ⟨n7, 5, none⟩ u).heap.size) x.routes c := (h4'.keep fun b hb => hch.block b hb.2.1 (fun e => hb.2.2 _ (by simp) e.symm)).more fun b hb => Nat.lt_of_lt_of_le hb.2.1 hch.size
  have r5 := rdd (hs.own ho fun k hk e => by
    rcases hob with e1 | e1
    · rw [e1] at hk; have := (h.r5.lt k hk).2; omega
    · rw [e1] at hk; injection hk with hk; omega)
  refine ⟨⟨r1, r2, r3, ⟨c, r4, r4'⟩, ?_, r6⟩, ?_⟩
  · show Rd _ _ _ (cs trC (x.trips ++ [t]))
    rw [cs_append, cs_one]; exact r5
  · exact (Ch.of_grown hg fun _ e => .inr e : Ch (fun k => k = n7 ∨ some k = (Value.slice A5 x.trips.length c5).ownBlock) Wo w6).trans (hs.mono fun _ _ e => .inl e)
theorem shS_of {w3 wf w6 Wo : World} {B s n7 n : Nat} {x : SheetM} {t : List UInt8} {A1 A2 A3 A4 A5 A6 A' : Option Addr} {c1 c2 c3 c4 c5 c6 c' : Nat} {u : Value}
    (h : OwS w3 B s x (.slice A1 x.stops.length c1) (.slice A2 x.paths.length c2) (.slice A3 x.doors.length c3) (.slice A4 x.routes.length c4) (.slice A5 x.trips.length c5) (.slice A6 x.hazards.length c6))
    (h7 : n7 = w3.heap.size) (hWo : Below w3.heap.size w3 Wo) (h7o : n7 < Wo.heap.size) (hg : Wo.grownBy w6 (Value.slice A1 x.stops.length c1).ownBlock)
    (ho : w6.ownsRow (B + 1) 9 1 (.slice A' (n + 1) c') (n + 1) (cs strC x.stops ++ strC t)) (hob : (Value.slice A' (n + 1) c').ownBlock = (Value.slice A1 x.stops.length c1).ownBlock ∨ (Value.slice A' (n + 1) c').ownBlock = some Wo.heap.size)
    (hn : n = x.stops.length) (hf : wf = w6.setCell ⟨n7, 1, none⟩ u) :
    Sh wf (· < wf.heap.size) (addS x t) ⟨A', A2, A3, A4, A5, A6, c', c2, c3, c4, c5, c6⟩ ∧ Ch (fun k => k = n7 ∨ some k = (Value.slice A1 x.stops.length c1).ownBlock) Wo wf := by
  subst hn hf
  have hch0 : Ch (fun k => some k = (Value.slice A1 x.stops.length c1).ownBlock) w3 w6 := (Ch.of_below hWo).trans' (Ch.of_grown hg fun _ e => e) (fun k hk e => e)
  have hch : Ch (fun k => some k = (Value.slice A1 x.stops.length c1).ownBlock) w3 (w6.setCell ⟨n7, 1, none⟩ u) := hch0.fresh (by omega) (ch_set w6 n7 1 u)
  have hs : Ch (· = n7) w6 (w6.setCell ⟨n7, 1, none⟩ u) := ch_set w6 n7 1 u
  have rdd : ∀ {b e size n c : Nat} {A : Option Addr} {xs : List Value} {W : World}, W.ownsRow b e size (.slice A n c) n xs → Rd W (· < W.heap.size) A xs := fun h => (own_rd' h).more fun b hb => hb.2
  have r5 := rdd (hch.own h.r5 fun k hk e => own_ne h.r5 h.r1 (by decide) k hk e.symm)
  have r2 := rdd (hch.own h.r2 fun k hk e => own_ne h.r2 h.r1 (by decide) k hk e.symm)
  have r3 := rdd (hch.own h.r3 fun k hk e => own_ne h.r3 h.r1 (by decide) k hk e.symm)
  have r6 := rdd (hch.own h.r6 fun k hk e => own_ne h.r6 h.r1 (by decide) k hk e.symm)
  obtain ⟨c, h4, h4'⟩ := h.r4
  have r4 := rdd (hch.own h4 fun k hk e => own_ne h4 h.r1 (by decide) k hk e.symm)
  have r4' : Rts (w6.setCell ⟨n7, 1, none⟩ u) (· < (w6.setCell ⟨n7, 1, none⟩ u).heap.size) x.routes c := (h4'.keep fun b hb => hch.block b hb.2.1 (fun e => hb.2.2 _ (by simp) e.symm)).more fun b hb => Nat.lt_of_lt_of_le hb.2.1 hch.size
  have r1 := rdd (hs.own ho fun k hk e => by
    rcases hob with e1 | e1
    · rw [e1] at hk; have := (h.r1.lt k hk).2; omega
    · rw [e1] at hk; injection hk with hk; omega)
  refine ⟨⟨?_, r2, r3, ⟨c, r4, r4'⟩, r5, r6⟩, ?_⟩
  · show Rd _ _ _ (cs strC (x.stops ++ [t]))
    rw [cs_append, cs_one]; exact r1
  · exact (Ch.of_grown hg fun _ e => .inr e : Ch (fun k => k = n7 ∨ some k = (Value.slice A1 x.stops.length c1).ownBlock) Wo w6).trans (hs.mono fun _ _ e => .inl e)
end Go.Proofs.YtcmlmfcnbmpajaaDoor.Sw
