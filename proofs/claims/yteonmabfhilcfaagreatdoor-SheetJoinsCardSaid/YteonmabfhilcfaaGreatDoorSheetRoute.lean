/- Package sheet's texts: the texts of a row of tokens in new memory. Conditions: at most 131,072 tokens. · The route that is read, as it lies while its legs are gone along; what each append leaves of it. · Package sheet's reader: route lines, proved by walking their text. Conditions: a token is to come. · Package sheet's reader: horizon lines and routes that fail early, proved by walking their text. Conditions: a token is to come. -/
import Derived.Test.YteonmabfhilcfaaGreatDoorSheetPut
import Derived.Deep.AppendLies
import Derived.Deep.RegionHeld3
import Derived.Deep.RegionLaw
import Derived.Deep.DeepCutAuto
import Derived.Outline
namespace Go.Proofs.YteonmabfhilcfaaGreatDoor.Sh
open Go.ChangeShapes Go.WideShapes Go.ChangeAt Go.RowKit
open Lx
set_option linter.unusedVariables false

theorem run_mk {t e : TypeId} {z : Value} {bytes : Nat} (ht : Tryz.prog.underlying t = some (.slice e)) (hinfo : (Tryz.prog.info? e).map (fun i => (i.zero, i.size, i.bytes)) = some (some z, 1, bytes)) (hb : bytes ≤ 16) (hz1 : z.cells = #[z])
    (k n : Nat) (hk : k ≤ n) (hn : n ≤ 2000000) (w : World) : (Instr.makeSlice t (.int .i64 (k : Int)) (.int .i64 (n : Int))).run Tryz.prog w = .ok (.slice (some ⟨w.heap.size, 0, none⟩) k n) (w.alloc (.cells (List.replicate n z).toArray e)) := by
  obtain ⟨i, hi, hz, hs, hby⟩ := info_parts hinfo
  have h := run_make (P := Tryz.prog) w t e i z ht hi hz .i64 .i64 (k : Int) (n : Int) (by omega) (by omega) (by
    have h1 : ((i.bytes : Int)) ≤ 16 := by omega
    have h2 : (i.bytes : Int) * (n : Int) ≤ 16 * 2000000 := Int.mul_le_mul h1 (by omega) (by omega) (by omega)
    omega) (by omega)
  rw [← toList_madeCells_one, ← hz1]
  simpa [hs] using h
theorem strC_len (l : List (List UInt8)) : (cs strC l).length = l.length := by rw [cs_length strC 1 (fun _ => rfl)]; omega
theorem intC_len (l : List Int) : (cs intC l).length = l.length := by rw [cs_length intC 1 (fun _ => rfl)]; omega
theorem tok_at (zs : List Tok) {k n : Nat} (hn : Hid (n = zs.length)) (hk : k < n) : ∃ t, zs[k]? = some t := ⟨_, List.getElem?_eq_getElem (by rw [← hn.out]; exact hk)⟩
/-- the row while it is filled -/
def txR (zs : List Tok) (n k : Nat) : List Value := cs strC ((zs.take k).map (·.text)) ++ List.replicate (n - k) (.string ⟨#[]⟩)
theorem txR_len {zs : List Tok} {n k : Nat} (hn : n = zs.length) (hk : k ≤ n) : (txR zs n k).length = n := by
  unfold txR; rw [List.length_append, strC_len]; simp; omega
theorem txR_set {zs : List Tok} {n k : Nat} {t : Tok} (hn : n = zs.length) (hk : k < n) (ht : zs[k]? = some t) : (txR zs n k).set k (.string ⟨t.text.toArray⟩) = txR zs n (k + 1) := by
  have hl : (cs strC ((zs.take k).map (·.text))).length = k := by rw [strC_len]; simp; omega
  obtain ⟨m, hm⟩ : ∃ m, n - k = m + 1 := ⟨n - k - 1, by omega⟩
  have hm' : n - (k + 1) = m := by omega
  have e : zs.take (k + 1) = zs.take k ++ [t] := by rw [List.take_add_one, ht]; rfl
  unfold txR
  rw [hm, hm', e, List.map_append, cs_append, List.replicate_succ, List.set_append_right _ _ (by omega), hl, Nat.sub_self, List.set_cons_zero]
  simp [cs, strC]
def TxRel (w : World) (zs : List Tok) (n g : Nat) (v : Value) (wr : World) : Prop := ∃ k : Nat, v = .int .i64 k ∧ k ≤ n ∧ Blk wr g 9 (txR zs n k) ∧ Below g w wr
def TextsPost (w : World) (zs : List Tok) (n : Nat) (e : Ending) (w' : World) : Prop := ∃ A' : Option Addr, e = .returned (.slice A' n n) ∧ Rd w' (fun b => w.heap.size ≤ b ∧ b < w'.heap.size) A' (cs strC (zs.map (·.text))) ∧ Below w.heap.size w w'
theorem texts_fin {w wr : World} {zs : List Tok} {n g : Nat} (hn : n = zs.length) (hg : g = w.heap.size) (hb : Blk wr g 9 (txR zs n n)) (hbel : Below g w wr) : TextsPost w zs n (.returned (.slice (some ⟨g, 0, none⟩) n n)) wr := by
  refine ⟨_, rfl, ?_, by rw [← hg]; exact hbel⟩
  have h := hb.rd (S := fun b => w.heap.size ≤ b ∧ b < wr.heap.size) ⟨by omega, hb.lt⟩ 0
  have e : txR zs n n = cs strC (zs.map (·.text)) := by unfold txR; rw [hn]; simp
  rw [e] at h
  simpa using h
set_option maxRecDepth 100000 in
set_option maxHeartbeats 1000000 in
theorem texts_any (w : World) (A : Option Addr) (n c : Nat) (zs : List Tok) (hn : Hid (n = zs.length)) (hN : n ≤ 131072) (hx : Rd w (· < w.heap.size) A (tc zs)) :
    Calls Tryz.prog 118 #[.slice A n c] w (TextsPost w zs n) := by
  have HX := Lib.hid hx
  have hmk := run_mk Tryz.underlying22 info_Str (by omega) rfl n n (by omega) (by omega)
  obtain ⟨g, hg⟩ : ∃ g, g = w.heap.size := ⟨_, rfl⟩
  have HG := Lib.hid hg
  have HI : Hid (TxRel w zs n g (.int .i64 ((0 : Nat) : Int)) (w.alloc (.cells (List.replicate n (.string ⟨#[]⟩)).toArray 9))) := Lib.hid ⟨0, rfl, by omega, by
    have := Blk.new w 9 (List.replicate n (.string ⟨#[]⟩)); rw [← hg] at this; exact this, by rw [hg]; exact one_box _ _⟩
  clear hx
  go_enter Tryz.func118, Tryz.ntmps118
  go_wp2
  rw [← hg]
  clear hg hmk
  go_loopw [11] (fun v wr => TxRel w zs n g v wr) (fun v _ => n - (intOf v).toNat)
  case atStart => exact (by simpa using HI.out)
  case round =>
    obtain ⟨k, rfl, hk, hb, hbel⟩ := hrel
    by_cases hlt : k < n
    · obtain ⟨t, ht⟩ := tok_at zs hn hlt
      obtain ⟨ad, rfl, hS, hT⟩ := rd_tok (HX.out.below (by rw [← HG.out]; exact hbel)) ht
      have HS := Lib.hid (txR_set hn.out hlt ht)
      obtain ⟨tk', tx, tn, tl, tcl⟩ := t
      obtain ⟨a0, a1, a2, a3, a4⟩ := hT
      dsimp only at a0 a1 a2 a3 a4
      have hlen := txR_len hn.out hk
      obtain ⟨u, b0⟩ : ∃ u, wr.cell? ⟨g, k, none⟩ = some u := ⟨_, by rw [hb.cell]; exact List.getElem?_eq_getElem (by omega)⟩
      have bf := hb.frozen k
      have hgs := hb.lt
      have HB := Lib.hid hb
      have HBL := Lib.hid hbel
      clear ht hb hbel hlen
      have hi : (k : Int) < (n : Int) := by omega
      go_wp2
      go_roundw
      case rel => exact ⟨k + 1, by go_num, by omega, by rw [← HS.out]; exact (HB.out.set_ k _).alloc _, (HBL.out.setCell (Nat.le_refl _) _).alloc (by simpa [World.setCell] using Nat.le_of_lt hgs) _⟩
      case measure => simp [intOf]; omega
    · obtain rfl : k = n := by omega
      go_wp2
      go_ret
      exact texts_fin hn.out HG.out hb hbel
end Go.Proofs.YteonmabfhilcfaaGreatDoor.Sh
namespace Go.Proofs.YteonmabfhilcfaaGreatDoor.Sh
open Go.ChangeShapes Go.WideShapes Go.ChangeAt Go.RowKit
open Lx
set_option linter.unusedVariables false

/-- the route's box at b0, its rows, and the row of its stops' tokens -/
structure LegW (w : World) (B b0 : Nat) (toks : List Tok) (q : List Value) (nm : List UInt8) (g : Legs) (vr vy v3 : Value) (ts : List Tok) (wr : World) : Prop where
  cur : Cur wr B toks q ts
  box : Blk wr b0 48 [.string ⟨nm.toArray⟩, .slice none 0 0, vr, vy]
  o3 : wr.ownsRow w.heap.size 70 5 v3 g.stops.length (tc g.stops)
  orr : wr.ownsRow w.heap.size 2 1 vr g.rides.length (cs intC g.rides)
  oy : wr.ownsRow w.heap.size 2 1 vy g.stays.length (cs intC g.stays)
  sep : ∀ k, vr.ownBlock = some k → vy.ownBlock ≠ some k
  ch : Ch (· = B) w wr
  hB : B < w.heap.size
  hb0 : w.heap.size ≤ b0
section
variable {w wr w' : World} {B b0 : Nat} {toks ts r : List Tok} {q : List Value} {nm : List UInt8} {g : Legs} {vr vy v3 : Value}
theorem LegW.on (h : LegW w B b0 toks q nm g vr vy v3 ts wr) (hc : Cur w' B toks q r) (hch : Ch (· = B) wr w') : LegW w B b0 toks q nm g vr vy v3 r w' := by
  have hB := h.hB
  have hb := h.hb0
  have f : ∀ {e size n : Nat} {v : Value} {xs : List Value}, wr.ownsRow w.heap.size e size v n xs → w'.ownsRow w.heap.size e size v n xs := fun ho => hch.own ho fun k hk e => by have := (ho.lt k hk).1; omega
  exact ⟨hc, hch.blk h.box (by omega), f h.o3, f h.orr, f h.oy, h.sep, h.ch.trans hch, hB, hb⟩
theorem LegW.old (h : LegW w B b0 toks q nm g vr vy v3 ts wr) (hb : Below wr.heap.size wr w') : LegW w B b0 toks q nm g vr vy v3 ts w' := h.on (h.cur.after hb) (.of_below hb)
/-- behind the append of a ride -/
theorem LegW.ride (h : LegW w B b0 toks q nm g vr vy v3 ts wr) {d : Int} {vr' : Value} (ho : w'.ownsRow w.heap.size 2 1 vr' (g.rides.length + 1) (cs intC g.rides ++ [.int .i64 d])) (hg : wr.grownBy w' vr.ownBlock)
    (hv : vr'.ownBlock = vr.ownBlock ∨ ∃ k, vr'.ownBlock = some k ∧ wr.heap.size ≤ k) : LegW w B b0 toks q nm { g with rides := g.rides ++ [d] } vr' vy v3 ts (w'.setCell ⟨b0, 2, none⟩ vr') := by
  have hB := h.hB
  have hb := h.hb0
  have hch : Ch (fun k => some k = vr.ownBlock) wr w' := .of_grown hg fun k e => e
  have hs : Ch (· = b0) w' (w'.setCell ⟨b0, 2, none⟩ vr') := ch_set _ _ _ _
  have nb0 : ∀ {v : Value} {e n : Nat} {xs : List Value} {sz : Nat}, e ≠ 48 → wr.ownsRow w.heap.size e sz v n xs → ∀ k, v.ownBlock = some k → k ≠ b0 := fun he ho => own_ne_blk ho h.box he
  have box' : Blk w' b0 48 [.string ⟨nm.toArray⟩, .slice none 0 0, vr, vy] := hch.blk h.box fun e => nb0 (by decide) h.orr b0 e.symm rfl
  have bb := h.box.lt
  refine ⟨?_, ?_, ?_, ?_, ?_, ?_, ?_, hB, hb⟩
  · exact (h.cur.ch hch fun k hk e => by have := (h.orr.lt k e.symm).1; omega).ch hs fun k hk e => by omega
  · have := box'.set_ 2 vr'
    simpa using this
  · exact hs.own (hch.own h.o3 fun k hk e => own_ne h.o3 h.orr (by decide) k hk e.symm) fun k hk e => nb0 (by decide) h.o3 k hk e
  · rw [List.length_append, cs_append, cs_one]
    refine hs.own ho fun k hk e => ?_
    rcases hv with hv | ⟨k', hv, hk'⟩
    · exact nb0 (by decide) h.orr k (by rw [← hv]; exact hk) e
    · rw [hk] at hv; injection hv with hv; omega
  · exact hs.own (hch.own h.oy fun k hk e => h.sep k e.symm hk) fun k hk e => nb0 (by decide) h.oy k hk e
  · intro k hk hy
    rcases hv with hv | ⟨k', hv, hk'⟩
    · exact h.sep k (by rw [← hv]; exact hk) hy
    · rw [hk] at hv; injection hv with hv
      have := (h.oy.lt k hy).2
      omega
  · refine (h.ch.trans' hch fun k hk e => by have := (h.orr.lt k e.symm).1; omega).fresh hb hs
/-- behind the append of a stay -/
theorem LegW.stay (h : LegW w B b0 toks q nm g vr vy v3 ts wr) {d : Int} {vy' : Value} (ho : w'.ownsRow w.heap.size 2 1 vy' (g.stays.length + 1) (cs intC g.stays ++ [.int .i64 d])) (hg : wr.grownBy w' vy.ownBlock)
    (hv : vy'.ownBlock = vy.ownBlock ∨ ∃ k, vy'.ownBlock = some k ∧ wr.heap.size ≤ k) : LegW w B b0 toks q nm { g with stays := g.stays ++ [d] } vr vy' v3 ts (w'.setCell ⟨b0, 3, none⟩ vy') := by
  have hB := h.hB
  have hb := h.hb0
  have hch : Ch (fun k => some k = vy.ownBlock) wr w' := .of_grown hg fun k e => e
  have hs : Ch (· = b0) w' (w'.setCell ⟨b0, 3, none⟩ vy') := ch_set _ _ _ _
  have nb0 : ∀ {v : Value} {e n : Nat} {xs : List Value} {sz : Nat}, e ≠ 48 → wr.ownsRow w.heap.size e sz v n xs → ∀ k, v.ownBlock = some k → k ≠ b0 := fun he ho => own_ne_blk ho h.box he
  have box' : Blk w' b0 48 [.string ⟨nm.toArray⟩, .slice none 0 0, vr, vy] := hch.blk h.box fun e => nb0 (by decide) h.oy b0 e.symm rfl
  have bb := h.box.lt
  refine ⟨?_, ?_, ?_, ?_, ?_, ?_, ?_, hB, hb⟩
  · exact (h.cur.ch hch fun k hk e => by have := (h.oy.lt k e.symm).1; omega).ch hs fun k hk e => by omega
  · have := box'.set_ 3 vy'
    simpa using this
  · exact hs.own (hch.own h.o3 fun k hk e => own_ne h.o3 h.oy (by decide) k hk e.symm) fun k hk e => nb0 (by decide) h.o3 k hk e
  · exact hs.own (hch.own h.orr fun k hk e => h.sep k hk e.symm) fun k hk e => nb0 (by decide) h.orr k hk e
  · rw [List.length_append, cs_append, cs_one]
    refine hs.own ho fun k hk e => ?_
    rcases hv with hv | ⟨k', hv, hk'⟩
    · exact nb0 (by decide) h.oy k (by rw [← hv]; exact hk) e
    · rw [hk] at hv; injection hv with hv; omega
  · intro k hr hk
    rcases hv with hv | ⟨k', hv, hk'⟩
    · exact h.sep k hr (by rw [← hv]; exact hk)
    · rw [hk] at hv; injection hv with hv
      have := (h.orr.lt k hr).2
      omega
  · refine (h.ch.trans' hch fun k hk e => by have := (h.oy.lt k e.symm).1; omega).fresh hb hs
/-- behind the append of a stop -/
theorem LegW.stop (h : LegW w B b0 toks q nm g vr vy v3 ts wr) {t : Tok} {v3' : Value} (ho : w'.ownsRow w.heap.size 70 5 v3' (g.stops.length + 1) (tc g.stops ++ tk t)) (hg : wr.grownBy w' v3.ownBlock) :
    LegW w B b0 toks q nm { g with stops := g.stops ++ [t] } vr vy v3' ts w' := by
  have hB := h.hB
  have hb := h.hb0
  have hch : Ch (fun k => some k = v3.ownBlock) wr w' := .of_grown hg fun k e => e
  refine ⟨?_, ?_, ?_, ?_, ?_, h.sep, ?_, hB, hb⟩
  · exact h.cur.ch hch fun k hk e => by have := (h.o3.lt k e.symm).1; omega
  · exact hch.blk h.box fun e => own_ne_blk h.o3 h.box (by decide) b0 e.symm rfl
  · rw [List.length_append, tc_append]
    have e : tc [t] = tk t := by simp [tc]
    rw [e]; exact ho
  · exact hch.own h.orr fun k hk e => own_ne h.orr h.o3 (by decide) k hk e.symm
  · exact hch.own h.oy fun k hk e => own_ne h.oy h.o3 (by decide) k hk e.symm
  · exact h.ch.trans' hch fun k hk e => by have := (h.o3.lt k e.symm).1; omega
end
/-- the route in its box, its rows in new memory -/
theorem leg_rts {w w7 : World} {B b0 : Nat} {toks ts : List Tok} {q : List Value} {nm : List UInt8} {g : Legs} {v3 : Value} {Ar Ay As : Option Addr} {cr cy c1 : Nat} (h : LegW w B b0 toks q nm g (.slice Ar g.rides.length cr) (.slice Ay g.stays.length cy) v3 ts w7)
    (hs : Rd w7 (fun b => w.heap.size ≤ b ∧ b < w7.heap.size) As (cs strC (g.stops.map (·.text)))) :
    Rts w7 (fun b => w.heap.size ≤ b ∧ b < w7.heap.size) [routeOf nm g] [.string ⟨nm.toArray⟩, .slice As (g.stops.map (·.text)).length c1, .slice Ar g.rides.length cr, .slice Ay g.stays.length cy] := by
  obtain ⟨A1, c1', e1, -, hr⟩ := own_form h.orr
  obtain ⟨A2, c2', e2, -, hy⟩ := own_form h.oy
  injection e1 with e1; subst e1
  injection e2 with e2; subst e2
  exact ⟨As, c1, Ar, cr, Ay, cy, [], rfl, hs, hr, hy, rfl⟩
theorem route_done {w w7 w8 : World} {B : Nat} {toks r : List Tok} {x : SheetM} {first : Tok} {v1 v2 v3 v4 v5 v6 : Value} {A' : Option Addr} {c' : Nat} {r' : RouteM} {c4 cells : List Value}
    (hs : ShRows w B x v1 v2 v3 v4 v5 v6) (hbk : Rdb w B) (h4 : w.ownsRow (B + 1) 48 4 v4 x.routes.length c4) (h4' : Rts w (Away w B [v1, v2, v3, v4, v5, v6]) x.routes c4) (hch : Ch (· = B) w w7) (hB : B < w.heap.size)
    (hrt : Rts w7 (fun b => w.heap.size ≤ b ∧ b < w7.heap.size) [r'] cells) (hc8 : Cur w8 B toks (fc first ++ shq x v1 v2 v3 v4 v5 v6) r)
    (ho : w8.ownsRow (B + 1) 48 4 (.slice A' (x.routes.length + 1) c') (x.routes.length + 1) (c4 ++ cells))
    (hch2 : Ch (fun b => b = B ∨ some b = v4.ownBlock) w7 w8) (hob : (Value.slice A' (x.routes.length + 1) c').ownBlock = v4.ownBlock ∨ ∃ k, (Value.slice A' (x.routes.length + 1) c').ownBlock = some k ∧ w7.heap.size ≤ k) (hlt : x.routes.length < 256) :
    SRdr (w8.setCell ⟨B, 11, none⟩ (.slice A' (x.routes.length + 1) c')) B toks { x with routes := x.routes ++ [r'] } first r ∧ Up B w (w8.setCell ⟨B, 11, none⟩ (.slice A' (x.routes.length + 1) c')) := by
  have hs1 := hs.ch hch (fun k hk e => by omega)
  have hk : Ch (· = B) w8 (w8.setCell ⟨B, 11, none⟩ (.slice A' (x.routes.length + 1) c')) := ch_set _ _ _ _
  have h41 : w7.ownsRow (B + 1) 48 4 v4 x.routes.length c4 := hch.own h4 fun k hk e => by have := (h4.lt k hk).1; omega
  have f : ∀ {e size n : Nat} {v : Value} {xs : List Value}, e ≠ 48 → w7.ownsRow (B + 1) e size v n xs → (w8.setCell ⟨B, 11, none⟩ (.slice A' (x.routes.length + 1) c')).ownsRow (B + 1) e size v n xs := fun hne h =>
    hk.own (hch2.own h fun k hkk e => by
      rcases e with e | e
      · have := (h.lt k hkk).1; omega
      · exact own_ne h h41 hne k hkk e.symm) fun k hkk e => by have := (h.lt k hkk).1; omega
  have zc := hch.size
  have z2 := hch2.size
  have z3 := hk.size
  -- the elder routes
  have g1 : Rts (w8.setCell ⟨B, 11, none⟩ (.slice A' (x.routes.length + 1) c')) (Away (w8.setCell ⟨B, 11, none⟩ (.slice A' (x.routes.length + 1) c')) B [v1, v2, v3, .slice A' (x.routes.length + 1) c', v5, v6]) x.routes c4 := by
    refine (h4'.keep fun b hb => ((hk.block b ?_ (by have := hb.1; omega)).trans (hch2.block b ?_ ?_)).trans (hch.block b hb.2.1 (by have := hb.1; omega))).more fun b hb => hb.on (by omega) ?_
    · have := hb.2.1; omega
    · have := hb.2.1; omega
    · rintro (e | e)
      · have := hb.1; omega
      · exact hb.2.2 v4 (by simp) e.symm
    · intro v' hv'
      simp only [List.mem_cons, List.not_mem_nil, or_false] at hv'
      rcases hv' with rfl | rfl | rfl | rfl | rfl | rfl
      · exact .inl (by simp)
      · exact .inl (by simp)
      · exact .inl (by simp)
      · refine .inr ⟨v4, by simp, ?_⟩
        rcases hob with e | ⟨k, e, hk'⟩
        · exact .inl e
        · exact .inr ⟨k, e, by omega⟩
      · exact .inl (by simp)
      · exact .inl (by simp)
  -- the new one
  have far : ∀ {e size n : Nat} {v : Value} {xs : List Value} {b : Nat}, w.ownsRow (B + 1) e size v n xs → w.heap.size ≤ b → v.ownBlock ≠ some b := fun ho hb e => by have := (ho.lt _ e).2; omega
  have g2 : Rts (w8.setCell ⟨B, 11, none⟩ (.slice A' (x.routes.length + 1) c')) (Away (w8.setCell ⟨B, 11, none⟩ (.slice A' (x.routes.length + 1) c')) B [v1, v2, v3, .slice A' (x.routes.length + 1) c', v5, v6]) [r'] cells := by
    refine (hrt.keep fun b hb => (hk.block b ?_ ?_).trans (hch2.block b hb.2 ?_)).more fun b hb => ⟨by omega, by omega, fun v' hv' => ?_⟩
    · have := hb.2; omega
    · have := hb.1; omega
    · rintro (e | e)
      · have := hb.1; omega
      · exact far h4 hb.1 e.symm
    · simp only [List.mem_cons, List.not_mem_nil, or_false] at hv'
      rcases hv' with rfl | rfl | rfl | rfl | rfl | rfl
      · exact far hs.r1 hb.1
      · exact far hs.r2 hb.1
      · exact far hs.r3 hb.1
      · rcases hob with e | ⟨k, e, hk'⟩
        · rw [e]; exact far h4 hb.1
        · rw [e]; intro e2; injection e2 with e2; omega
      · exact far hs.r5 hb.1
      · exact far hs.r6 hb.1
  refine ⟨⟨v1, v2, v3, _, v5, v6, hc8.store 9 _, ⟨f (by decide) hs1.r1, f (by decide) hs1.r2, f (by decide) hs1.r3, ⟨c4 ++ cells, ?_, Rts.snoc g2 g1⟩, f (by decide) hs1.r5, f (by decide) hs1.r6, hs1.n1, hs1.n2, hs1.n3, ?_, hs1.n5, hs1.n6⟩⟩, ?_⟩
  · rw [List.length_append]
    exact hk.own ho fun k hkk e => by have := (ho.lt k hkk).1; omega
  · rw [List.length_append]; simp; omega
  · exact up_done hbk h4 hch hch2 hk
end Go.Proofs.YteonmabfhilcfaaGreatDoor.Sh
namespace Go.Proofs.YteonmabfhilcfaaGreatDoor.Sh
open Go.ChangeShapes Go.WideShapes Go.ChangeAt Go.RowKit
open Lx
set_option linter.unusedVariables false

theorem info_int64 : (Tryz.prog.info? 2).map (fun i => (i.zero, i.size, i.bytes)) = some (some (.int .i64 0), 1, 8) := by kernel_rfl
theorem info_Tok : (Tryz.prog.info? 70).map (fun i => (i.zero, i.size, i.bytes)) = some (some (.agg #[.int .i64 0, .string ⟨#[]⟩, .int .i64 0, .int .i64 0, .int .i64 0]), 5, 48) := by kernel_rfl
/-- what becomes of a route's legs -/
def finR (x : SheetM) (first : Tok) (nm : List UInt8) (R : PR Legs) : PR SheetM :=
  R.bind fun g r => (endM x.routes.length 256 first r).bind fun _ r => overLeg g { x with routes := x.routes ++ [routeOf nm g] } r
structure LegRel (w : World) (B b0 : Nat) (toks : List Tok) (q : List Value) (nm : List UInt8) (R : PR Legs) (k : Nat) (v3 : Value) (wr : World) : Prop where
  ex : ∃ g vr vy ts, LegW w B b0 toks q nm g vr vy v3 ts wr ∧ EndL ts ∧ legsM ts g = R ∧ k = ts.length ∧ g.stops.length + ts.length ≤ 131073 ∧ g.rides.length ≤ g.stops.length ∧ g.stays.length ≤ g.stops.length
theorem fin_bad {w w' : World} {B : Nat} {toks : List Tok} {x : SheetM} {first : Tok} {nm : List UInt8} {R : PR Legs} {e l c : Int} (hR : R = .bad e l c) (hch : Up B w w') : LPost w B toks first (finR x first nm R) (.panicked (gave e l c)) w' := by
  rw [hR]; exact ⟨rfl, hch⟩
theorem leg_start {w w1 w2 : World} {B : Nat} {toks r1 : List Tok} {q : List Value} {nm : List UInt8} {t0 : Tok} (hB : B < w.heap.size) (h1 : Ch (· = B) w w1)
    (h2 : Ch (· = B) (w1.alloc (.cells #[.string ⟨nm.toArray⟩, .slice none 0 0, .slice none 0 0, .slice none 0 0] 48)) w2) (hc : Cur w2 B toks q r1) :
    LegW w B w1.heap.size toks q nm ⟨[t0], [], []⟩ (.slice none 0 0) (.slice none 0 0) (.slice (some ⟨w2.heap.size, 0, none⟩) 1 1) r1 (w2.alloc (.cells #[.int .i64 t0.kind, .string ⟨t0.text.toArray⟩, .int .i64 t0.num, .int .i64 t0.line, .int .i64 t0.col] 70)) := by
  have z1 := h1.size
  have z2 := h2.size
  simp at z2
  refine ⟨hc.after (one_box _ _), (h2.blk (Blk.new w1 48 [.string ⟨nm.toArray⟩, .slice none 0 0, .slice none 0 0, .slice none 0 0]) (by omega)).alloc _, ?_, World.ownsRow_nil _ _ _ _, World.ownsRow_nil _ _ _ _, (fun k hk => by cases hk), ((h1.alloc _).trans h2).alloc _, hB, h1.size⟩
  exact ⟨rfl, .inr ⟨w2.heap.size, 1, _, rfl, by omega, heap_alloc_new w2 _, by simp, by simp [maxLen], rfl, rfl⟩⟩
theorem own_rd {w : World} {b e s n k c : Nat} {A : Option Addr} {xs : List Value} (h : w.ownsRow b e s (.slice A n c) k xs) : Rd w (fun i => b ≤ i ∧ i < w.heap.size) A xs := by
  obtain ⟨A', c', e', -, hr⟩ := own_form h
  injection e' with e1 e2 e3; subst e1; exact hr
theorem fin_end {w w' : World} {B : Nat} {toks r : List Tok} {x : SheetM} {first : Tok} {nm : List UInt8} {R : PR Legs} {g : Legs} {e l c : Int} (hR : PR.ok g r = R) (hE : endM x.routes.length 256 first r = .bad e l c) (hch : Up B w w') : LPost w B toks first (finR x first nm R) (.panicked (gave e l c)) w' := by
  rw [← hR]; unfold finR; rw [bind_ok, hE]; exact ⟨rfl, hch⟩
theorem fin_over {w w' : World} {B : Nat} {toks r r5 : List Tok} {x : SheetM} {first : Tok} {nm : List UInt8} {R : PR Legs} {g : Legs} {u : Unit} {t : Tok} (hR : PR.ok g r = R) (hE : endM x.routes.length 256 first r = .ok u r5) (ht : g.stops[32]? = some t) (hch : Up B w w') : LPost w B toks first (finR x first nm R) (.panicked (gave 3 t.line t.col)) w' := by
  rw [← hR]; unfold finR overLeg; rw [bind_ok, hE, bind_ok, ht]; exact ⟨rfl, hch⟩
theorem fin_ok {w w' : World} {B : Nat} {toks r r5 : List Tok} {x : SheetM} {first : Tok} {nm : List UInt8} {R : PR Legs} {g : Legs} {u : Unit} (hR : PR.ok g r = R) (hE : endM x.routes.length 256 first r = .ok u r5) (ht : g.stops[32]? = none) (h : SRdr w' B toks { x with routes := x.routes ++ [routeOf nm g] } first r5) (hch : Up B w w') : LPost w B toks first (finR x first nm R) (.returned (.tuple #[])) w' := by
  rw [← hR]; unfold finR overLeg; rw [bind_ok, hE, bind_ok, ht]; exact ⟨rfl, h, hch⟩
set_option maxRecDepth 100000 in
set_option maxHeartbeats 4000000 in
theorem route_loop {w : World} {B : Nat} {toks ts : List Tok} {x : SheetM} {first : Tok} (h : SRdr w B toks x first ts) (he : EndL ts) (nm : List UInt8) (t0 : Tok) (r0 r1 : List Tok) (e1 : nameM ts = .ok nm r0) (e2 : takeM 1 r0 = .ok t0 r1) :
    Calls Tryz.prog 91 #[.pointer (some ⟨B, 0, none⟩)] w (LPost w B toks first (finR x first nm (legsM r1 ⟨[t0], [], []⟩))) := by
  obtain ⟨v1, v2, v3, v4, v5, v6, hc, hs⟩ := h
  have HBK := Lib.hid (Cur.blk hc)
  have H1 := Lib.hid (fun w1 (hw : Cur w1 B toks (fc first ++ shq x v1 v2 v3 v4 v5 v6) ts) => e1 ▸ name_any hw he)
  have he1 := (keeps_name _ _ _ he e1).1
  have H2 : Hid (∀ w1, Cur w1 B toks (fc first ++ shq x v1 v2 v3 v4 v5 v6) r0 → Calls Tryz.prog 110 #[.pointer (some ⟨B, 0, none⟩), .int .i64 1] w1 (RPost w1 B toks (fc first ++ shq x v1 v2 v3 v4 v5 v6) (fun t => .agg #[.int .i64 t.kind, .string ⟨t.text.toArray⟩, .int .i64 t.num, .int .i64 t.line, .int .i64 t.col]) (.ok t0 r1))) := Lib.hid (fun w1 hw => e2 ▸ take_any hw he1 1)
  have he2 := Lib.hid (keeps_take (by decide) _ _ _ he1 e2)
  obtain ⟨R, hR⟩ : ∃ R, R = legsM r1 ⟨[t0], [], []⟩ := ⟨_, rfl⟩
  rw [← hR]
  have HR := Lib.hid hR
  have hB := hc.lt
  have HS := Lib.hid hs
  obtain ⟨c4, h4, h4'⟩ := hs.r4
  have H4 := Lib.hid h4
  have H4R := Lib.hid h4'
  have hn4 := hs.n4
  have HP := Lib.hid (fun w1 r3 (hE : EndL r3) (h1 : Cur w1 B toks (fc first ++ shq x v1 v2 v3 v4 v5 v6) r3) (hw : Ch (· = B) w w1) x0 x1 x1n x1c x2 x2n x2c x3 x3n x3c => put_Route h1 hE x.routes.length v4 c4 (hw.own h4 (fun k hk e => by have := (h4.lt k hk).1; omega)) (by omega) x0 x1 x1n x1c x2 x2n x2c x3 x3n x3c)
  obtain ⟨Av4, cv4, hv4, -, -⟩ := own_form h4
  have HV4 := Lib.hid hv4
  have hc0 := hc
  obtain ⟨tk0, tx0, tn0, tl0, tc0⟩ := t0
  clear e1 e2 he he1 hs hc hR h4 h4' hn4 hv4
  go_enter Tryz.func91, Tryz.ntmps91
  go_wp2_with (first
    | (go_at_call 112; (with_reducible refine (H1.out _ hc0).mono ?_); rintro e w1 ⟨rfl, hc1, hch1⟩; have HC1 := Lib.hid hc1; have HCH1 := Lib.hid hch1; clear hc1 hch1)
    | (go_at_call 110; (with_reducible refine (H2.out _ (HC1.out.after (one_box _ _))).mono ?_); rintro e w2 ⟨rfl, hc2, hch2⟩; have HC2 := Lib.hid hc2; have HCH2 := Lib.hid hch2; clear hc2 hch2))
  have HL := Lib.hid (leg_start (t0 := ⟨tk0, tx0, tn0, tl0, tc0⟩) hB HCH1.out HCH2.out HC2.out)
  dsimp only at HL
  generalize w2.alloc (.cells #[.int .i64 tk0, .string ⟨tx0.toArray⟩, .int .i64 tn0, .int .i64 tl0, .int .i64 tc0] 70) = W0 at HL ⊢
  generalize Value.slice (some ⟨w2.heap.size, 0, none⟩) 1 1 = V0 at HL ⊢
  generalize w1.heap.size = b0 at HL ⊢
  have HI : Hid (LegRel w B b0 toks (fc first ++ shq x v1 v2 v3 v4 v5 v6) nm R r1.length V0 W0) := Lib.hid ⟨_, _, _, _, HL.out, he2.out.1, HR.out.symm, rfl, by
    have := HL.out.cur; obtain ⟨A, c, at_, _, h1, h2, h3, _⟩ := this; rw [← h1]; simp; omega, by simp, by simp⟩
  clear H1 H2 HC1 HCH1 HC2 HCH2 HL he2 hc0
  go_loopg [3] r1.length (fun k v wr => LegRel w B b0 toks (fc first ++ shq x v1 v2 v3 v4 v5 v6) nm R k v wr)
  case atStart => exact HI.out
  case round =>
    obtain ⟨g, vr, vy, tz, hL, hE, hR, hk, hn1, hn2, hn3⟩ := hrel
    rw [legs_step g hE] at hR
    have HNUM := Lib.hid (fun w1 (hw : Cur w1 B toks (fc first ++ shq x v1 v2 v3 v4 v5 v6) tz) => num_any hw hE)
    have HLW := Lib.hid hL
    have b2 : wr.cell? ⟨b0, 2, none⟩ = some vr := hL.box.cell 2
    have b3 : wr.cell? ⟨b0, 3, none⟩ = some vy := hL.box.cell 3
    have f2 : wr.frozen? ⟨b0, 2, none⟩ = false := hL.box.frozen 2
    cases e1 : numM tz with
    | bad er l c =>
      rw [e1] at hR HNUM
      have HRB := Lib.hid hR.symm
      clear hR e1 hL hE hk hn1 hn2 hn3
      go_wp2
      go_region_dies
      all_goals
        refine (HNUM.out _ (by first | exact HLW.out.cur | exact HLW.out.cur.drew)).mono ?_
        rintro e w9 ⟨rfl, hc9⟩
        exact ⟨rfl, fin_bad HRB.out (ch_up HBK.out (HLW.out.ch.trans ((by first | exact Ch.refl _ _ | exact (Ch.refl _ _).drew : Ch (· = B) wr _).trans hc9)))⟩
    | ok d r2 =>
      rw [e1] at hR HNUM
      rw [bind_ok] at hR
      have hE2 := (keeps_num _ _ _ hE e1).1
      have hl2 := num_lt e1
      obtain ⟨i0, hi0, hz0, hz1, hz2⟩ := info_parts info_int64
      have HIN := Lib.hid (And.intro hi0 (And.intro hz0 (And.intro hz1 hz2)))
      obtain ⟨Ar, cr, rfl, -, -⟩ := own_form hL.orr
      have HSZ := Lib.hid (And.intro hn1 (And.intro hn2 hn3))
      have HHK := Lib.hid hk
      have HHR := Lib.hid hR
      have HHE := Lib.hid hE2
      have HL2 := Lib.hid hl2
      have hnr : g.rides.length ≤ 131073 := by omega
      have hbw : b0 < wr.heap.size := hL.box.lt
      have hbB : B < b0 := by have := hL.hB; have := hL.hb0; omega
      clear hR e1 hE2 hL hE hk hl2 hn1 hn2 hn3 hi0 hz0 hz1 hz2
      go_upto_region 2 with (fail)
      go_cut [15] (fun s15 wx => ∃ vr', LegW w B b0 toks (fc first ++ shq x v1 v2 v3 v4 v5 v6) nm { g with rides := g.rides ++ [d] } vr' vy u3 r2 wx)
      case first =>
        go_region_law (first
            | (refine step_append_lies _ (by rfl) (.tmp 11) (.tmp 14) 46 (by rfl) w.heap.size 2 i0 _ 1 8 Tryz.underlying46 HIN.out.1 HIN.out.2.1 HIN.out.2.2.1 HIN.out.2.2.2 rfl (by omega) (.slice Ar g.rides.length cr) g.rides.length (cs intC g.rides) (by rfl) (HL3.out.orr.alloc _)
                ⟨w3.heap.size, 0, none⟩ 1 1 [.int .i64 d] (by rfl) (by rfl) (World.news_of_block (cs := #[.int .i64 d]) (t := 2) (fr := (0, 0)) (heap_alloc_new w3 _)) (by simp [Value.oneCell'])
                (by omega) (by unfold maxLen; omega) (by omega) (by have := HL3.out.ch.size; simp; omega) (w3.heap.size + 1) (by simp) ?_; intro gg cap w4 hown4 hgrow hat hgl; have KB := Lib.hid (Blk.grown (HL3.out.box.alloc _) hgrow (fun e => own_ne_blk HL3.out.orr HL3.out.box (by decide) b0 e.symm rfl)); have k4 : w4.cell? ⟨b0, 2, none⟩ = some (.slice Ar g.rides.length cr) := KB.out.cell 2; have f4 : w4.frozen? ⟨b0, 2, none⟩ = false := KB.out.frozen 2)
            | (go_simp; go_at_call 109; refine (HNUM.out _ (by first | exact HLW.out.cur | exact HLW.out.cur.drew)).mono ?_; rintro e w3 ⟨rfl, hc3, hch3⟩; have HL3 := Lib.hid (LegW.on (by first | exact HLW.out | exact HLW.out.old (below_drew (Below.refl _ _))) hc3 hch3); have k3 : w3.cell? ⟨b0, 2, none⟩ = some (.slice Ar g.rides.length cr) := HL3.out.box.cell 2; have k3' : ∀ o, (w3.alloc o).cell? ⟨b0, 2, none⟩ = some (.slice Ar g.rides.length cr) := fun o => (HL3.out.box.alloc o).cell 2)
            | fail)
        all_goals
          have hat' : (Value.slice (some ⟨gg, 0, none⟩) (g.rides.length + 1) cap).ownBlock = (Value.slice Ar g.rides.length cr).ownBlock ∨ ∃ k, (Value.slice (some ⟨gg, 0, none⟩) (g.rides.length + 1) cap).ownBlock = some k ∧ (w3.alloc (.cells #[.int .i64 d] 2)).heap.size ≤ k := by
            rcases hat with h | h
            · left; rw [h]; rfl
            · right; exact ⟨gg, rfl, by rw [h]; simp⟩
          have HL4 := Lib.hid ((HL3.out.old (one_box w3 (.cells #[.int .i64 d] 2))).ride hown4 hgrow hat')
          go_wp2_with fail
          go_meet
          exact ⟨_, HL4.out⟩
      case rest =>
        obtain ⟨vr4, hL4⟩ := hcut
        have HL4 := Lib.hid hL4
        have hE2 := HHE.out
        have hR := HHR.out
        have HT : Hid (∀ w1, Cur w1 B toks (fc first ++ shq x v1 v2 v3 v4 v5 v6) r2 → Calls Tryz.prog 110 #[.pointer (some ⟨B, 0, none⟩), .int .i64 1] w1 (RPost w1 B toks (fc first ++ shq x v1 v2 v3 v4 v5 v6) (fun t => .agg #[.int .i64 t.kind, .string ⟨t.text.toArray⟩, .int .i64 t.num, .int .i64 t.line, .int .i64 t.col]) (takeM 1 r2))) := Lib.hid (fun w1 hw => take_any hw hE2 1)
        clear hL4 HNUM HLW b2 b3 f2 HIN hbw hnr
        cases e2 : takeM 1 r2 with
        | bad er l c =>
          rw [e2] at hR HT
          have HRB := Lib.hid hR.symm
          clear hR e2 hE2
          go_wp2_with (go_at_call 110; refine (HT.out _ HL4.out.cur).mono ?_; rintro e w9 ⟨rfl, hc9⟩)
          exact ⟨rfl, fin_bad HRB.out (ch_up HBK.out (HL4.out.ch.trans hc9))⟩
        | ok t r3 =>
          rw [e2] at hR HT
          rw [bind_ok] at hR
          have hk3 := keeps_take (by decide) _ _ _ hE2 e2
          obtain ⟨nt, rn, hr3⟩ := hk3.1.cons
          have HE3 := Lib.hid hk3.1
          have HL3 := Lib.hid hk3.2
          have HR3 := Lib.hid hr3
          have hhd : headKind r3 = nt.kind := by rw [hr3]; rfl
          rw [hhd] at hR
          have hfd := field_kind
          have hns : g.stops.length ≤ 131073 := by have := HSZ.out.1; omega
          obtain ⟨A3, c3, hu3, -, -⟩ := own_form HL4.out.o3
          obtain ⟨tk, tx, tn, tl, tcl⟩ := t
          clear e2 hE2 hk3 hr3 hhd
          by_cases hk4 : nt.kind = 4
          · rw [if_pos hk4] at hR
            have hq : (nt.kind == 4) = true := beq_iff_eq.2 hk4
            have HRO := Lib.hid hR
            clear hR hk4
            subst hu3
            go_upto_region 7 with (first
              | (go_at_call 110; refine (HT.out _ HL4.out.cur).mono ?_; rintro e w5 ⟨rfl, hc5, hch5⟩; have HL5 := Lib.hid (HL4.out.on hc5 hch5); clear hc5 hch5)
              | (at_builtin; refine wpList_append_ch rfl (.tmp 17) (.tmp 20) 63 rfl w.heap.size 70 _ 5 48 Tryz.underlying63 info_Tok rfl (by omega) (by omega) (.slice A3 g.stops.length c3) g.stops.length (tc g.stops) rfl (HL5.out.o3.alloc _) _ _ 1 1 [.int .i64 tk, .string ⟨tx.toArray⟩, .int .i64 tn, .int .i64 tl, .int .i64 tcl] rfl rfl (lit_at _ _ _ _ _ (by simp) rfl) (by simp [Value.oneCell']) (by omega) (by have := HL5.out.ch.size; simp; omega) ?_; intro v6' w6 hown6 hg6 hob6; have HL6 := Lib.hid ((HL5.out.old (one_box w5 _)).stop (t := ⟨tk, tx, tn, tl, tcl⟩) hown6.out hg6.out); obtain ⟨A6, c6, rfl, -, hrd6⟩ := own_form hown6.out; have HRD6 := Lib.hid hrd6; clear hrd6)
              | (go_at_call 116; refine (next_any HL6.out.cur HR3.out).mono ?_; rintro e w7 ⟨rfl, hb7⟩; have HL7 := Lib.hid (HL6.out.old hb7); have HB7 := Lib.hid hb7; clear hb7)
              | (go_at_call 118; refine (texts_any _ A6 (g.stops.length + 1) c6 (g.stops ++ [⟨tk, tx, tn, tl, tcl⟩]) (by show _ = _; simp) (by have := HSZ.out.1; have := HL2.out; have := HL3.out; rw [HR3.out] at this; simp at this; omega) (rd_old ((own_rd HL7.out.o3).more fun b hb => ⟨hb.1, hb.2⟩))).mono ?_; rintro e w8 ⟨As, rfl, hrd8, hb8⟩; have HL8 := Lib.hid (HL7.out.old hb8); have HRD8 := Lib.hid hrd8; have HB8 := Lib.hid hb8; have k8 : w8.cell? ⟨b0, 1, none⟩ = some (.slice none 0 0) := HL8.out.box.cell 1; have f8 : w8.frozen? ⟨b0, 1, none⟩ = false := HL8.out.box.frozen 1; clear hrd8 hb8))
            generalize hW8 : w8.setCell ⟨b0, 1, none⟩ (.slice As (g.stops.length + 1) (g.stops.length + 1)) = W8
            obtain ⟨Ar4, cr4, hr4, -, -⟩ := own_form HL8.out.orr
            obtain ⟨Ay4, cy4, hy4, -, -⟩ := own_form HL8.out.oy
            have hs8 : Ch (· = b0) w8 W8 := by rw [← hW8]; exact ch_set _ _ _ _
            have hz8 := hs8.size
            have hw8 := HL8.out.ch.size
            have hc8 : Cur W8 B toks (fc first ++ shq x v1 v2 v3 v4 v5 v6) r3 := HL8.out.cur.ch hs8 fun k hk e => by omega
            have hch8 : Ch (· = B) w W8 := HL8.out.ch.fresh HL8.out.hb0 hs8
            have hbox : Blk W8 b0 48 [.string ⟨nm.toArray⟩, .slice As (g.stops.length + 1) (g.stops.length + 1), vr4, vy] := by rw [← hW8]; exact HL8.out.box.set_ 1 _
            have nb : ∀ {v : Value} {e n : Nat} {xs : List Value} {sz : Nat}, e ≠ 48 → w8.ownsRow w.heap.size e sz v n xs → W8.ownsRow w.heap.size e sz v n xs := fun he ho => hs8.own ho (fun k hk e => own_ne_blk ho HL8.out.box he k hk e)
            have ho3 := nb (by decide) HL8.out.o3
            have hor := nb (by decide) HL8.out.orr
            have hoy := nb (by decide) HL8.out.oy
            subst hr4
            subst hy4
            have hs : Rd W8 (fun b => w.heap.size ≤ b ∧ b < W8.heap.size) As (cs strC ((g.stops ++ [(⟨tk, tx, tn, tl, tcl⟩ : Tok)]).map (fun z : Tok => z.text))) :=
              (HRD8.out.keep fun b hb => hs8.block b hb.2 (by have := HL7.out.box.lt; omega)).more fun b hb => ⟨by have := HL7.out.ch.size; omega, by omega⟩
            have hrt : Rts W8 (fun b => w.heap.size ≤ b ∧ b < W8.heap.size) [routeOf nm ⟨g.stops ++ [(⟨tk, tx, tn, tl, tcl⟩ : Tok)], g.rides ++ [d], g.stays⟩] [.string ⟨nm.toArray⟩, .slice As (g.stops.length + 1) (g.stops.length + 1), .slice Ar4 (g.rides ++ [d]).length cr4, .slice Ay4 g.stays.length cy4] :=
              ⟨As, g.stops.length + 1, Ar4, cr4, Ay4, cy4, [], by simp [routeOf], hs, own_rd hor, own_rd hoy, rfl⟩
            obtain ⟨nr, hnr⟩ : ∃ nr, nr = (g.rides ++ [d]).length := ⟨_, rfl⟩
            rw [← hnr] at hbox hrt
            have q0 : W8.cell? ⟨b0, 0, none⟩ = some (.string ⟨nm.toArray⟩) := hbox.cell 0
            have q1 : W8.cell? ⟨b0, 1, none⟩ = some (.slice As (g.stops.length + 1) (g.stops.length + 1)) := hbox.cell 1
            have q2 : W8.cell? ⟨b0, 2, none⟩ = some (.slice Ar4 nr cr4) := hbox.cell 2
            have q3 : W8.cell? ⟨b0, 3, none⟩ = some (.slice Ay4 g.stays.length cy4) := hbox.cell 3
            have q11 : W8.cell? ⟨B, 11, none⟩ = some v4 := hc8.cell 9
            have HC8 := Lib.hid hc8
            have HCH8 := Lib.hid hch8
            have HRT := Lib.hid hrt
            have HTK := Lib.hid (own_rd ho3)
            clear hs8 hz8 hw8 hc8 hch8 hbox nb ho3 hor hoy hs hrt hnr hW8 HL4 HL5 HL6 HL7 HL8 k8 f8 HRD6 HRD8 HB7 HB8 hown6 hg6 hob6 HT hfd hq
            cases hq2 : endM x.routes.length 256 first r3 with
            | bad er l c =>
              have HP' := fun w1 h1 h2 => HP.out w1 r3 HE3.out h1 h2
              rw [hq2] at HP'
              have HPB := Lib.hid HP'
              have HQ2 := Lib.hid hq2
              clear HP' hq2 HP
              go_region_dies
              all_goals
                refine (HPB.out _ (by first | exact HC8.out | exact HC8.out.drew) (by first | exact HCH8.out | exact HCH8.out.drew) nm As (g.stops.length + 1) (g.stops.length + 1) Ar4 nr cr4 Ay4 g.stays.length cy4).mono ?_
                rintro e w9 ⟨rfl, hc9⟩
                exact ⟨rfl, fin_end HRO.out HQ2.out (ch_up HBK.out ((by first | exact HCH8.out | exact HCH8.out.drew : Ch (· = B) w _).trans hc9))⟩
            | ok u r5 =>
              have HP' := fun w1 h1 h2 => HP.out w1 r3 HE3.out h1 h2
              rw [hq2] at HP'
              have HPB := Lib.hid HP'
              have HQ2 := Lib.hid hq2
              have HRM := Lib.hid (end_room hq2)
              have HREF := Lib.hid (fun t w' => refuse_any (.pointer (some ⟨B, 0, none⟩)) 3 t w')
              clear HP' hq2 HP
              go_cut [47] (fun s47 wx => SRdr wx B toks { x with routes := x.routes ++ [routeOf nm ⟨g.stops ++ [(⟨tk, tx, tn, tl, tcl⟩ : Tok)], g.rides ++ [d], g.stays⟩] } first r5 ∧ Up B w wx ∧ Rd wx (fun b => w.heap.size ≤ b ∧ b < wx.heap.size) A6 (tc (g.stops ++ [(⟨tk, tx, tn, tl, tcl⟩ : Tok)])))
              case first =>
                go_region_with ((go_at_call 119; refine (HPB.out _ (by first | exact HC8.out | exact HC8.out.drew) (by first | exact HCH8.out | exact HCH8.out.drew) nm As (g.stops.length + 1) (g.stops.length + 1) Ar4 nr cr4 Ay4 g.stays.length cy4).mono ?_; rintro e w9 ⟨A', c', rfl, ho2, hc2, hch2, hob⟩; have b3 : w9.cell? ⟨B, 11, none⟩ = some v4 := hc2.cell 9; have b4 : w9.frozen? ⟨B, 11, none⟩ = false := hc2.frozen 11))
                all_goals
                  have hd := route_done (w7 := W8.drew) HS.out HBK.out H4.out H4R.out HCH8.out.drew hB HRT.out hc2 ho2 hch2 hob HRM.out
                  go_wp2_with fail
                  go_meet
                  have hz9 := hch2.size
                  have z9 : ∀ u, (w9.setCell ⟨B, 11, none⟩ u).heap.size = w9.heap.size := fun u => by simp [World.setCell]
                  refine ⟨hd.1, hd.2, (HTK.out.keep fun b hb => ((ch_set w9 B 11 _).block b (by have := hb.2; exact Nat.lt_of_lt_of_le this hz9) (by have := hb.1; omega)).trans (hch2.block b hb.2 ?_)).more fun b hb => ⟨hb.1, by rw [z9]; exact Nat.lt_of_lt_of_le hb.2 hz9⟩⟩
                  rintro (e | e)
                  · have := hb.1; omega
                  · have := (H4.out.lt b e.symm).2; have := hb.1; omega
              case rest =>
                obtain ⟨hsr, hchr, hrdt⟩ := hcut
                have HSR := Lib.hid hsr
                have HCHR := Lib.hid hchr
                by_cases h32 : 32 < g.stops.length + 1
                · obtain ⟨t32, ht32⟩ : ∃ t32, (g.stops ++ [(⟨tk, tx, tn, tl, tcl⟩ : Tok)])[32]? = some t32 := ⟨_, List.getElem?_eq_getElem (by simp; omega)⟩
                  obtain ⟨ad, rfl, -, hT⟩ := rd_tok hrdt ht32
                  have HOV := Lib.hid (fun w' (h : Up B w w') => fin_over (w' := w') (toks := toks) (x := x) (first := first) (nm := nm) HRO.out HQ2.out ht32 h)
                  obtain ⟨k9, x9, n9, l9, c9⟩ := t32
                  have a0 : wc.cell? ⟨ad.block, ad.off + 160, none⟩ = some (.int .i64 k9) := hT.c0
                  have a1 : wc.cell? ⟨ad.block, ad.off + 160 + 1, none⟩ = some (.string ⟨x9.toArray⟩) := hT.c1
                  have a2 : wc.cell? ⟨ad.block, ad.off + 160 + 2, none⟩ = some (.int .i64 n9) := hT.c2
                  have a3 : wc.cell? ⟨ad.block, ad.off + 160 + 3, none⟩ = some (.int .i64 l9) := hT.c3
                  have a4 : wc.cell? ⟨ad.block, ad.off + 160 + 4, none⟩ = some (.int .i64 c9) := hT.c4
                  have hi : (32 : Int) < (g.stops.length : Int) + 1 := by omega
                  clear hsr hchr hrdt hT ht32 h32
                  go_wp2_with (go_at_call 57; refine (HREF.out ⟨k9, x9, n9, l9, c9⟩ _).mono ?_; rintro e w9 ⟨rfl, hb9⟩)
                  exact ⟨rfl, HOV.out _ (up_below HCHR.out (by have := HCHR.out.below.size; omega) hb9)⟩
                · have hnone : (g.stops ++ [(⟨tk, tx, tn, tl, tcl⟩ : Tok)])[32]? = none := List.getElem?_eq_none (by simp; omega)
                  have HNO := Lib.hid hnone
                  have hi : ¬ (32 : Int) < (g.stops.length : Int) + 1 := by omega
                  clear hsr hchr hrdt hnone h32
                  go_wp2
                  refine bodyPost_ret (results_none rfl _ _ _) rfl ?_
                  exact fin_ok HRO.out HQ2.out HNO.out HSR.out HCHR.out
          · rw [if_neg hk4] at hR
            have hq : (nt.kind == 4) = false := beq_eq_false_iff_ne.2 hk4
            have HRO := Lib.hid hR
            clear hR hk4
            subst hu3
            go_upto_region 5 with (first
              | (go_at_call 110; refine (HT.out _ HL4.out.cur).mono ?_; rintro e w5 ⟨rfl, hc5, hch5⟩; have HL5 := Lib.hid (HL4.out.on hc5 hch5); clear hc5 hch5)
              | (at_builtin; refine wpList_append_ch rfl (.tmp 17) (.tmp 20) 63 rfl w.heap.size 70 _ 5 48 Tryz.underlying63 info_Tok rfl (by omega) (by omega) (.slice A3 g.stops.length c3) g.stops.length (tc g.stops) rfl (HL5.out.o3.alloc _) _ _ 1 1 [.int .i64 tk, .string ⟨tx.toArray⟩, .int .i64 tn, .int .i64 tl, .int .i64 tcl] rfl rfl (lit_at _ _ _ _ _ (by simp) rfl) (by simp [Value.oneCell']) (by omega) (by have := HL5.out.ch.size; simp; omega) ?_; intro v6' w6 hown6 hg6 hob6; have HL6 := Lib.hid ((HL5.out.old (one_box w5 _)).stop (t := ⟨tk, tx, tn, tl, tcl⟩) hown6.out hg6.out))
              | (go_at_call 116; refine (next_any HL6.out.cur HR3.out).mono ?_; rintro e w7 ⟨rfl, hb7⟩; have HL7 := Lib.hid (HL6.out.old hb7); clear hb7))
            have HST := Lib.hid (fun w1 (hw : Cur w1 B toks (fc first ++ shq x v1 v2 v3 v4 v5 v6) r3) => stay_any hw HE3.out)
            have HRO' := HRO.out
            clear HRO
            have b3 : w7.cell? ⟨b0, 3, none⟩ = some vy := HL7.out.box.cell 3
            cases e3 : stayM r3 with
            | bad er l c =>
              rw [e3] at HRO' HST
              have HRB := Lib.hid HRO'.symm
              clear HRO' e3
              go_region_dies
              all_goals
                refine (HST.out _ (by first | exact HL7.out.cur | exact HL7.out.cur.drew)).mono ?_
                rintro e w9 ⟨rfl, hc9⟩
                exact ⟨rfl, fin_bad HRB.out (ch_up HBK.out (HL7.out.ch.trans ((by first | exact Ch.refl _ _ | exact (Ch.refl _ _).drew : Ch (· = B) w7 _).trans hc9)))⟩
            | ok d4 r4 =>
              rw [e3] at HRO' HST
              rw [bind_ok] at HRO'
              have HR4 := Lib.hid HRO'
              have HK4 := Lib.hid (keeps_stay _ _ _ HE3.out e3)
              clear HRO' e3
              obtain ⟨i0, hi0, hz0, hz1, hz2⟩ := info_parts info_int64
              have HIN := Lib.hid (And.intro hi0 (And.intro hz0 (And.intro hz1 hz2)))
              obtain ⟨Ay, cy, rfl, -, -⟩ := own_form HL7.out.oy
              have hny : g.stays.length ≤ 131073 := by have := HSZ.out.1; have := HSZ.out.2.2; omega
              have hbw : b0 < w7.heap.size := HL7.out.box.lt
              clear hi0 hz0 hz1 hz2
              go_region_law (first
                  | (refine step_append_lies _ (by rfl) (.tmp 27) (.tmp 30) 46 (by rfl) w.heap.size 2 i0 _ 1 8 Tryz.underlying46 HIN.out.1 HIN.out.2.1 HIN.out.2.2.1 HIN.out.2.2.2 rfl (by omega) (.slice Ay g.stays.length cy) g.stays.length (cs intC g.stays) (by rfl) (HL8.out.oy.alloc _)
                      ⟨w8.heap.size, 0, none⟩ 1 1 [.int .i64 d4] (by rfl) (by rfl) (World.news_of_block (cs := #[.int .i64 d4]) (t := 2) (fr := (0, 0)) (heap_alloc_new w8 _)) (by simp [Value.oneCell'])
                      (by omega) (by unfold maxLen; omega) (by omega) (by have := HL8.out.ch.size; simp; omega) (w8.heap.size + 1) (by simp) ?_; intro gg cap w9 hown9 hgrow hat hgl; have KB := Lib.hid (Blk.grown (HL8.out.box.alloc _) hgrow (fun e => own_ne_blk HL8.out.oy HL8.out.box (by decide) b0 e.symm rfl)); have k9 : w9.cell? ⟨b0, 3, none⟩ = some (.slice Ay g.stays.length cy) := KB.out.cell 3; have f9 : w9.frozen? ⟨b0, 3, none⟩ = false := KB.out.frozen 3)
                  | (go_simp; go_at_call 117; refine (HST.out _ (by first | exact HL7.out.cur | exact HL7.out.cur.drew)).mono ?_; rintro e w8 ⟨rfl, hc8, hch8⟩; have HL8 := Lib.hid (LegW.on (by first | exact HL7.out | exact HL7.out.old (below_drew (Below.refl _ _))) hc8 hch8); have k8 : w8.cell? ⟨b0, 3, none⟩ = some (.slice Ay g.stays.length cy) := HL8.out.box.cell 3; have k8' : ∀ o, (w8.alloc o).cell? ⟨b0, 3, none⟩ = some (.slice Ay g.stays.length cy) := fun o => (HL8.out.box.alloc o).cell 3)
                  | fail)
              all_goals
                have hat' : (Value.slice (some ⟨gg, 0, none⟩) (g.stays.length + 1) cap).ownBlock = (Value.slice Ay g.stays.length cy).ownBlock ∨ ∃ k, (Value.slice (some ⟨gg, 0, none⟩) (g.stays.length + 1) cap).ownBlock = some k ∧ (w8.alloc (.cells #[.int .i64 d4] 2)).heap.size ≤ k := by
                  rcases hat with h | h
                  · left; rw [h]; rfl
                  · right; exact ⟨gg, rfl, by rw [h]; simp⟩
                have HL9 := Lib.hid ((HL8.out.old (one_box w8 (.cells #[.int .i64 d4] 2))).stay hown9 hgrow hat')
                go_wp2_with fail
                go_roundg r4.length
                case rel =>
                  have h1 := HSZ.out
                  have h2 := HL2.out
                  have h3 := HL3.out
                  have h4 := HK4.out.2
                  exact ⟨_, _, _, _, HL9.out, HK4.out.1, HR4.out, rfl, by simp; omega, by simp; omega, by simp; omega⟩
                case measure =>
                  have h2 := HL2.out
                  have h3 := HL3.out
                  have h4 := HK4.out.2
                  have h5 := HHK.out
                  omega
end Go.Proofs.YteonmabfhilcfaaGreatDoor.Sh
namespace Go.Proofs.YteonmabfhilcfaaGreatDoor.Sh
open Go.ChangeShapes Go.WideShapes Go.ChangeAt Go.RowKit
open Lx
set_option linter.unusedVariables false
set_option linter.unusedSimpArgs false

set_option maxRecDepth 100000 in
set_option maxHeartbeats 2000000 in
theorem route_f1 {w : World} {B : Nat} {toks ts : List Tok} {x : SheetM} {first : Tok} (h : SRdr w B toks x first ts) (he : EndL ts) (er l0 c0 : Int) (eb : nameM ts = .bad er l0 c0) :
    Calls Tryz.prog 91 #[.pointer (some ⟨B, 0, none⟩)] w fun e w' => e = .panicked (gave er l0 c0) ∧ Up B w w' := by
  obtain ⟨v1, v2, v3, v4, v5, v6, hc, hs⟩ := h
  have HBK := Lib.hid (Cur.blk hc)
  have H1 := Lib.hid (fun w1 (hw : Cur w1 B toks (fc first ++ shq x v1 v2 v3 v4 v5 v6) ts) => eb ▸ name_any hw he)
  have hc0 := hc
  clear eb hs hc he
  go_enter Tryz.func91, Tryz.ntmps91
  go_wp2_with (go_at_call 112; (with_reducible refine (H1.out _ hc0).mono ?_); rintro e w1 ⟨rfl, hch1⟩)
  exact ⟨rfl, rfl, ch_up HBK.out hch1⟩
set_option maxRecDepth 100000 in
set_option maxHeartbeats 2000000 in
theorem route_f2 {w : World} {B : Nat} {toks ts : List Tok} {x : SheetM} {first : Tok} (h : SRdr w B toks x first ts) (he : EndL ts) (n : List UInt8) (r1 : List Tok) (e1 : nameM ts = .ok n r1) (er l0 c0 : Int) (eb : takeM 1 r1 = .bad er l0 c0) :
    Calls Tryz.prog 91 #[.pointer (some ⟨B, 0, none⟩)] w fun e w' => e = .panicked (gave er l0 c0) ∧ Up B w w' := by
  obtain ⟨v1, v2, v3, v4, v5, v6, hc, hs⟩ := h
  have HBK := Lib.hid (Cur.blk hc)
  have H1 := Lib.hid (fun w1 (hw : Cur w1 B toks (fc first ++ shq x v1 v2 v3 v4 v5 v6) ts) => e1 ▸ name_any hw he)
  have he1 := (keeps_name _ _ _ he e1).1
  have H2 := Lib.hid (fun w1 (hw : Cur w1 B toks (fc first ++ shq x v1 v2 v3 v4 v5 v6) r1) => eb ▸ take_any hw he1 1)
  have hc0 := hc
  clear eb hs hc he e1 he1
  go_enter Tryz.func91, Tryz.ntmps91
  go_wp2_with (first
    | (go_at_call 112; (with_reducible refine (H1.out _ hc0).mono ?_); rintro e w1 ⟨rfl, hc1, hch1⟩; have HC1 := Lib.hid hc1; clear hc1)
    | (go_at_call 110; (with_reducible refine (H2.out _ (HC1.out.after (one_box _ _))).mono ?_); rintro e w2 ⟨rfl, hch2⟩))
  exact ⟨rfl, rfl, ch_up HBK.out ((hch1.alloc _).trans hch2)⟩
theorem route_any {w : World} {B : Nat} {toks ts : List Tok} {x : SheetM} {first : Tok} (h : SRdr w B toks x first ts) (he : EndL ts) :
    Calls Tryz.prog 91 #[.pointer (some ⟨B, 0, none⟩)] w (LPost w B toks first (routeL x first ts)) := by
  cases e1 : nameM ts with
  | bad er l0 c0 =>
    rw [show routeL x first ts = .bad er l0 c0 by simp only [routeL, routeT, e1, bind_bad]]
    exact route_f1 h he er l0 c0 e1
  | ok n r1 =>
    cases e2 : takeM 1 r1 with
    | bad er l0 c0 =>
      rw [show routeL x first ts = .bad er l0 c0 by simp only [routeL, routeT, e1, e2, bind_ok, bind_bad]]
      exact route_f2 h he n r1 e1 er l0 c0 e2
    | ok t r2 =>
      have e : routeL x first ts = finR x first n (legsM r2 ⟨[t], [], []⟩) := by
        simp only [routeL, routeT, e1, e2, bind_ok, finR]
        cases legsM r2 ⟨[t], [], []⟩ with
        | bad er l0 c0 => simp only [bind_bad]
        | ok g r => simp only [bind_ok]
      rw [e]
      exact route_loop h he n t r1 r2 e1 e2

set_option maxRecDepth 100000 in
set_option maxHeartbeats 2000000 in
theorem horizon_any {w : World} {B : Nat} {toks ts : List Tok} {x : SheetM} {first : Tok} (h : SRdr w B toks x first ts) (he : EndL ts) :
    Calls Tryz.prog 87 #[.pointer (some ⟨B, 0, none⟩)] w (LPost w B toks first (horizonL x ts)) := by
  obtain ⟨v1, v2, v3, v4, v5, v6, hc, hs⟩ := h
  have HBK := Lib.hid (Cur.blk hc)
  have H1 := Lib.hid (fun w1 (hw : Cur w1 B toks (fc first ++ shq x v1 v2 v3 v4 v5 v6) ts) => num_any hw he)
  unfold horizonL
  cases e1 : numM ts with
  | bad er l c =>
    rw [e1] at H1
    rw [bind_bad]
    have hc0 := hc
    clear hs hc he e1
    go_enter Tryz.func87, Tryz.ntmps87
    go_wp2_with (go_at_call 109; (with_reducible refine (H1.out _ hc0).mono ?_); rintro e w1 ⟨rfl, hch1⟩)
    exact ⟨rfl, rfl, ch_up HBK.out hch1⟩
  | ok n r1 =>
    rw [e1] at H1
    rw [bind_ok]
    have he1 := (keeps_num _ _ _ he e1).1
    have H2 := Lib.hid (fun w1 (hw : Cur w1 B toks (fc first ++ shq { x with horizon := n } v1 v2 v3 v4 v5 v6) r1) => take_any hw he1 4)
    have HS := Lib.hid (fun w1 (hw : Ch (· = B) w w1) => hs.ch hw (fun k hk e => by omega))
    cases e2 : takeM 4 r1 with
    | bad er l c =>
      rw [e2] at H2
      rw [bind_bad]
      have hc0 := hc
      clear hs hc he e1 he1 e2
      go_enter Tryz.func87, Tryz.ntmps87
      go_wp2_with (first
        | (go_at_call 109; (with_reducible refine (H1.out _ hc0).mono ?_); rintro e w1 ⟨rfl, hc1, hch1⟩; have b7 : w1.cell? ⟨B, 7, none⟩ = some (.int .i64 x.horizon) := hc1.cell 5; have f7 : w1.frozen? ⟨B, 7, none⟩ = false := hc1.frozen 7; have HC1 := Lib.hid (hc1.store 5 (.int .i64 n)); clear hc1)
        | (go_at_call 110; refine (H2.out _ HC1.out).mono ?_; rintro e w2 ⟨rfl, hch2⟩))
      exact ⟨rfl, rfl, ch_up HBK.out ((hch1.trans (ch_set _ _ _ _)).trans hch2)⟩
    | ok t r2 =>
      rw [e2] at H2
      rw [bind_ok]
      have hc0 := hc
      clear hs hc he e1 he1 e2
      go_enter Tryz.func87, Tryz.ntmps87
      go_wp2_with (first
        | (go_at_call 109; (with_reducible refine (H1.out _ hc0).mono ?_); rintro e w1 ⟨rfl, hc1, hch1⟩; have b7 : w1.cell? ⟨B, 7, none⟩ = some (.int .i64 x.horizon) := hc1.cell 5; have f7 : w1.frozen? ⟨B, 7, none⟩ = false := hc1.frozen 7; have HC1 := Lib.hid (hc1.store 5 (.int .i64 n)); clear hc1)
        | (go_at_call 110; refine (H2.out _ HC1.out).mono ?_; rintro e w2 ⟨rfl, hc2, hch2⟩))
      refine bodyPost_ret (results_none rfl _ _ _) rfl ?_
      have hs2 := HS.out _ ((hch1.trans (ch_set _ _ _ _)).trans hch2)
      exact ⟨rfl, ⟨v1, v2, v3, v4, v5, v6, hc2, ⟨hs2.r1, hs2.r2, hs2.r3, hs2.r4, hs2.r5, hs2.r6, hs2.n1, hs2.n2, hs2.n3, hs2.n4, hs2.n5, hs2.n6⟩⟩, ch_up HBK.out ((hch1.trans (ch_set _ _ _ _)).trans hch2)⟩
end Go.Proofs.YteonmabfhilcfaaGreatDoor.Sh
