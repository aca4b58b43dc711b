/- The kit's OwnNet: a net in memory of the call's own. Conditions: rows hold at most 10,000 things. -/
import Derived.Test.YtffddkbphdjehaaLkOwn
import Derived.Deep.RegionHeld3
import Derived.Deep.CutBlock
import Derived.Test.YtffddkbphdjehaaSq
import Derived.Test.YtffddkbphdjehaaLkT
namespace Go.Proofs.Ytffddkbphdjehaa.Lk
open Go.ChangeShapes Go.WideShapes Go.ChangeAt Go.RowKit
open Wn
set_option linter.unusedVariables false
set_option linter.unusedSimpArgs false
attribute [local go_sem] Oper.semAt_some
theorem own_low {W W' : World} {B g e s n : Nat} {v : Value} {xs : List Value} (h : W.ownsRow B e s v n xs) (hg : W.grownBy W' (some g)) (hB : g < B) : W'.ownsRow B e s v n xs := by
  refine World.ownsRow.kept h hg ?_
  cases hq : v.ownBlock with
  | none => exact .inl rfl
  | some k => right; intro e; injection e with e; have := (h.lt k hq).1; omega
theorem grown3 (W : World) (g : Nat) (a b c : Value) : W.grownBy (((W.setCell ⟨g, 0, none⟩ a).setCell ⟨g, 1, none⟩ b).setCell ⟨g, 2, none⟩ c) (some g) :=
  only_setCell (only_setCell (only_setCell (only_refl W (some g)) (p := ⟨g, 0, none⟩) (.inl rfl) a) (p := ⟨g, 1, none⟩) (.inl rfl) b) (p := ⟨g, 2, none⟩) (.inl rfl) c
theorem own_step {W V F : World} {B e s n : Nat} {v : Value} {xs : List Value} (h : W.ownsRow B e s v n xs) (h1 : Below W.heap.size W V) (h2 : V.grownBy F (some W.heap.size)) : F.ownsRow B e s v n xs := by
  have hk : v.ownBlock = none ∨ v.ownBlock ≠ some W.heap.size := by
    cases hq : v.ownBlock with
    | none => exact .inl rfl
    | some k => right; intro e; injection e with e; have := (h.lt k hq).2; omega
  refine World.ownsRow.kept (World.ownsRow.kept h (row := none) ⟨h1.os, h1.tape, h1.output, h1.size, fun k hk _ => h1.block k hk⟩ ?_) h2 hk
  cases hq : v.ownBlock with
  | none => exact .inl rfl
  | some k => exact .inr (by simp)
theorem own_blk_ne {W : World} {B e s n g : Nat} {v : Value} {xs l : List Value} {t : TypeId} (h : W.ownsRow B e s v n xs) (hb : Blk W g t l) (he : e ≠ t) : v.ownBlock = none ∨ v.ownBlock ≠ some g := by
  rcases h.2 with ⟨rfl, -⟩ | ⟨k, cap, cur, rfl, -, hg, -⟩
  · left; rfl
  · right
    intro h'
    have e1 : k = g := by injection h'
    subst e1
    have hb' : W.heap[k]? = some (.cells l.toArray t (0, 0)) := hb
    rw [hg] at hb'
    injection hb' with hb'
    injection hb' with _ h2 _
    exact he h2
theorem own_store {W : World} {B e s n g : Nat} {v u : Value} {xs l : List Value} {t : TypeId} {j : Nat} (h : W.ownsRow B e s v n xs) (hb : Blk W g t l) (he : e ≠ t) : (W.setCell ⟨g, j, none⟩ u).ownsRow B e s v n xs :=
  World.ownsRow.kept h (only_setCell (only_refl W (some g)) (p := ⟨g, j, none⟩) (.inl rfl) u) (own_blk_ne h hb he)
theorem blk_grown {W W' : World} {B e s n g : Nat} {v : Value} {xs l : List Value} {t : TypeId} (hb : Blk W g t l) (h : W.ownsRow B e s v n xs) (he : e ≠ t) (hg : W.grownBy W' v.ownBlock) : Blk W' g t l := by
  refine hb.grown hg ?_
  intro h'
  rcases own_blk_ne h hb he with e1 | e1
  · rw [e1] at h'; cases h'
  · exact e1 h'.symm
theorem grown2 (W : World) (g : Nat) (a b : Value) : W.grownBy ((W.setCell ⟨g, 5, none⟩ a).setCell ⟨g, 6, none⟩ b) (some g) :=
  only_setCell (only_setCell (only_refl W (some g)) (p := ⟨g, 5, none⟩) (.inl rfl) a) (p := ⟨g, 6, none⟩) (.inl rfl) b
theorem ln_one (qs : List LnA) : ∀ u ∈ cs lnC qs, u.oneCell' = true := by
  intro u hu
  obtain ⟨q, -, hq⟩ := List.mem_flatMap.1 hu
  simp [lnC] at hq
  rcases hq with rfl | rfl | rfl | rfl | rfl | rfl | rfl <;> rfl
theorem info_link : (Try.prog.info? 35).map (fun i => (i.zero, i.size, i.bytes)) = some (some (.agg #[.int .i64 0, .int .i64 0, .int .i64 0, .bool false, .int .i64 0, .slice none 0 0, .slice none 0 0]), 7, 88) := by kernel_rfl
/-- a link whose rows are one's own -/
structure OwnK (W : World) (B : Nat) (y : LnA) : Prop where
  o : OwnR W B ⟨y.l.op, y.p, y.c⟩
  c : OwnR W B ⟨y.l.cl, y.q, y.d⟩
theorem OwnK.after {W W' : World} {B : Nat} {y : LnA} (h : OwnK W B y) (hb : Below W.heap.size W W') : OwnK W' B y := ⟨h.o.after hb, h.c.after hb⟩
theorem OwnK.grown {W W' : World} {B B' n : Nat} {y : LnA} {e : TypeId} {s : Nat} {v : Value} {xs : List Value} (h : OwnK W B y) (k : W.ownsRow B' e s v n xs) (he : 41 ≠ e) (hg : W.grownBy W' v.ownBlock) : OwnK W' B y := ⟨h.o.grown k he hg, h.c.grown k he hg⟩
/-- a net of one's own -/
structure OwnN (W : World) (B : Nat) (y : NtA) : Prop where
  c : W.ownsRow B 33 1 (.slice y.p y.rs.length y.c) y.rs.length (cs rwC y.rs)
  l : W.ownsRow B 35 7 (.slice y.q y.ls.length y.d) y.ls.length (cs lnC y.ls)
  r : ∀ q ∈ y.rs, OwnR W B q
  k : ∀ q ∈ y.ls, OwnK W B q
/-- a net in memory of the call's own -/
def OwnNP (x : NtA) (w : World) (e : Ending) (w' : World) : Prop := ∃ y : NtA, e = .returned (.agg #[.int .i64 y.hz, .slice y.p y.rs.length y.c, .slice y.q y.ls.length y.d]) ∧ Hid (y.net = x.net) ∧ Hid (OwnN w' w.heap.size y) ∧ Below w.heap.size w w'
theorem ownNP_mk {x : NtA} {w w' : World} {A G : Option Addr} {c gd n : Nat} {qs : List RwA} {ks : List LnA} (h1 : Hid (qs.map (·.z) = x.rs.map (·.z))) (h2 : Hid (ks.map (·.l) = x.ls.map (·.l))) (hn : n = x.ls.length)
    (h3 : w'.ownsRow w.heap.size 33 1 (.slice A x.rs.length c) x.rs.length (cs rwC qs)) (h4 : w'.ownsRow w.heap.size 35 7 (.slice G n gd) n (cs lnC ks)) (h5 : ∀ q ∈ qs, OwnR w' w.heap.size q) (h6 : ∀ k ∈ ks, OwnK w' w.heap.size k) (h7 : Below w.heap.size w w') :
    OwnNP x w (.returned (.agg #[.int .i64 x.hz, .slice A x.rs.length c, .slice G n gd])) w' := by
  have e1 : qs.length = x.rs.length := by have := congrArg List.length h1.out; simpa using this
  have e2 : ks.length = n := by have := congrArg List.length h2.out; rw [hn]; simpa using this
  refine ⟨⟨x.hz, qs, ks, A, c, G, gd⟩, by rw [← e1, ← e2], Lib.hid ?_, Lib.hid ⟨?_, ?_, h5, h6⟩, h7⟩
  · unfold NtA.net; rw [h1.out, h2.out]
  · rw [← e1] at h3; exact h3
  · rw [← e2] at h4; exact h4
set_option maxHeartbeats 4000000 in
theorem ownNet_any (x : NtA) (w : World) (h : NtOk w (· < w.heap.size) x) (hl : Lt x) : Calls Try.prog 8 #[ntV x] w (OwnNP x w) := by
  obtain ⟨n, hn⟩ : ∃ n, n = x.ls.length := ⟨_, rfl⟩
  obtain ⟨m, hm⟩ : ∃ m, m = x.rs.length := ⟨_, rfl⟩
  obtain ⟨C, hC⟩ : ∃ C, C = x.q := ⟨_, rfl⟩
  have hnb : n ≤ 10000 := by rw [hn]; exact hl.l
  have HXO : Hid (∀ W, Below w.heap.size w W → NtOk W (· < W.heap.size) x) := HH fun W hW => h.later hW
  have HLT := HH hl
  have CO : Hid (∀ W, Below w.heap.size w W → Calls Try.prog 18 #[.slice x.p m x.c] W (OwnLP x W)) := HH fun W hW => by rw [hm]; exact ownLists_any x W (h.later hW) hl
  have b0 := Blk.new w 25 [.int .i64 x.hz, .slice x.p m x.c, .slice C n x.d]
  show Calls _ _ #[.agg #[.int .i64 x.hz, .slice x.p x.rs.length x.c, .slice x.q x.ls.length x.d]] _ _
  rw [← hn, ← hm, ← hC]
  have HC := HH hC
  clear hC
  have HN := HH hn
  have HM := HH hm
  have B0 := HH ((Below.refl w.heap.size w).alloc (Nat.le_refl _) (.cells #[.int .i64 x.hz, .slice x.p m x.c, .slice C n x.d] 25) |>.alloc (by simp) (.cells #[.int .i64 0, .slice none 0 0, .slice none 0 0] 25))
  have BN := HH (b0.alloc (.cells #[.int .i64 0, .slice none 0 0, .slice none 0 0] 25))
  have ez := Blk.new (w.alloc (.cells #[.int .i64 x.hz, .slice x.p m x.c, .slice C n x.d] 25)) 25 [.int .i64 0, .slice none 0 0, .slice none 0 0]
  rw [World.size_alloc] at ez
  have E0 := HH ez
  clear ez
  have CB : Hid (∀ wr, Below ((w.alloc (.cells #[.int .i64 x.hz, .slice x.p m x.c, .slice C n x.d] 25)).alloc (.cells #[.int .i64 0, .slice none 0 0, .slice none 0 0] 25)).heap.size ((w.alloc (.cells #[.int .i64 x.hz, .slice x.p m x.c, .slice C n x.d] 25)).alloc (.cells #[.int .i64 0, .slice none 0 0, .slice none 0 0] 25)) wr → wr.cell? ⟨w.heap.size, 0, none⟩ = some (.int .i64 x.hz) ∧ wr.cell? ⟨w.heap.size, 1, none⟩ = some (.slice x.p m x.c)) := HH fun wr hb => ⟨bc0 (BN.out.after hb), bc1 (BN.out.after hb)⟩
  have hs0 : ((w.alloc (.cells #[.int .i64 x.hz, .slice x.p m x.c, .slice C n x.d] 25)).alloc (.cells #[.int .i64 0, .slice none 0 0, .slice none 0 0] 25)).heap.size = w.heap.size + 2 := by simp
  clear b0 h hl hn hm
  go_enter Try.func8, Try.ntmps8
  go_upto_region 1 with fail
  go_cut [3] from 6 to 11 (fun v3 wx => ∃ (s : Nat) (A : Option Addr) (c : Nat) (qs : List RwA), v3 = .pointer (some ⟨s, 0, none⟩) ∧ Hid (w.heap.size + 2 ≤ s) ∧ Hid (Blk wx s 25 [.int .i64 x.hz, .slice A x.rs.length c, .slice none 0 0]) ∧ Hid (qs.map (·.z) = x.rs.map (·.z)) ∧ Hid (wx.ownsRow w.heap.size 33 1 (.slice A x.rs.length c) x.rs.length (cs rwC qs)) ∧ Hid (∀ q ∈ qs, OwnR wx w.heap.size q) ∧ Hid (Below ((w.alloc (.cells #[.int .i64 x.hz, .slice x.p m x.c, .slice C n x.d] 25)).alloc (.cells #[.int .i64 0, .slice none 0 0, .slice none 0 0] 25)).heap.size ((w.alloc (.cells #[.int .i64 x.hz, .slice x.p m x.c, .slice C n x.d] 25)).alloc (.cells #[.int .i64 0, .slice none 0 0, .slice none 0 0] 25)) wx))
  case first =>
    refine wp_region_held_drew (S := fun w' => Hid (Below ((w.alloc (.cells #[.int .i64 x.hz, .slice x.p m x.c, .slice C n x.d] 25)).alloc (.cells #[.int .i64 0, .slice none 0 0, .slice none 0 0] 25)).heap.size ((w.alloc (.cells #[.int .i64 x.hz, .slice x.p m x.c, .slice C n x.d] 25)).alloc (.cells #[.int .i64 0, .slice none 0 0, .slice none 0 0] 25)) w')) (by kernel_rfl) ?_ (fun hHeld => ?_)
    · exact HH (below_drewN (Below.refl _ _) 1)
    have V0 := hHeld
    clear hHeld
    generalize World.drew ((w.alloc (.cells #[.int .i64 x.hz, .slice x.p m x.c, .slice C n x.d] 25)).alloc (.cells #[.int .i64 0, .slice none 0 0, .slice none 0 0] 25)) = v0 at *
    refine tak 0 ?vbk1 rfl ?hybk1 ?restbk1
    case hybk1 => (intro w' hSw; clear hSw; go_simp; try with_reducible rfl)
    simp only [ptk]
    refine tak 1 ?vbk2 rfl ?hybk2 ?restbk2
    case hybk2 => (intro w' hSw; obtain ⟨y0, y1⟩ := CB.out _ hSw.out; clear hSw; go_simp; try with_reducible rfl)
    simp only [ptk]
    refine tak 2 ?vbk3 rfl ?hybk3 ?restbk3
    case hybk3 => (intro w' hSw; clear hSw; go_simp; try with_reducible rfl)
    simp only [ptk]
    refine tak 3 ?vbk4 rfl ?hybk4 ?restbk4
    case hybk4 => (intro w' hSw; obtain ⟨y0, y1⟩ := CB.out _ hSw.out; clear hSw; go_simp; try with_reducible rfl)
    simp only [ptk]
    refine rdy [4, 6] ?_
    refine AllReadyH.cons rfl (fun K hK => ?_) (AllReadyH.cons rfl (fun K hK => ?_) AllReadyH.nil)
    · go_simp
      go_at_call 18
      refine (CO.out _ (B0.out.trans (V0.out.mono B0.out.size))).mono ?_
      rintro e v1 ⟨A, c, qs, rfl, HZ, HO, HQ, hb⟩
      have V1 := HH (keep_trans V0.out hb)
      dsimp only
      refine hK.out _ _ V1 (fun hHeld => ?_)
      clear hK K hHeld
      refine tak 5 ?vbk5 rfl ?hybk5 ?restbk5
      case hybk5 => (intro w' hSw; clear hSw; go_simp; try with_reducible rfl)
      simp only [ptk]
      refine rdy [6] ?_
      refine AllReadyH.cons rfl (fun K hK => ?_) AllReadyH.nil
      go_simp
      refine hK.out _ _ (HH (V1.out.alloc V1.out.size _)) (fun hHeld => ?_)
      clear hK K hHeld
      have bz := Blk.new v1 25 [.int .i64 0, .slice none 0 0, .slice none 0 0]
      have z0 := bc0 bz
      have z1 := bc1 bz
      have z2 := bc2 bz
      have fz := fun j => bz.frozen j
      have BZ := HH bz
      clear bz
      refine rdy [7] ?_
      refine AllReadyH.cons rfl (fun K hK => ?_) AllReadyH.nil
      go_simp
      refine hK.out _ _ (HH (V1.out.alloc V1.out.size _)) (fun hHeld => ?_)
      clear hK K hHeld
      refine wpAnyH_done (by kernel_rfl) ?_ _
      have hsv : w.heap.size + 2 ≤ v0.heap.size := by have := V0.out.size; omega
      have hle : w.heap.size ≤ v0.heap.size := by omega
      go_wp2_with fail
      go_meet
      exact ⟨v1.heap.size, A, c, qs, rfl, HH (by have := hb.size; omega), HH (Blk.new v1 _ _), HZ, HH (World.ownsRow.alloc (own_mono HO.out hle) _), HH (fun q hq => World.ownsRow.alloc (OwnR.mono (HQ.out q hq) hle) _), HH (V1.out.alloc V1.out.size _)⟩
    · go_simp
      refine hK.out _ _ (HH (V0.out.alloc V0.out.size _)) (fun hHeld => ?_)
      clear hK K hHeld
      refine rdy [4] ?_
      refine AllReadyH.cons rfl (fun K hK => ?_) AllReadyH.nil
      go_simp
      go_at_call 18
      refine (CO.out _ (B0.out.trans ((V0.out.alloc V0.out.size _).mono B0.out.size))).mono ?_
      rintro e v1 ⟨A, c, qs, rfl, HZ, HO, HQ, hb⟩
      have V1 := HH ((V0.out.alloc V0.out.size (.cells #[.int .i64 0, .slice none 0 0, .slice none 0 0] 25)).trans (hb.mono (V0.out.alloc V0.out.size _).size))
      dsimp only
      refine hK.out _ _ V1 (fun hHeld => ?_)
      clear hK K hHeld
      refine tak 5 ?vbk6 rfl ?hybk6 ?restbk6
      case hybk6 => (intro w' hSw; clear hSw; go_simp; try with_reducible rfl)
      simp only [ptk]
      have bz := (Blk.new v0 25 [.int .i64 0, .slice none 0 0, .slice none 0 0]).after hb
      have z0 := bc0 bz
      have z1 := bc1 bz
      have z2 := bc2 bz
      have fz := fun j => bz.frozen j
      have BZ := HH bz
      clear bz
      refine rdy [7] ?_
      refine AllReadyH.cons rfl (fun K hK => ?_) AllReadyH.nil
      go_simp
      have hsv : w.heap.size + 2 ≤ v0.heap.size := by have := V0.out.size; omega
      have hle : w.heap.size ≤ (v0.alloc (.cells #[.int .i64 0, .slice none 0 0, .slice none 0 0] 25)).heap.size := by simp; omega
      have hm1 := (V0.out.alloc V0.out.size (.cells #[.int .i64 0, .slice none 0 0, .slice none 0 0] 25)).trans (hb.mono (V0.out.alloc V0.out.size _).size)
      have HS3 := HH (((hm1.setCell (p := ⟨v0.heap.size, 0, none⟩) V0.out.size (.int .i64 x.hz)).setCell (p := ⟨v0.heap.size, 1, none⟩) V0.out.size (.slice A x.rs.length c)).setCell (p := ⟨v0.heap.size, 2, none⟩) V0.out.size (.slice none 0 0))
      have HB3 := HH (((BZ.out.set_ 0 (.int .i64 x.hz)).set_ 1 (.slice A x.rs.length c)).set_ 2 (.slice none 0 0))
      have g3 := grown3 v1 v0.heap.size (.int .i64 x.hz) (.slice A x.rs.length c) (.slice none 0 0)
      have hlz := BZ.out.lt
      have HO3 := HH (own_low HO.out g3 (by simp))
      have HQ3 : Hid (∀ q ∈ qs, OwnR (((v1.setCell ⟨v0.heap.size, 0, none⟩ (.int .i64 x.hz)).setCell ⟨v0.heap.size, 1, none⟩ (.slice A x.rs.length c)).setCell ⟨v0.heap.size, 2, none⟩ (.slice none 0 0)) (v0.heap.size + 1) q) := HH fun q hq => own_low (by have h := HQ.out q hq; simp at h; exact h) g3 (by omega)
      clear z0 z1 z2 fz g3 HO HQ hb hm1
      refine hK.out _ _ HS3 (fun hHeld => ?_)
      clear hK K hHeld
      refine wpAnyH_done (by kernel_rfl) ?_ _
      go_wp2_with fail
      go_meet
      exact ⟨v0.heap.size, A, c, qs, rfl, HH hsv, HH (by simpa using HB3.out), HZ, HH (own_mono HO3.out hle), HH (fun q hq => OwnR.mono (HQ3.out q hq) (by omega)), HS3⟩
  case rest =>
    obtain ⟨s, A, c, qs, rfl, HS, BS, HZ, HO, HQ, HW⟩ := hcut
    have NP := BN.out.after HW.out
    have n2 := bc2 NP
    clear NP CO
    go_wp2
    go_loopw [4] (fun v4 wr => ∃ (i : Nat) (G : Option Addr) (gd : Nat) (ks : List LnA), v4 = .int .i64 i ∧ i ≤ n ∧ Hid (Blk wr s 25 [.int .i64 x.hz, .slice A x.rs.length c, .slice G i gd]) ∧ Hid (ks.map (·.l) = (x.ls.take i).map (·.l)) ∧ Hid (wr.ownsRow (w.heap.size + 2) 35 7 (.slice G i gd) i (cs lnC ks)) ∧ Hid (wr.ownsRow w.heap.size 33 1 (.slice A x.rs.length c) x.rs.length (cs rwC qs)) ∧ Hid (∀ q ∈ qs, OwnR wr w.heap.size q) ∧ Hid (∀ k ∈ ks, OwnK wr w.heap.size k) ∧ Hid (Below ((w.alloc (.cells #[.int .i64 x.hz, .slice x.p m x.c, .slice C n x.d] 25)).alloc (.cells #[.int .i64 0, .slice none 0 0, .slice none 0 0] 25)).heap.size ((w.alloc (.cells #[.int .i64 x.hz, .slice x.p m x.c, .slice C n x.d] 25)).alloc (.cells #[.int .i64 0, .slice none 0 0, .slice none 0 0] 25)) wr)) (fun v4 _ => n - (intOf v4).toNat)
    case atStart => exact ⟨0, none, 0, [], rfl, by omega, BS, HH rfl, HH (World.ownsRow_nil _ _ _ _), HO, HQ, HH (fun k hk => by cases hk), HW⟩
    case round =>
      clear HO HQ HW n2 BS
      obtain ⟨i, G, gd, ks, rfl, hi, BS, HK, HOK, HO, HQ, HKK, HW⟩ := hrel
      have NP := HH (BN.out.after HW.out)
      have n2 := bc2 NP.out
      by_cases hlt : i < n
      · have hiz : (i : Int) < (n : Int) := by omega
        obtain ⟨y, hy⟩ : ∃ y, x.ls[i]? = some y := ⟨_, List.getElem?_eq_getElem (by rw [← HN.out]; exact hlt)⟩
        have hBw := B0.out.trans (HW.out.mono B0.out.size)
        obtain ⟨ad, had, hS, ⟨h0, h1, h2, h3, h4, h5, h6⟩, hok⟩ := (HXO.out _ hBw).link hy
        obtain rfl : C = some ad := HC.out.trans had
        have hyo : y.l.op.length ≤ 10000 ∧ y.l.cl.length ≤ 10000 := ⟨HLT.out.lo y (List.mem_of_getElem? hy), HLT.out.lc y (List.mem_of_getElem? hy)⟩
        have HYK := HH hok
        have HY := HH hy
        have CW : Hid (∀ v, Below wr.heap.size wr v → Calls Try.prog 19 #[.slice y.p y.l.op.length y.c] v fun e w' => ∃ q : RwA, e = .returned (.slice q.p y.l.op.length q.c) ∧ Hid (q.z = y.l.op) ∧ Hid (OwnR w' v.heap.size q) ∧ Below v.heap.size v w') := HH fun v hv => ownR_any v _ _ _ _ (HH rfl) hyo.1 (HYK.out.later hv).ro
        have CX : Hid (∀ v, Below wr.heap.size wr v → Calls Try.prog 19 #[.slice y.q y.l.cl.length y.d] v fun e w' => ∃ q : RwA, e = .returned (.slice q.p y.l.cl.length q.c) ∧ Hid (q.z = y.l.cl) ∧ Hid (OwnR w' v.heap.size q) ∧ Below v.heap.size v w') := HH fun v hv => ownR_any v _ _ _ _ (HH rfl) hyo.2 (HYK.out.later hv).rc
        clear hy had hok hyo
        go_upto_region 6 with fail
        have b1 := Blk.new wr 35 [.int .i64 y.l.a, .int .i64 y.l.b, .int .i64 y.l.len, .bool y.l.door, .int .i64 y.l.of, .slice y.p y.l.op.length y.c, .slice y.q y.l.cl.length y.d]
        have HBL := HH b1
        have hW1 : Below wr.heap.size wr (wr.alloc (.cells #[.int .i64 y.l.a, .int .i64 y.l.b, .int .i64 y.l.len, .bool y.l.door, .int .i64 y.l.of, .slice y.p y.l.op.length y.c, .slice y.q y.l.cl.length y.d] 35)) := (Below.refl _ _).alloc (Nat.le_refl _) _
        have H1 := HH hW1
        have hbl : wr.heap.size < (wr.alloc (.cells #[.int .i64 y.l.a, .int .i64 y.l.b, .int .i64 y.l.len, .bool y.l.door, .int .i64 y.l.of, .slice y.p y.l.op.length y.c, .slice y.q y.l.cl.length y.d] 35)).heap.size := by simp
        clear b1 hW1 h0 h1 h2 h3 h4 h5 h6 n2
        generalize hgw : wr.alloc (.cells #[.int .i64 y.l.a, .int .i64 y.l.b, .int .i64 y.l.len, .bool y.l.door, .int .i64 y.l.of, .slice y.p y.l.op.length y.c, .slice y.q y.l.cl.length y.d] 35) = u0 at *
        have HGW := HH hgw
        clear hgw
        have CB2 : Hid (∀ v, Below u0.heap.size u0 v → v.cell? ⟨wr.heap.size, 5, none⟩ = some (.slice y.p y.l.op.length y.c) ∧ v.cell? ⟨wr.heap.size, 6, none⟩ = some (.slice y.q y.l.cl.length y.d)) := HH fun v hb => ⟨bc5 (HBL.out.after hb), bc6 (HBL.out.after hb)⟩
        have hS0 : ∀ l, Pend [(7, ⟨wr.heap.size, 5, none⟩, .slice y.p y.l.op.length y.c), (9, ⟨wr.heap.size, 6, none⟩, .slice y.q y.l.cl.length y.d)] l u0.drew := fun l q hq hl => by
          simp only [List.mem_cons, List.not_mem_nil, or_false] at hq
          rcases hq with rfl | rfl
          · exact bc5 (w := u0.drew) HBL.out
          · exact bc6 (w := u0.drew) HBL.out
        have HBD : Hid (Blk u0.drew wr.heap.size 35 [.int .i64 y.l.a, .int .i64 y.l.b, .int .i64 y.l.len, .bool y.l.door, .int .i64 y.l.of, .slice y.p y.l.op.length y.c, .slice y.q y.l.cl.length y.d]) := HBL
        have HWD : Hid (Below wr.heap.size wr u0.drew) := HH (below_drewN H1.out 1)
        refine wp_region_T [(7, ⟨wr.heap.size, 5, none⟩, .slice y.p y.l.op.length y.c), (9, ⟨wr.heap.size, 6, none⟩, .slice y.q y.l.cl.length y.d)] (by kernel_rfl) ?_
        generalize World.drew u0 = v0 at *
        refine tap 0 ?v0 rfl (hS0 _) ?h0 ?r0
        case h0 => (intro w' hSw; clear hSw; go_simp; try with_reducible rfl)
        simp only [ptk]
        refine tal 1 7 ⟨wr.heap.size, 5, none⟩ (.slice y.p y.l.op.length y.c) ?v1 rfl rfl (hS0 _) ?h1 ?r1
        case h1 => (intro w' hSw; go_simp; try with_reducible rfl)
        simp only [ptk]
        refine tap 3 ?v3 rfl (hS0 _) ?h3 ?r3
        case h3 => (intro w' hSw; clear hSw; go_simp; try with_reducible rfl)
        simp only [ptk]
        refine tal 4 9 ⟨wr.heap.size, 6, none⟩ (.slice y.q y.l.cl.length y.d) ?v4 rfl rfl (hS0 _) ?h4 ?r4
        case h4 => (intro w' hSw; go_simp; try with_reducible rfl)
        simp only [ptk]
        refine tan 2 rfl fun K hK => ?_
        go_simp
        go_at_call 19
        refine (CW.out _ HWD.out).mono ?_
        rintro e' v1 ⟨qa, rfl, QAZ, QAO, hb1⟩
        have HB1 := HH (HBD.out.after hb1)
        have HW1 := HH (HWD.out.trans (hb1.mono HWD.out.size))
        have hS1 : ∀ l, Pend [(7, ⟨wr.heap.size, 5, none⟩, .slice y.p y.l.op.length y.c), (9, ⟨wr.heap.size, 6, none⟩, .slice y.q y.l.cl.length y.d)] l v1 := fun l q hq hl => by
          simp only [List.mem_cons, List.not_mem_nil, or_false] at hq
          rcases hq with rfl | rfl
          · exact bc5 HB1.out
          · exact bc6 HB1.out
        dsimp only
        refine hK.out _ _ (hS1 _) ?_
        clear hK K hS0
        refine tap 6 ?v6 rfl (hS1 _) ?h6 ?r6
        case h6 => (intro w' hSw; clear hSw; go_simp; try with_reducible rfl)
        simp only [ptk]
        refine tan 5 rfl fun K hK => ?_
        go_simp
        go_at_call 19
        refine (CX.out _ HW1.out).mono ?_
        rintro e' v2 ⟨qb, rfl, QBZ, QBO, hb2⟩
        have HB2 := HH (HB1.out.after hb2)
        have HW2 := HH (HW1.out.trans (hb2.mono HW1.out.size))
        have hS2 : ∀ l, Pend [(7, ⟨wr.heap.size, 5, none⟩, .slice y.p y.l.op.length y.c), (9, ⟨wr.heap.size, 6, none⟩, .slice y.q y.l.cl.length y.d)] l v2 := fun l q hq hl => by
          simp only [List.mem_cons, List.not_mem_nil, or_false] at hq
          rcases hq with rfl | rfl
          · exact bc5 HB2.out
          · exact bc6 HB2.out
        dsimp only
        refine hK.out _ _ (hS2 _) ?_
        clear hK K hS1
        refine tan 7 rfl fun K hK => ?_
        have f2 : v2.frozen? ⟨wr.heap.size, 5, none⟩ = false := HB2.out.frozen 5
        have q2 : v2.cell? ⟨wr.heap.size, 5, none⟩ = some (.slice y.p y.l.op.length y.c) := bc5 HB2.out
        go_simp
        have HB3 := HH (HB2.out.set_ 5 (.slice qa.p y.l.op.length qa.c))
        have hS3 : ∀ l : Array Bool, l.getD 7 true = true → Pend [(7, ⟨wr.heap.size, 5, none⟩, .slice y.p y.l.op.length y.c), (9, ⟨wr.heap.size, 6, none⟩, .slice y.q y.l.cl.length y.d)] l (v2.setCell ⟨wr.heap.size, 5, none⟩ (.slice qa.p y.l.op.length qa.c)) := fun l h7 q hq hl => by
          simp only [List.mem_cons, List.not_mem_nil, or_false] at hq
          rcases hq with rfl | rfl
          · rw [h7] at hl; cases hl
          · exact HB3.out.cell 6
        refine hK.out _ _ (hS3 _ (by kernel_rfl)) ?_
        clear hK K hS2 f2 q2
        refine tap 8 ?v8 rfl (hS3 _ (by kernel_rfl)) ?h8 ?r8
        case h8 => (intro w' hSw; clear hSw; go_simp; try with_reducible rfl)
        simp only [ptk]
        refine tan 9 rfl fun K hK => ?_
        have f3 : (v2.setCell ⟨wr.heap.size, 5, none⟩ (.slice qa.p y.l.op.length qa.c)).frozen? ⟨wr.heap.size, 6, none⟩ = false := HB3.out.frozen 6
        have q3 : (v2.setCell ⟨wr.heap.size, 5, none⟩ (.slice qa.p y.l.op.length qa.c)).cell? ⟨wr.heap.size, 6, none⟩ = some (.slice y.q y.l.cl.length y.d) := HB3.out.cell 6
        go_simp
        have HB4 := HH (HB3.out.set_ 6 (.slice qb.p y.l.cl.length qb.c))
        have hS4 : ∀ l : Array Bool, l.getD 7 true = true → l.getD 9 true = true → Pend [(7, ⟨wr.heap.size, 5, none⟩, .slice y.p y.l.op.length y.c), (9, ⟨wr.heap.size, 6, none⟩, .slice y.q y.l.cl.length y.d)] l ((v2.setCell ⟨wr.heap.size, 5, none⟩ (.slice qa.p y.l.op.length qa.c)).setCell ⟨wr.heap.size, 6, none⟩ (.slice qb.p y.l.cl.length qb.c)) := fun l h7 h9 q hq hl => by
          simp only [List.mem_cons, List.not_mem_nil, or_false] at hq
          rcases hq with rfl | rfl
          · rw [h7] at hl; cases hl
          · rw [h9] at hl; cases hl
        refine hK.out _ _ (hS4 _ (by kernel_rfl) (by kernel_rfl)) ?_
        clear hK K hS3 hS4 f3 q3
        refine wpAnyT_done (by kernel_rfl) ?_ _
        have g2 := grown2 v2 wr.heap.size (.slice qa.p y.l.op.length qa.c) (.slice qb.p y.l.cl.length qb.c)
        have hsl : s < wr.heap.size := BS.out.lt
        have BS4 : Hid (Blk ((v2.setCell ⟨wr.heap.size, 5, none⟩ (.slice qa.p y.l.op.length qa.c)).setCell ⟨wr.heap.size, 6, none⟩ (.slice qb.p y.l.cl.length qb.c)) s 25 [.int .i64 x.hz, .slice A x.rs.length c, .slice G i gd]) := HH ((BS.out.after HW2.out).grown g2 (by intro e; injection e with e; omega))
        have HOK4 : Hid (((v2.setCell ⟨wr.heap.size, 5, none⟩ (.slice qa.p y.l.op.length qa.c)).setCell ⟨wr.heap.size, 6, none⟩ (.slice qb.p y.l.cl.length qb.c)).ownsRow (w.heap.size + 2) 35 7 (.slice G i gd) i (cs lnC ks)) := HH (own_step HOK.out HW2.out g2)
        have HO4 : Hid (((v2.setCell ⟨wr.heap.size, 5, none⟩ (.slice qa.p y.l.op.length qa.c)).setCell ⟨wr.heap.size, 6, none⟩ (.slice qb.p y.l.cl.length qb.c)).ownsRow w.heap.size 33 1 (.slice A x.rs.length c) x.rs.length (cs rwC qs)) := HH (own_step HO.out HW2.out g2)
        have HQ4 : Hid (∀ q ∈ qs, OwnR ((v2.setCell ⟨wr.heap.size, 5, none⟩ (.slice qa.p y.l.op.length qa.c)).setCell ⟨wr.heap.size, 6, none⟩ (.slice qb.p y.l.cl.length qb.c)) w.heap.size q) := HH fun q hq => own_step (HQ.out q hq) HW2.out g2
        have HKK4 : Hid (∀ k ∈ ks, OwnK ((v2.setCell ⟨wr.heap.size, 5, none⟩ (.slice qa.p y.l.op.length qa.c)).setCell ⟨wr.heap.size, 6, none⟩ (.slice qb.p y.l.cl.length qb.c)) w.heap.size k) := HH fun k hk => ⟨own_step (HKK.out k hk).o HW2.out g2, own_step (HKK.out k hk).c HW2.out g2⟩
        have hwr : w.heap.size ≤ wr.heap.size := by have := HW.out.size; omega
        have hv0 : wr.heap.size < v0.heap.size := HBD.out.lt
        have hv1 : v0.heap.size ≤ v1.heap.size := hb1.size
        have QA4 : Hid (OwnR ((v2.setCell ⟨wr.heap.size, 5, none⟩ (.slice qa.p y.l.op.length qa.c)).setCell ⟨wr.heap.size, 6, none⟩ (.slice qb.p y.l.cl.length qb.c)) w.heap.size ⟨y.l.op, qa.p, qa.c⟩) := HH (by
          have h1 : OwnR v1 v0.heap.size ⟨y.l.op, qa.p, qa.c⟩ := by have h := QAO.out; rw [← QAZ.out]; exact h
          exact own_mono (own_low (OwnR.after h1 hb2) g2 hv0) (by omega))
        have QB4 : Hid (OwnR ((v2.setCell ⟨wr.heap.size, 5, none⟩ (.slice qa.p y.l.op.length qa.c)).setCell ⟨wr.heap.size, 6, none⟩ (.slice qb.p y.l.cl.length qb.c)) w.heap.size ⟨y.l.cl, qb.p, qb.c⟩) := HH (by
          have h1 : OwnR v2 v1.heap.size ⟨y.l.cl, qb.p, qb.c⟩ := by have h := QBO.out; rw [← QBZ.out]; exact h
          exact own_mono (own_low h1 g2 (by omega)) (by omega))
        have HB5 : Hid (Blk ((v2.setCell ⟨wr.heap.size, 5, none⟩ (.slice qa.p y.l.op.length qa.c)).setCell ⟨wr.heap.size, 6, none⟩ (.slice qb.p y.l.cl.length qb.c)) wr.heap.size 35 [.int .i64 y.l.a, .int .i64 y.l.b, .int .i64 y.l.len, .bool y.l.door, .int .i64 y.l.of, .slice qa.p y.l.op.length qa.c, .slice qb.p y.l.cl.length qb.c]) := HH (by simpa using HB4.out)
        have HWF : Hid (Below ((w.alloc (.cells #[.int .i64 x.hz, .slice x.p m x.c, .slice (some ad) n x.d] 25)).alloc (.cells #[.int .i64 0, .slice none 0 0, .slice none 0 0] 25)).heap.size ((w.alloc (.cells #[.int .i64 x.hz, .slice x.p m x.c, .slice (some ad) n x.d] 25)).alloc (.cells #[.int .i64 0, .slice none 0 0, .slice none 0 0] 25)) ((v2.setCell ⟨wr.heap.size, 5, none⟩ (.slice qa.p y.l.op.length qa.c)).setCell ⟨wr.heap.size, 6, none⟩ (.slice qb.p y.l.cl.length qb.c))) := HH (((HW.out.trans (HW2.out.mono HW.out.size)).setCell (p := ⟨wr.heap.size, 5, none⟩) HW.out.size _).setCell (p := ⟨wr.heap.size, 6, none⟩) HW.out.size _)
        clear g2 HB4 HB3 HB2 HB1 HW2 HW1 hb1 hb2 HOK HO HQ HKK BS HBD HWD QAZ QAO QBZ QBO HBL H1 HGW
        generalize ((v2.setCell ⟨wr.heap.size, 5, none⟩ (.slice qa.p y.l.op.length qa.c)).setCell ⟨wr.heap.size, 6, none⟩ (.slice qb.p y.l.cl.length qb.c)) = F at *
        have z2 := bc2 BS4.out
        have l0 := bc0 HB5.out
        have l1 := bc1 HB5.out
        have l2 := bc2 HB5.out
        have l3 := bc3 HB5.out
        have l4 := bc4 HB5.out
        have l5 := bc5 HB5.out
        have l6 := bc6 HB5.out
        have hFs : w.heap.size + 2 ≤ F.heap.size := by have := HWF.out.size; omega
        go_wp2_with (first | (at_builtin; refine wpList_append_w rfl (.tmp 33) (.tmp 35) 23 rfl (w.heap.size + 2) 35 _ 7 88 Try.underlying23 info_link rfl (by omega) (by omega) (.slice G i gd) i (cs lnC ks) rfl (World.ownsRow.alloc HOK4.out _) (fun _ => True) (some ⟨F.heap.size, 0, none⟩) 1 1 [.int .i64 y.l.a, .int .i64 y.l.b, .int .i64 y.l.len, .bool y.l.door, .int .i64 y.l.of, .slice qa.p y.l.op.length qa.c, .slice qb.p y.l.cl.length qb.c] rfl rfl (by simpa using (Blk.new F 35 [.int .i64 y.l.a, .int .i64 y.l.b, .int .i64 y.l.len, .bool y.l.door, .int .i64 y.l.of, .slice qa.p y.l.op.length qa.c, .slice qb.p y.l.cl.length qb.c]).rd (S := fun _ => True) trivial 0) (fun u hu => ln_one [⟨y.l, qa.p, qa.c, qb.p, qb.c⟩] u (by simpa [cs, lnC] using hu)) (by omega) (by simp; omega) ?_; intro v' w2 hown hgr; have BS6 := HH (blk_grown (BS4.out.alloc (.cells #[.int .i64 y.l.a, .int .i64 y.l.b, .int .i64 y.l.len, .bool y.l.door, .int .i64 y.l.of, .slice qa.p y.l.op.length qa.c, .slice qb.p y.l.cl.length qb.c] 35)) (World.ownsRow.alloc HOK4.out (.cells #[.int .i64 y.l.a, .int .i64 y.l.b, .int .i64 y.l.len, .bool y.l.door, .int .i64 y.l.of, .slice qa.p y.l.op.length qa.c, .slice qb.p y.l.cl.length qb.c] 35)) (by decide) hgr.out); have y2 := bc2 BS6.out; have yf := fun j => BS6.out.frozen j; obtain ⟨A7, c7, hv7, hc7, -⟩ := own_form hown.out; subst hv7) | fail)
        have HKF : Hid ((ks ++ [(⟨y.l, qa.p, qa.c, qb.p, qb.c⟩ : LnA)]).map (·.l) = (x.ls.take (i + 1)).map (·.l)) := HH (by
          rw [List.take_add_one, HY.out, List.map_append, HK.out]; simp)
        have HA1 := World.ownsRow.alloc HOK4.out (.cells #[.int .i64 y.l.a, .int .i64 y.l.b, .int .i64 y.l.len, .bool y.l.door, .int .i64 y.l.of, .slice qa.p y.l.op.length qa.c, .slice qb.p y.l.cl.length qb.c] 35)
        have BSF := HH (BS6.out.set_ 2 (.slice A7 (i + 1) c7))
        have HOF : Hid (w2.ownsRow (w.heap.size + 2) 35 7 (.slice A7 (i + 1) c7) (i + 1) (cs lnC (ks ++ [(⟨y.l, qa.p, qa.c, qb.p, qb.c⟩ : LnA)]))) := HH (by
          rw [cs_snoc]; exact hown.out)
        have HOF2 := HH (own_store (j := 2) (u := .slice A7 (i + 1) c7) HOF.out BS6.out (by decide))
        have HOW2 := HH (own_store (j := 2) (u := .slice A7 (i + 1) c7) (World.ownsRow.kept (World.ownsRow.alloc HO4.out _) hgr.out (own_ne (World.ownsRow.alloc HO4.out _) HA1 (by decide))) BS6.out (by decide))
        have HRF : ∀ p, OwnR F w.heap.size p → OwnR (w2.setCell ⟨s, 2, none⟩ (.slice A7 (i + 1) c7)) w.heap.size p := fun p hp => own_store (OwnR.grown (World.ownsRow.alloc hp _) HA1 (by decide) hgr.out) BS6.out (by decide)
        have HRFH := HH HRF
        have HQF : Hid (∀ q ∈ qs, OwnR (w2.setCell ⟨s, 2, none⟩ (.slice A7 (i + 1) c7)) w.heap.size q) := HH fun q hq => HRFH.out q (HQ4.out q hq)
        have HKKF : Hid (∀ k ∈ ks ++ [(⟨y.l, qa.p, qa.c, qb.p, qb.c⟩ : LnA)], OwnK (w2.setCell ⟨s, 2, none⟩ (.slice A7 (i + 1) c7)) w.heap.size k) := HH fun k hk => by
          rcases List.mem_append.1 hk with hk | hk
          · exact ⟨HRFH.out _ (HKK4.out k hk).o, HRFH.out _ (HKK4.out k hk).c⟩
          · obtain rfl : k = ⟨y.l, qa.p, qa.c, qb.p, qb.c⟩ := by simpa using hk
            exact ⟨HRFH.out _ QA4.out, HRFH.out _ QB4.out⟩
        have HWL := HH ((((HWF.out.alloc HWF.out.size (.cells #[.int .i64 y.l.a, .int .i64 y.l.b, .int .i64 y.l.len, .bool y.l.door, .int .i64 y.l.of, .slice qa.p y.l.op.length qa.c, .slice qb.p y.l.cl.length qb.c] 35)).grown hgr.out (by have := HWF.out.size; simp; omega) (fun k hk => by have := (HOK4.out.lt k hk).1; simp; omega)).setCell (p := ⟨s, 2, none⟩) (by have := HS.out; show _ ≤ s; omega) (.slice A7 (i + 1) c7)))
        clear HA1 HRF hown hgr BS6 HOK4 HO4
        go_roundw
        case rel => exact ⟨i + 1, A7, c7, _, by go_num, by omega, HH (by simpa using BSF.out), HKF, HOF2, HOW2, HQF, HKKF, HWL⟩
        case measure => simp [intOf]; omega
      · have hin : i = n := by omega
        subst hin
        have NZ := HH (E0.out.after HW.out)
        have z0 := bc0 BS.out
        have z1 := bc1 BS.out
        have z2 := bc2 BS.out
        have e0 := bc0 NZ.out
        have e1 := bc1 NZ.out
        have e2 := bc2 NZ.out
        have ef := fun j => NZ.out.frozen j
        clear hlt
        go_wp2
        clear z0 z1 z2 e0 e1 e2 ef n2
        have F3 := ((NZ.out.set_ 0 (.int .i64 x.hz)).set_ 1 (.slice A x.rs.length c)).set_ 2 (.slice G i gd)
        simp only [List.set_cons_zero, List.set_cons_succ] at F3
        refine bodyPost_ret (by simp [results, Try.f8, go_sem, bc0 F3, bc1 F3, bc2 F3]; rfl) rfl ?_
        have g3 := grown3 wr (w.heap.size + 1) (.int .i64 x.hz) (.slice A x.rs.length c) (.slice G i gd)
        have hkp : ∀ {B e s n : Nat} {v : Value} {xs : List Value}, wr.ownsRow B e s v n xs → e ≠ 25 → (((wr.setCell ⟨w.heap.size + 1, 0, none⟩ (.int .i64 x.hz)).setCell ⟨w.heap.size + 1, 1, none⟩ (.slice A x.rs.length c)).setCell ⟨w.heap.size + 1, 2, none⟩ (.slice G i gd)).ownsRow B e s v n xs := fun h he => World.ownsRow.kept h g3 (own_blk_ne h NZ.out he)
        have hbb := B0.out.trans (HW.out.mono B0.out.size)
        exact ownNP_mk HZ (HH (by rw [HK.out, HN.out, List.take_length])) HN.out (hkp HO.out (by decide)) (own_mono (hkp HOK.out (by decide)) (by omega)) (fun q hq => hkp (HQ.out q hq) (by decide)) (fun k hk => ⟨hkp (HKK.out k hk).o (by decide), hkp (HKK.out k hk).c (by decide)⟩)
          (((hbb.setCell (p := ⟨w.heap.size + 1, 0, none⟩) (by show w.heap.size ≤ w.heap.size + 1; omega) _).setCell (p := ⟨w.heap.size + 1, 1, none⟩) (by show w.heap.size ≤ w.heap.size + 1; omega) _).setCell (p := ⟨w.heap.size + 1, 2, none⟩) (by show w.heap.size ≤ w.heap.size + 1; omega) _)
end Go.Proofs.Ytffddkbphdjehaa.Lk
