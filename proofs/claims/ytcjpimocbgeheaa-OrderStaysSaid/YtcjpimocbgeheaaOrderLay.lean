/- order.lay lays two rows, merged, into a piece of a row of the call's own; order.Merge tells the merged row in new memory. Conditions: the piece is as long as both, lies in another block than they, and they hold fewer than a million keys together. -/
import Derived.Test.YtcjpimocbgeheaaOrderBase
namespace Go.Proofs.Ytcjpimocbgeheaa.Od
open Go.ChangeShapes Go.WideShapes Go.ChangeAt Go.RowKit
set_option linter.unusedVariables false

theorem Rd.head2 {w : World} {S : Nat → Prop} {A : Option Addr} {u v : Value} {xs : List Value} (h : Rd w S A (u :: v :: xs)) :
    ∃ ad, A = some ad ∧ S ad.block ∧ w.cell? ad = some u ∧ w.cell? ⟨ad.block, ad.off + 1, none⟩ = some v ∧
      ∀ cap : Nat, (0 < xs.length → cap ≠ 1) → Rd w S (if cap = 1 then some ad else some ⟨ad.block, ad.off + 2, none⟩) xs := by
  obtain ⟨ad, e, hb, hc⟩ := h (by simp)
  refine ⟨ad, e, hb, hc 0 u rfl, hc 1 v rfl, fun cap hcap hn => ?_⟩
  rw [if_neg (hcap hn)]
  refine ⟨_, rfl, hb, fun j x hx => ?_⟩
  have e2 : (⟨ad.block, ad.off + 2, none⟩ : Addr) = ad.add 2 := rfl
  rw [e2, add_of_add]
  exact hc (2 + j) x (by rw [Nat.add_comm]; simpa using hx)

theorem set_mid2 {pre rest post : List Value} {off : Nat} {u v a b : Value} (h : pre.length = off) :
    ((pre ++ (a :: b :: rest) ++ post).set off u).set (off + 1) v = pre ++ (u :: v :: rest) ++ post := by
  subst h
  simp

def LayRel (w : World) (g off n : Nat) (pre post : List Value) (xs ys : List Key) (v1 v2 v9 : Value) (wr : World) : Prop :=
  ∃ (i na nb : Nat) (A B : Option Addr) (ca cb : Nat) (s t : List Key) (done : List Key) (rest : List Value),
    v1 = .slice A na ca ∧ v2 = .slice B nb cb ∧ v9 = .int .i64 i ∧ na = s.length ∧ nb = t.length ∧ i + na + nb = n ∧ done.length = i ∧ rest.length = (na + nb) * 2 ∧ done ++ mg s t = mg xs ys ∧
    Blk wr g 25 (pre ++ kc done ++ rest ++ post) ∧ Rd wr (· ≠ g) A (kc s) ∧ Rd wr (· ≠ g) B (kc t) ∧ na ≤ ca ∧ nb ≤ cb ∧ w.grownBy wr (some g)

/-- what a round needs of the piece, and leaves -/
theorem lay_cells {wr : World} {g off i : Nat} {pre post rest : List Value} {done : List Key} (hb : Blk wr g 25 (pre ++ kc done ++ rest ++ post)) (hpre : pre.length = off) (hd : done.length = i) (h2 : 2 ≤ rest.length) :
    ∃ (u v : Value) (rest' : List Value), rest = u :: v :: rest' ∧ wr.cell? ⟨g, off + i * 2, none⟩ = some u ∧ wr.cell? ⟨g, off + i * 2 + 1, none⟩ = some v ∧
      wr.frozen? ⟨g, off + i * 2, none⟩ = false ∧ wr.frozen? ⟨g, off + i * 2 + 1, none⟩ = false ∧
      ∀ (k : Nat) (p : Key), Blk (((wr.drewN k).setCell ⟨g, off + i * 2, none⟩ (.int .i64 p.1)).setCell ⟨g, off + i * 2 + 1, none⟩ (.int .i64 p.2)) g 25 (pre ++ kc (done ++ [p]) ++ rest' ++ post) := by
  match rest, h2 with
  | u :: v :: rest', _ =>
    have hl : (pre ++ kc done).length = off + i * 2 := by rw [List.length_append, kc_length, hpre, hd]
    refine ⟨u, v, rest', rfl, ?_, ?_, hb.frozen _, hb.frozen _, fun k p => ?_⟩
    · rw [hb.cell, ← hl, List.append_assoc (pre ++ kc done), List.getElem?_append_right (by omega)]; simp
    · rw [hb.cell, ← hl, List.append_assoc (pre ++ kc done), List.getElem?_append_right (by omega)]
      have e : (pre ++ kc done).length + 1 - (pre ++ kc done).length = 1 := by omega
      rw [e]; rfl
    · have h1 : Blk (wr.drewN k) g 25 (pre ++ kc done ++ (u :: v :: rest') ++ post) := hb
      have h3 := (h1.set_ (off + i * 2) (.int .i64 p.1)).set_ (off + i * 2 + 1) (.int .i64 p.2)
      rw [set_mid2 hl] at h3
      have e : pre ++ kc done ++ (.int .i64 p.1 :: .int .i64 p.2 :: rest') ++ post = pre ++ kc (done ++ [p]) ++ rest' ++ post := by
        rw [kc_append]; simp [kc_cons, kc_nil]
      rw [e] at h3
      exact h3

theorem rd_two {wr : World} {g o o' k : Nat} {u v : Value} {A : Option Addr} {xs : List Value} (h : Rd wr (· ≠ g) A xs) :
    Rd (((wr.drewN k).setCell ⟨g, o, none⟩ u).setCell ⟨g, o', none⟩ v) (· ≠ g) A xs :=
  h.keep fun b hb => by
    rw [Below.heap_setCell _ _ _ _ hb, Below.heap_setCell _ _ _ _ hb]; rfl

theorem grown_two {w wr : World} {g o o' k : Nat} {u v : Value} (h : w.grownBy wr (some g)) :
    w.grownBy (((wr.drewN k).setCell ⟨g, o, none⟩ u).setCell ⟨g, o', none⟩ v) (some g) :=
  only_setCell (only_setCell (only_drewN h k) (.inl rfl) u) (.inl rfl) v

set_option maxHeartbeats 2000000 in
theorem lay_any (w : World) (g off n cap ca cb : Nat) (A B : Option Addr) (pre mid post : List Value) (xs ys : List Key)
    (hn : n = xs.length + ys.length) (hN : n ≤ 1000000) (hoff : pre.length = off) (hmid : mid.length = n * 2) (hb : Blk w g 25 (pre ++ mid ++ post))
    (hx : Rd w (· ≠ g) A (kc xs)) (hy : Rd w (· ≠ g) B (kc ys)) (hca : xs.length ≤ ca) (hcb : ys.length ≤ cb) :
    Calls Try.prog 30 #[.slice (some ⟨g, off, none⟩) n cap, .slice A xs.length ca, .slice B ys.length cb] w
      fun e w' => e = .returned (.tuple #[]) ∧ Blk w' g 25 (pre ++ kc (mg xs ys) ++ post) ∧ w.grownBy w' (some g) := by
  have H0 := Lib.hid (show LayRel w g off n pre post xs ys (.slice A xs.length ca) (.slice B ys.length cb) (.int .i64 ((0 : Nat) : Int)) w from
    ⟨0, _, _, A, B, ca, cb, xs, ys, [], mid, rfl, rfl, rfl, rfl, rfl, by omega, rfl, by omega, rfl, by simpa [kc_nil] using hb, hx, hy, hca, hcb, only_refl _ _⟩)
  clear hb hx hy hmid hca hcb
  have Hoff := Lib.hid hoff
  clear hoff hn
  obtain ⟨la, ea⟩ : ∃ la, la = xs.length := ⟨_, rfl⟩
  obtain ⟨lb, eb⟩ : ∃ lb, lb = ys.length := ⟨_, rfl⟩
  rw [← ea, ← eb] at H0 ⊢
  clear ea eb
  go_enter Try.func30, Try.ntmps30
  go_wp2
  go_loopw [1, 2, 9] (fun v1 v2 v9 wr => LayRel w g off n pre post xs ys v1 v2 v9 wr) (fun _ _ v _ => n - (intOf v).toNat)
  case atStart => exact H0.out
  case round =>
    obtain ⟨i, na, nb, A, B, ca, cb, s, t, done, rest, rfl, rfl, rfl, hna, hnb, hin, hdl, hrl, hmg, hbk, hrs, hrt, hca, hcb, hgr⟩ := hrel
    clear H0
    match s, t with
    | [], [] =>
      have hii : i = n := by simp at hna hnb; omega
      have hr0 : rest = [] := List.eq_nil_of_length_eq_zero (by simp at hna hnb; omega)
      have HB := Lib.hid (show Blk wr g 25 (pre ++ kc (mg xs ys) ++ post) from by rw [← hmg, mg_nil_l]; simpa [hr0] using hbk)
      have HG := Lib.hid hgr
      clear hmg hbk hrs hrt hna hnb hdl hrl hr0
      subst hii
      go_wp2
      go_end0
      exact ⟨rfl, HB.out, HG.out⟩
    | [], y :: t' =>
      simp only [List.length_nil] at hna
      subst hna
      have hlt : i < n := by simp at hnb; omega
      obtain ⟨u, v, rest', hrest, ht0, ht1, hf0, hf1, hset⟩ := lay_cells hbk Hoff.out hdl (by simp at hnb; omega)
      obtain ⟨bd, rfl, hbg, hy0, hy1, hcut⟩ := Rd.head2 (u := .int .i64 y.1) (v := .int .i64 y.2) (xs := kc t') hrt
      have HR := Lib.hid (fun k => (show LayRel w g off n pre post xs ys (.slice A 0 ca) (.slice (if cb = 1 then some bd else some { block := bd.block, off := bd.off + 2 }) (nb - 1) (cb - 1)) (.int .i64 ((i + 1 : Nat) : Int)) _ from
        ⟨i + 1, _, _, _, _, _, _, [], t', done ++ [y], rest', rfl, rfl, rfl, rfl, by simp at hnb; omega, by omega, by simp [hdl], by rw [hrest] at hrl; simp at hrl; omega, by rw [mg_nil_l, ← hmg, mg_nil_l]; simp,
          hset k y, rd_two hrs, rd_two (hcut cb (by simp at hnb; rw [kc_length]; omega)), by omega, by omega, grown_two hgr⟩))
      clear hmg hbk hrs hrt hdl hrl hset hcut hrest hgr
      have h0 : 0 < nb := by simp at hnb; omega
      clear hnb
      go_wp2
      go_quiet (fail)
      go_wp2
      go_region
      all_goals go_wp2
      go_roundw
      case rel => exact HR.out _
      case measure => simp [intOf]; omega
    | x :: s', [] =>
      simp only [List.length_nil] at hnb
      subst hnb
      have hlt : i < n := by simp at hna; omega
      obtain ⟨u, v, rest', hrest, ht0, ht1, hf0, hf1, hset⟩ := lay_cells hbk Hoff.out hdl (by simp at hna; omega)
      obtain ⟨ad, rfl, hbg, hx0, hx1, hcut⟩ := Rd.head2 (u := .int .i64 x.1) (v := .int .i64 x.2) (xs := kc s') hrs
      have HR := Lib.hid (fun k => (show LayRel w g off n pre post xs ys (.slice (if ca = 1 then some ad else some { block := ad.block, off := ad.off + 2 }) (na - 1) (ca - 1)) (.slice B 0 cb) (.int .i64 ((i + 1 : Nat) : Int)) _ from
        ⟨i + 1, _, _, _, _, _, _, s', [], done ++ [x], rest', rfl, rfl, rfl, by simp at hna; omega, rfl, by omega, by simp [hdl], by rw [hrest] at hrl; simp at hrl; omega, by rw [mg_nil_r, ← hmg, mg_nil_r]; simp,
          hset k x, rd_two (hcut ca (by simp at hna; rw [kc_length]; omega)), rd_two hrt, by omega, by omega, grown_two hgr⟩))
      have e0 : ((na : Int) == 0) = false := by simp at hna ⊢; omega
      clear hmg hbk hrs hrt hdl hrl hset hcut hrest hgr
      have h0 : 0 < na := by simp at hna; omega
      clear hna
      go_wp2
      go_quiet (fail)
      go_wp2
      go_region
      all_goals go_wp2
      go_roundw
      case rel => exact HR.out _
      case measure => simp [intOf]; omega
    | x :: s', y :: t' =>
      have hlt : i < n := by simp at hna hnb; omega
      obtain ⟨u, v, rest', hrest, ht0, ht1, hf0, hf1, hset⟩ := lay_cells hbk Hoff.out hdl (by simp at hna hnb; omega)
      obtain ⟨ad, rfl, hag, hx0, hx1, hcuta⟩ := Rd.head2 (u := .int .i64 x.1) (v := .int .i64 x.2) (xs := kc s') hrs
      obtain ⟨bd, rfl, hbg, hy0, hy1, hcutb⟩ := Rd.head2 (u := .int .i64 y.1) (v := .int .i64 y.2) (xs := kc t') hrt
      have e0 : ((na : Int) == 0) = false := by simp at hna ⊢; omega
      have e1 : decide ((0 : Int) < (nb : Int)) = true := by simp at hnb ⊢; omega
      have h0 : 0 < na := by simp at hna; omega
      have h1 : 0 < nb := by simp at hnb; omega
      by_cases hl : y.1 < x.1
      · have HR := Lib.hid (fun k => (show LayRel w g off n pre post xs ys (.slice (some ad) na ca) (.slice (if cb = 1 then some bd else some { block := bd.block, off := bd.off + 2 }) (nb - 1) (cb - 1)) (.int .i64 ((i + 1 : Nat) : Int)) _ from
          ⟨i + 1, _, _, _, _, _, _, x :: s', t', done ++ [y], rest', rfl, rfl, rfl, hna, by simp at hnb; omega, by omega, by simp [hdl], by rw [hrest] at hrl; simp at hrl; omega, by rw [← hmg, mg_lt hl]; simp,
            hset k y, rd_two hrs, rd_two (hcutb cb (by simp at hnb; rw [kc_length]; omega)), by omega, by omega, grown_two hgr⟩))
        have hd : decide (y.1 < x.1) = true := by simpa using hl
        clear hmg hbk hrs hrt hdl hrl hset hcuta hcutb hrest hgr hna hnb
        go_wp2
        go_quiet (fail)
        go_wp2
        go_region
        all_goals go_wp2
        go_roundw
        case rel => exact HR.out _
        case measure => simp [intOf]; omega
      · have HR := Lib.hid (fun k => (show LayRel w g off n pre post xs ys (.slice (if ca = 1 then some ad else some { block := ad.block, off := ad.off + 2 }) (na - 1) (ca - 1)) (.slice (some bd) nb cb) (.int .i64 ((i + 1 : Nat) : Int)) _ from
          ⟨i + 1, _, _, _, _, _, _, s', y :: t', done ++ [x], rest', rfl, rfl, rfl, by simp at hna; omega, hnb, by omega, by simp [hdl], by rw [hrest] at hrl; simp at hrl; omega, by rw [← hmg, mg_ge hl]; simp,
            hset k x, rd_two (hcuta ca (by simp at hna; rw [kc_length]; omega)), rd_two hrt, by omega, by omega, grown_two hgr⟩))
        have hd : decide (y.1 < x.1) = false := by simpa using hl
        clear hmg hbk hrs hrt hdl hrl hset hcuta hcutb hrest hgr hna hnb
        go_wp2
        go_quiet (fail)
        go_wp2
        go_region
        all_goals go_wp2
        go_roundw
        case rel => exact HR.out _
        case measure => simp [intOf]; omega
end Go.Proofs.Ytcjpimocbgeheaa.Od
