/- The document's answer of Sorted is the sorted row. Conditions: the row holds fewer than a million keys. -/
import Derived.Test.YtcjpimocbgeheaaOrderRefMerge
import Derived.Deep.RegionLaw
namespace Go.Proofs.Ytcjpimocbgeheaa.Od
open Go.ChangeShapes Go.WideShapes Go.ChangeAt Go.RowKit
set_option linter.unusedVariables false

/-- an append of whatever row onto one of the call's own, as a step of a region that draws its order -/
theorem step_append_rd {P : Program} {w : World} {ops : Array Oper} {o : Oper} {a : Act} {K : Act → World → Prop} {Q : Exit → Act → World → Prop} {E : Prop} (hgd : o.guard = none) (s x : Operand) (t : TypeId)
    (ho : o.op = .call { callee := .builtin .append, args := #[s, x], argTypes := #[t, t] })
    (base : Nat) (e : TypeId) (z : Value) (size bytes : Nat) (ht : P.underlying t = some (.slice e)) (hinfo : (P.info? e).map (fun i => (i.zero, i.size, i.bytes)) = some (some z, size, bytes)) (hzs : z.cells.size = size) (hsz : 0 < size) (hb16 : bytes ≤ 16)
    (v : Value) (n : Nat) (xs : List Value) (hs : a.eval s = v) (hown : Hid (w.ownsRow base e size v n xs)) (S : Nat → Prop) (A : Option Addr) (m c : Nat) (news : List Value) (hx : a.eval x = .slice A m c) (hl : Hid (news.length = m * size)) (hr : Hid (Rd w S A news)) (h1 : ∀ u ∈ news, u.oneCell' = true)
    (hN : n + m ≤ 4000000) (hbase : base ≤ w.heap.size)
    (h : ∀ v' w', Hid (w'.ownsRow base e size v' (n + m) (xs ++ news)) → Hid (Below base w w') → Hid (w.grownBy w' v.ownBlock) → K (a.put o.dst v') w') :
    if Region.wanted o (yielded ops a.tmps) = true then Oper.wp P o a w K Q else E := by
  have hw : Region.wanted o (yielded ops a.tmps) = true := by simp [Region.wanted, hgd]
  rw [if_pos hw]
  obtain ⟨i, hi, hz, hsize, hby⟩ := info_parts hinfo
  obtain ⟨v', w', hrun, h2, h3, h4⟩ := run_append_rd (P := P) w base t o.type e i z size bytes ht hi hz hsize hby hzs hsz v n xs hown.out S A m c news hl.out hr.out h1 (by simp only [maxLen]; omega)
    (by have : (n + m) * bytes ≤ 4000000 * 16 := Nat.mul_le_mul hN hb16
        omega) hbase
  unfold Oper.wp
  simp only [execOp, ho, resolve, invoke, builtin, Sem.run_bind, Sem.run_pure, Result.andThen_ok, List.map_toArray, List.map_cons, List.map_nil, hs, hx, hrun]
  exact h v' w' h2 ((Below.refl _ _).grown h3 hbase (fun k hk => (hown.out.lt k hk).1)) h3

section
variable (W : World) (cs : Array Value)
theorem e_own1 : Hid ((W.alloc (.cells #[] 25)).ownsRow W.heap.size 25 2 (.slice (some ⟨W.heap.size, 0, none⟩) 0 0) 0 []) := own_empty (Nat.le_refl _)
theorem e_own2 : Hid (((W.alloc (.cells #[] 25)).alloc (.cells cs 25)).ownsRow W.heap.size 25 2 (.slice (some ⟨W.heap.size, 0, none⟩) 0 0) 0 []) := (own_empty (Nat.le_refl _)).alloc _
theorem e_own3 : Hid (((W.alloc (.cells cs 25)).alloc (.cells #[] 25)).ownsRow W.heap.size 25 2 (.slice (some ⟨W.heap.size + 1, 0, none⟩) 0 0) 0 []) := by
  have h := own_empty (w := W.alloc (.cells cs 25)) (base := W.heap.size) (e := 25) (size := 2) (by simp)
  have e : (W.alloc (.cells cs 25)).heap.size = W.heap.size + 1 := by simp
  rw [e] at h
  exact h
theorem e_b1 (q : Nat) : Hid (Below W.heap.size W ((W.drewN q).alloc (.cells cs 25))) := (below_drewN (Below.refl _ _) q).alloc (Nat.le_refl _) _
theorem e_b2 (q : Nat) (ds : Array Value) : Hid (Below W.heap.size W (((W.drewN q).alloc (.cells cs 25)).alloc (.cells ds 25))) := ((below_drewN (Below.refl _ _) q).alloc (Nat.le_refl _) _).alloc (by simp) _
/-- the key's block lies as it lay where another row has grown -/
theorem e_x2 {wa : World} (x : Key) (hg : Hid (((W.alloc (.cells #[] 25)).alloc (.cells #[.int .i64 x.1, .int .i64 x.2] 25)).grownBy wa (Value.ownBlock (.slice (some ⟨W.heap.size, 0, none⟩) 0 0)))) :
    Hid (Rd wa (fun _ => True) (some ⟨W.heap.size + 1, 0, none⟩) (kc [x])) := by
  have h := Blk.new (W.alloc (.cells #[] 25)) 25 (kc [x])
  have e : (W.alloc (.cells #[] 25)).heap.size = W.heap.size + 1 := by simp
  rw [e] at h
  have h2 := h.grown hg.out (by simp [Value.ownBlock])
  have h3 := h2.rd (S := fun _ => True) trivial 0
  rw [List.drop_zero] at h3
  exact h3
theorem e_x3 {wa : World} (x : Key) (hg : Hid (((W.alloc (.cells #[.int .i64 x.1, .int .i64 x.2] 25)).alloc (.cells #[] 25)).grownBy wa (Value.ownBlock (.slice (some ⟨W.heap.size + 1, 0, none⟩) 0 0)))) :
    Hid (Rd wa (fun _ => True) (some ⟨W.heap.size, 0, none⟩) (kc [x])) := by
  have h := (Blk.new W 25 (kc [x])).alloc (.cells #[] 25)
  have h2 := h.grown hg.out (by simp [Value.ownBlock])
  have h3 := h2.rd (S := fun _ => True) trivial 0
  rw [List.drop_zero] at h3
  exact h3
theorem e_x1 (x : Key) : Hid (Rd (W.alloc (.cells #[.int .i64 x.1, .int .i64 x.2] 25)) (fun _ => True) (some ⟨W.heap.size, 0, none⟩) (kc [x])) :=
  (lit_rd W #[.int .i64 x.1, .int .i64 x.2] 25 (kc [x]) rfl).more fun _ _ => trivial
theorem e_y2 (x : Key) : Hid (Rd ((W.alloc (.cells #[] 25)).alloc (.cells #[.int .i64 x.1, .int .i64 x.2] 25)) (fun _ => True) (some ⟨W.heap.size + 1, 0, none⟩) (kc [x])) := by
  have h := e_x1 (W.alloc (.cells #[] 25)) x
  have e : (W.alloc (.cells #[] 25)).heap.size = W.heap.size + 1 := by simp
  rw [e] at h
  exact h
theorem e_y3 (x : Key) : Hid (Rd ((W.alloc (.cells #[.int .i64 x.1, .int .i64 x.2] 25)).alloc (.cells #[] 25)) (fun _ => True) (some ⟨W.heap.size, 0, none⟩) (kc [x])) := by
  have h3 := ((Blk.new W 25 (kc [x])).alloc (.cells #[] 25)).rd (S := fun _ => True) trivial 0
  rw [List.drop_zero] at h3
  exact h3
theorem e_alloc {w0 : World} {B n : Nat} {v : Value} {xs : List Value} (h : Hid (w0.ownsRow B 25 2 v n xs)) : Hid ((w0.alloc (.cells cs 25)).ownsRow B 25 2 v n xs) := h.out.alloc _
end

theorem ins_mid (x : Key) (a b : List Key) (ha : ∀ y ∈ a, ¬ x.1 < y.1) (hb : ∀ y ∈ b, x.1 < y.1) : ins x (a ++ b) = a ++ x :: b := by
  induction a with
  | nil =>
    cases b with
    | nil => rfl
    | cons y b => show ins x (y :: b) = _; unfold ins; rw [if_pos (hb y (by simp))]; rfl
  | cons y a ih =>
    show ins x (y :: (a ++ b)) = _
    unfold ins
    rw [if_neg (ha y (by simp)), ih (fun z hz => ha z (by simp [hz]))]; rfl
theorem ins_sorted {x : Key} {s : List Key} (h : s.Pairwise (fun a b => a.1 ≤ b.1)) : (ins x s).Pairwise (fun a b => a.1 ≤ b.1) := by
  induction s with
  | nil => simp [ins]
  | cons y t ih =>
    rw [List.pairwise_cons] at h
    unfold ins
    split
    · rename_i hlt
      rw [List.pairwise_cons, List.pairwise_cons]
      refine ⟨fun z hz => ?_, h⟩
      rcases List.mem_cons.1 hz with rfl | hz
      · omega
      · have := h.1 z hz; omega
    · rename_i hge
      rw [List.pairwise_cons]
      refine ⟨fun z hz => ?_, ih h.2⟩
      rcases List.mem_cons.1 ((ins_perm x t).mem_iff.1 hz) with rfl | hz
      · omega
      · exact h.1 z hz
theorem srt_sorted (l : List Key) : (srt l).Pairwise (fun a b => a.1 ≤ b.1) := by
  have h : ∀ t : List Key, t.Pairwise (fun a b => a.1 ≤ b.1) → (l.foldl (fun s x => ins x s) t).Pairwise (fun a b => a.1 ≤ b.1) := by
    induction l with
    | nil => intro t h; exact h
    | cons x l ih => intro t h; exact ih _ (ins_sorted h)
  exact h [] List.Pairwise.nil
theorem getK (l : List Key) (i : Nat) (h : i < l.length) : l.getD i (0, 0) = l[i] := by simp [List.getD_eq_getElem?_getD, List.getElem?_eq_getElem h]
theorem srt_split {xs : List Key} {i k : Nat} (hi : i < xs.length) (hk : k ≤ i) (h1 : ∀ j, k ≤ j → j < i → (xs.getD i (0, 0)).1 < ((srt (xs.take i)).getD j (0, 0)).1) (h2 : k = 0 ∨ ¬ (xs.getD i (0, 0)).1 < ((srt (xs.take i)).getD (k - 1) (0, 0)).1) :
    (srt (xs.take i)).take k ++ [xs.getD i (0, 0)] ++ (srt (xs.take i)).drop k = srt (xs.take (i + 1)) := by
  have hl : (srt (xs.take i)).length = i := by rw [srt_length, List.length_take]; omega
  have e : xs.take (i + 1) = xs.take i ++ [xs.getD i (0, 0)] := by
    rw [List.take_succ_eq_append_getElem hi, getK _ _ hi]
  rw [e, srt_snoc]
  have h3 := ins_mid (xs.getD i (0, 0)) ((srt (xs.take i)).take k) ((srt (xs.take i)).drop k) ?_ ?_
  · rw [List.take_append_drop] at h3
    rw [h3]; simp
  · intro y hy
    obtain ⟨j, hj, rfl⟩ := List.getElem_of_mem hy
    have hjk : j < k := by simp at hj; omega
    rw [List.getElem_take]
    rcases h2 with h2 | h2
    · omega
    · rw [getK (srt (xs.take i)) _ (by omega)] at h2
      by_cases ej : j = k - 1
      · subst ej; exact h2
      · have := List.pairwise_iff_getElem.1 (srt_sorted (xs.take i)) j (k - 1) (by omega) (by omega) (by omega)
        omega
  · intro y hy
    obtain ⟨j, hj, rfl⟩ := List.getElem_of_mem hy
    have hjl : k + j < i := by simp at hj; omega
    rw [List.getElem_drop]
    have := h1 (k + j) (by omega) hjl
    rwa [getK (srt (xs.take i)) _ (by omega)] at this

def RsRel (w : World) (n : Nat) (xs : List Key) (v3 v4 : Value) (wr : World) : Prop :=
  ∃ (i c3 : Nat) (A3 : Option Addr), v3 = .slice A3 i c3 ∧ v4 = .int .i64 i ∧ i ≤ n ∧ i ≤ c3 ∧ (A3 = none → i = 0 ∧ c3 = 0) ∧ wr.ownsRow w.heap.size 25 2 (.slice A3 i c3) i (kc (srt (xs.take i))) ∧ Below w.heap.size w wr
theorem own_less {w : World} {B B' n : Nat} {v : Value} {xs : List Value} (h : w.ownsRow B 25 2 v n xs) (hB : B' ≤ B) : w.ownsRow B' 25 2 v n xs := by
  refine ⟨h.1, ?_⟩
  rcases h.2 with h1 | ⟨g, cap, cur, e, hb, r⟩
  · exact .inl h1
  · exact .inr ⟨g, cap, cur, e, by omega, r⟩
theorem own_none {w : World} {B n c : Nat} {xs : List Value} (h : w.ownsRow B 25 2 (.slice none n c) n xs) : n = 0 ∧ c = 0 := by
  rcases h.2 with ⟨h1, _⟩ | ⟨g, cap, cur, h1, _⟩
  · injection h1 with _ h2 h3; exact ⟨h2, h3⟩
  · injection h1 with h2; cases h2
theorem rs_next {w wr wc : World} {n i k m : Nat} {xs : List Key} {vc : Value} (hi : i < n) (hn : n = xs.length) (hk : k ≤ i) (hm : m = i + 1) (hs : (srt (xs.take i)).take k ++ [xs.getD i (0, 0)] ++ (srt (xs.take i)).drop k = srt (xs.take (i + 1)))
    (ho : wc.ownsRow wr.heap.size 25 2 vc m ([] ++ kc ((srt (xs.take i)).take k) ++ kc [xs.getD i (0, 0)] ++ kc ((srt (xs.take i)).drop k))) (hb : Below w.heap.size w wr) (hbc : Below wr.heap.size wr wc) :
    RsRel w n xs vc (.int .i64 ((i : Int) + 1)) wc := by
  subst hm
  rw [List.nil_append, ← kc_append, ← kc_append, hs] at ho
  obtain ⟨A, c, hv, hc, _⟩ := own_form ho
  subst hv
  exact ⟨i + 1, c, A, rfl, by simp, by omega, hc, fun e => by subst e; exact own_none ho, own_less ho hb.size, keep_trans hb hbc⟩

theorem rd_tk {w : World} {S : Nat → Prop} {A : Option Addr} {zs : List Key} (h : Rd w S A (kc zs)) (r : Nat) : Rd w S A (kc (zs.take r)) := by
  rw [← kc_take]; exact h.take _
theorem rd_dp {w : World} {S : Nat → Prop} {ad : Addr} {zs : List Key} (h : Rd w S (some ad) (kc zs)) (r : Nat) : Rd w S (some (ad.add (r * 2))) (kc (zs.drop r)) := by
  have h1 := Rd.drop (k := r * 2) (c := False) h (fun _ => not_false)
  rw [kc_drop] at h1
  simpa using h1

set_option maxHeartbeats 8000000 in
theorem refSorted_any (w : World) (A : Option Addr) (n c : Nat) (xs : List Key) (hn : Hid (n = xs.length)) (hN : n ≤ 1000000) (hx : Rd w (· < w.heap.size) A (kc xs)) (hc : n ≤ c) :
    Calls Try.prog 21 #[.slice A n c] w (KeysNew w (srt xs)) := by
  have HX := Lib.hid hx
  clear hx
  have H0 := Lib.hid (show RsRel w n xs (.slice none 0 0) (.int .i64 ((0 : Nat) : Int)) w from ⟨0, 0, none, rfl, rfl, by omega, by omega, fun _ => ⟨rfl, rfl⟩, World.ownsRow_nil _ _ _ _, Below.refl _ _⟩)
  go_enter Try.func21, Try.ntmps21
  go_wp2
  go_loopw [3, 4] (fun v3 v4 W => RsRel w n xs v3 v4 W) (fun _ v _ => n - (intOf v).toNat)
  case atStart => exact H0.out
  case round =>
    obtain ⟨i, c3, A3, rfl, rfl, hin', hic, hnn, ho, hbel⟩ := hrel
    clear H0
    by_cases hin : i < n
    · have hix : i < xs.length := by rw [← hn.out]; exact hin
      obtain ⟨ad, rfl, hS, hcell⟩ := (HX.out.later hbel).key2 (k := i) hix
      obtain ⟨A3', c3', hv3, hc3, hr3⟩ := own_form ho
      injection hv3 with e1 e2 e3
      subst e1
      have HSL : Hid ((srt (xs.take i)).length = i) := by show _ = _; rw [srt_length, List.length_take]; omega
      have HRW := Lib.hid hr3.old
      have HNN := Lib.hid hnn
      have HB' := Lib.hid hbel
      have hadb : ad.block < wr.heap.size := hS
      obtain ⟨x, hxx⟩ : ∃ x, x = xs.getD i (0, 0) := ⟨_, rfl⟩
      have HXX := Lib.hid hxx
      have HCW : Hid (∀ W, Below wr.heap.size wr W → W.cell? (ad.add (i * 2)) = some (.int .i64 x.1) ∧ W.cell? ⟨(ad.add (i * 2)).block, (ad.add (i * 2)).off + 1, none⟩ = some (.int .i64 x.2)) := fun W h => by
        obtain ⟨h0, h1⟩ := hcell i hix
        rw [h.cell (by rw [block_of_add]; exact hadb), h.cell (by show (ad.add (i * 2)).block < _; rw [block_of_add]; exact hadb), h0, h1, hxx]
        exact ⟨rfl, rfl⟩
      have L2 : Hid ((kc [x]).length = 1 * 2) := rfl
      have HI : Hid (∀ j, i ≤ j → j < i → x.1 < ((srt (xs.take i)).getD j (0, 0)).1) := fun j h1 h2 => by omega
      clear hcell ho hr3 hnn hbel hxx hix e2 e3 hc3
      go_wp2
      obtain ⟨wb0, hwb⟩ : ∃ wb0, wb0 = wr := ⟨_, rfl⟩
      rw [← hwb] at hadb HRW HB' HCW ⊢
      clear hwb
      go_loopw [5] (fun v5 W => ∃ k : Nat, v5 = .int .i64 k ∧ k ≤ i ∧ Hid (∀ j, k ≤ j → j < i → x.1 < ((srt (xs.take i)).getD j (0, 0)).1) ∧ Below wb0.heap.size wb0 W) (fun v _ => (intOf v).toNat)
      case atStart => exact ⟨i, rfl, Nat.le_refl _, HI, Below.refl _ _⟩
      case round =>
        obtain ⟨k, rfl, hki, hall, hbw⟩ := hrel
        clear HI
        obtain ⟨wo, hwo⟩ : ∃ wo, wo = wr := ⟨_, rfl⟩
        rw [← hwo] at hbw ⊢
        have hadw : ad.block < wo.heap.size := by have := hbw.size; omega
        have HBW := Lib.hid hbw
        have HRD := Lib.hid (HRW.out.later hbw)
        have HC : Hid (∀ W, Below wo.heap.size wo W → W.cell? (ad.add (i * 2)) = some (.int .i64 x.1) ∧ W.cell? ⟨(ad.add (i * 2)).block, (ad.add (i * 2)).off + 1, none⟩ = some (.int .i64 x.2)) := fun W h => HCW.out W (keep_trans hbw h)
        obtain ⟨hx0, hx1⟩ := HC.out wo (Below.refl _ _)
        have HB : Hid (Below w.heap.size w wo) := keep_trans HB'.out hbw
        clear hwo hbw
        by_cases hk0 : 0 < k
        · have e0 : decide ((0 : Int) < (k : Int)) = true := by simp; omega
          have e0' : decide (0 < k) = true := by simpa using hk0
          obtain ⟨sd, hsd, _, hcs⟩ := HRD.out.key2 (k := k - 1) (by rw [HSL.out]; omega)
          subst hsd
          have hs0 := (hcs (k - 1) (by rw [HSL.out]; omega)).1
          obtain ⟨y, hyy⟩ : ∃ y, y = (srt (xs.take i)).getD (k - 1) (0, 0) := ⟨_, rfl⟩
          rw [← hyy] at hs0
          have HYY := Lib.hid hyy
          clear hcs hyy
          have ew : IntKind.i64.wrap ((k : Int) - 1) = (k : Int) - 1 := IntWalk.i64_in _ (by omega)
          have et : ((k : Int) - 1).toNat = k - 1 := by omega
          have eb : (k : Int) - 1 < (i : Int) := by omega
          have ec : (1 : Int) ≤ (k : Int) := by omega
          have ed : (k : Int) < (i : Int) + 1 := by omega
          have ef : (0 : Int) ≤ (k : Int) - 1 := by omega
          have eg : (i : Int) < (n : Int) := by omega
          by_cases hgt : x.1 < y.1
          · have e4 : decide (x.1 < y.1) = true := by simpa using hgt
            have HA : Hid (∀ j, k - 1 ≤ j → j < i → x.1 < ((srt (xs.take i)).getD j (0, 0)).1) := by
              intro j h1 h2
              by_cases e : j = k - 1
              · subst e; rw [← HYY.out]; exact hgt
              · exact hall.out j (by omega) h2
            go_wp2
            go_quiet (fail)
            clear ew et eb ec ed ef eg
            go_wp2
            go_roundw
            case rel => exact ⟨k - 1, by go_num, by omega, HA, below_drewN HBW.out _⟩
            case measure => simp [intOf]; omega
          · have e4 : decide (x.1 < y.1) = false := by simpa using hgt
            have SP : Hid ((srt (xs.take i)).take k ++ [xs.getD i (0, 0)] ++ (srt (xs.take i)).drop k = srt (xs.take (i + 1))) :=
              srt_split (by rw [← hn.out]; exact hin) hki (by rw [← HXX.out]; exact hall.out) (.inr (by rw [← HXX.out, ← HYY.out]; exact hgt))
            clear hall HYY
            by_cases hkc : c3 = k
            · have hik : i = k := by omega
              have L1 : Hid ((kc ((srt (xs.take i)).take k)).length = k * 2) := by show _ = _; rw [kc_length, List.length_take, HSL.out]; omega
              have L3 : Hid ((kc ((srt (xs.take i)).drop k)).length = 0 * 2) := by show _ = _; rw [kc_length, List.length_drop, HSL.out]; omega
              have H1 : Hid (∀ W, Below wo.heap.size wo W → Hid (Rd W (· < wo.heap.size) (some sd) (kc ((srt (xs.take i)).take k)))) := fun W h => ((rd_tk HRD.out k).below h)
              have H2 : Hid (∀ W, Below wo.heap.size wo W → Hid (Rd W (· < wo.heap.size) (some sd) (kc ((srt (xs.take i)).drop k)))) := fun W h => (show Rd W _ (some sd) _ from by
                have e : kc ((srt (xs.take i)).drop k) = [] := List.eq_nil_of_length_eq_zero (by rw [L3.out])
                rw [e]; exact Rd.none_)
              subst hkc
              subst hik
              go_wp2
              go_quiet (fail)
              go_wp2
              have hi1 : (i : Int) < (n : Int) := by omega
              obtain ⟨z0, z1⟩ := HC.out _ (e_b1 wo #[] (nq + 1)).out
              obtain ⟨z2, z3⟩ := HC.out _ (e_b1 wo #[.int .i64 x.1, .int .i64 x.2] (nq + 1)).out
              go_region_law (first
                | (refine step_append_rd (by rfl) (.tmp 32) (.tmp 35) 26 (by rfl) wo.heap.size 25 _ 2 16 Try.underlying26 info_key rfl (by omega) (by omega) _ 0 [] (by rfl) (by first | exact e_own1 _ | exact e_own2 _ _ | exact e_own3 _ _) _ (some sd) i i (kc ((srt (xs.take i)).take i)) (by rfl) L1 (H1.out _ (by first | exact (e_b1 _ _ _).out | exact (e_b2 _ _ _ _).out)) (kc_one _) (by omega) (by first | (simp; done) | (simp; omega)) ?_; intro va wa hoa hba hga; have ba : Hid (Below wo.heap.size wo wa) := (by first | exact (e_b1 _ _ _).out.trans hba.out | exact (e_b2 _ _ _ _).out.trans hba.out); obtain ⟨ya0, ya1⟩ := HC.out wa ba.out)
                | (refine step_append_rd (by rfl) (.tmp 36) (.tmp 41) 26 (by rfl) wo.heap.size 25 _ 2 16 Try.underlying26 info_key rfl (by omega) (by omega) va (0 + i) ([] ++ kc ((srt (xs.take i)).take i)) (by rfl) (by first | exact hoa | exact e_alloc _ hoa) _ _ 1 1 (kc [x]) (by rfl) L2 (by first | exact e_x1 _ _ | exact e_x2 (wo.drewN (nq + 1)) _ hga | exact e_x3 (wo.drewN (nq + 1)) _ hga) (kc_one _) (by omega) (by first | exact ba.out.size | exact Nat.le_trans ba.out.size (by simp)) ?_; intro vb wb hob hbb hgb; have bb : Hid (Below wo.heap.size wo wb) := (by first | exact ba.out.trans hbb.out | exact (ba.out.alloc ba.out.size _).trans hbb.out))
                | (refine step_append_rd (by rfl) (.tmp 42) (.tmp 45) 26 (by rfl) wo.heap.size 25 _ 2 16 Try.underlying26 info_key rfl (by omega) (by omega) vb (0 + i + 1) ([] ++ kc ((srt (xs.take i)).take i) ++ kc [x]) (by rfl) hob _ (some sd) 0 0 (kc ((srt (xs.take i)).drop i)) (by rfl) L3 (H2.out _ bb.out) (kc_one _) (by omega) bb.out.size ?_; intro vc wc hoc hbc hgc; have bc : Hid (Below wo.heap.size wo wc) := bb.out.trans hbc.out)
                | fail)
              all_goals
                have HR := Lib.hid (rs_next (m := 0 + i + 1 + 0) hin hn.out hki (by omega) SP.out (by rw [← HXX.out]; exact hoc.out) HB.out bc.out)
                go_wp2
                exact ⟨HR.out, by simp [intOf]; omega⟩
            · have L1 : Hid ((kc ((srt (xs.take i)).take k)).length = k * 2) := by show _ = _; rw [kc_length, List.length_take, HSL.out]; omega
              have L3 : Hid ((kc ((srt (xs.take i)).drop k)).length = (i - k) * 2) := by show _ = _; rw [kc_length, List.length_drop, HSL.out]
              have H1 : Hid (∀ W, Below wo.heap.size wo W → Hid (Rd W (· < wo.heap.size) (some sd) (kc ((srt (xs.take i)).take k)))) := fun W h => ((rd_tk HRD.out k).below h)
              have H2 : Hid (∀ W, Below wo.heap.size wo W → Hid (Rd W (· < wo.heap.size) (some (sd.add (k * 2))) (kc ((srt (xs.take i)).drop k)))) := fun W h => ((rd_dp HRD.out k).below h)
              have hk3 : k ≤ c3 := by omega
              go_wp2
              go_quiet (fail)
              go_wp2
              have hi1 : (i : Int) < (n : Int) := by omega
              obtain ⟨z0, z1⟩ := HC.out _ (e_b1 wo #[] (nq + 1)).out
              obtain ⟨z2, z3⟩ := HC.out _ (e_b1 wo #[.int .i64 x.1, .int .i64 x.2] (nq + 1)).out
              go_region_law (first
                | (refine step_append_rd (by rfl) (.tmp 32) (.tmp 35) 26 (by rfl) wo.heap.size 25 _ 2 16 Try.underlying26 info_key rfl (by omega) (by omega) _ 0 [] (by rfl) (by first | exact e_own1 _ | exact e_own2 _ _ | exact e_own3 _ _) _ (some sd) k c3 (kc ((srt (xs.take i)).take k)) (by rfl) L1 (H1.out _ (by first | exact (e_b1 _ _ _).out | exact (e_b2 _ _ _ _).out)) (kc_one _) (by omega) (by first | (simp; done) | (simp; omega)) ?_; intro va wa hoa hba hga; have ba : Hid (Below wo.heap.size wo wa) := (by first | exact (e_b1 _ _ _).out.trans hba.out | exact (e_b2 _ _ _ _).out.trans hba.out); obtain ⟨ya0, ya1⟩ := HC.out wa ba.out)
                | (refine step_append_rd (by rfl) (.tmp 36) (.tmp 41) 26 (by rfl) wo.heap.size 25 _ 2 16 Try.underlying26 info_key rfl (by omega) (by omega) va (0 + k) ([] ++ kc ((srt (xs.take i)).take k)) (by rfl) (by first | exact hoa | exact e_alloc _ hoa) _ _ 1 1 (kc [x]) (by rfl) L2 (by first | exact e_x1 _ _ | exact e_x2 (wo.drewN (nq + 1)) _ hga | exact e_x3 (wo.drewN (nq + 1)) _ hga) (kc_one _) (by omega) (by first | exact ba.out.size | exact Nat.le_trans ba.out.size (by simp)) ?_; intro vb wb hob hbb hgb; have bb : Hid (Below wo.heap.size wo wb) := (by first | exact ba.out.trans hbb.out | exact (ba.out.alloc ba.out.size _).trans hbb.out))
                | (refine step_append_rd (by rfl) (.tmp 42) (.tmp 45) 26 (by rfl) wo.heap.size 25 _ 2 16 Try.underlying26 info_key rfl (by omega) (by omega) vb (0 + k + 1) ([] ++ kc ((srt (xs.take i)).take k) ++ kc [x]) (by rfl) hob _ (some (sd.add (k * 2))) (i - k) (c3 - k) (kc ((srt (xs.take i)).drop k)) (by rfl) L3 (H2.out _ bb.out) (kc_one _) (by omega) bb.out.size ?_; intro vc wc hoc hbc hgc; have bc : Hid (Below wo.heap.size wo wc) := bb.out.trans hbc.out)
                | fail)
              all_goals
                have HR := Lib.hid (rs_next (m := 0 + k + 1 + (i - k)) hin hn.out hki (by omega) SP.out (by rw [← HXX.out]; exact hoc.out) HB.out bc.out)
                go_wp2
                exact ⟨HR.out, by simp [intOf]; omega⟩
        · have e0 : decide ((0 : Int) < (k : Int)) = false := by simp; omega
          have e0' : decide (0 < k) = false := by simpa using hk0
          have SP : Hid ((srt (xs.take i)).take k ++ [xs.getD i (0, 0)] ++ (srt (xs.take i)).drop k = srt (xs.take (i + 1))) :=
            srt_split (by rw [← hn.out]; exact hin) hki (by rw [← HXX.out]; exact hall.out) (.inl (by omega))
          clear hall
          cases A3 with
          | none =>
            obtain ⟨hi0, hc0⟩ := HNN.out rfl
            have hk00 : k = 0 := by omega
            have L1 : Hid ((kc ((srt (xs.take i)).take k)).length = 0 * 2) := by show _ = _; rw [kc_length, List.length_take, HSL.out]; omega
            have L3 : Hid ((kc ((srt (xs.take i)).drop k)).length = 0 * 2) := by show _ = _; rw [kc_length, List.length_drop, HSL.out]; omega
            have H1 : Hid (∀ W, Below wo.heap.size wo W → Hid (Rd W (· < wo.heap.size) none (kc ((srt (xs.take i)).take k)))) := fun W h => ((rd_tk HRD.out k).below h)
            have H2 : Hid (∀ W, Below wo.heap.size wo W → Hid (Rd W (· < wo.heap.size) none (kc ((srt (xs.take i)).drop k)))) := fun W h => (show Rd W _ none _ from by
              have e : kc ((srt (xs.take i)).drop k) = [] := List.eq_nil_of_length_eq_zero (by rw [L3.out])
              rw [e]; exact Rd.none_)
            have K0 := Lib.hid hk00
            subst hc0
            have I0 := Lib.hid hi0
            clear hk00 hi0
            obtain rfl : i = 0 := I0.out
            obtain rfl : k = 0 := K0.out
            have HC0 : Hid (∀ W, Below wo.heap.size wo W → W.cell? ad = some (.int .i64 x.1) ∧ W.cell? ⟨ad.block, ad.off + 1, none⟩ = some (.int .i64 x.2)) := fun W h => HC.out W h
            obtain ⟨y0, y1⟩ := HC0.out wo (Below.refl _ _)
            go_wp2
            go_quiet (fail)
            go_wp2
            obtain ⟨z0, z1⟩ := HC0.out _ (e_b1 wo #[] (nq + 1)).out
            obtain ⟨z2, z3⟩ := HC0.out _ (e_b1 wo #[.int .i64 x.1, .int .i64 x.2] (nq + 1)).out
            go_region_law (first
              | (refine step_append_rd (by rfl) (.tmp 36) (.tmp 41) 26 (by rfl) wo.heap.size 25 _ 2 16 Try.underlying26 info_key rfl (by omega) (by omega) _ 0 [] (by rfl) (by first | exact e_own2 (wo.drewN (nq + 1)) _ | exact e_own3 (wo.drewN (nq + 1)) _) _ _ 1 1 (kc [x]) (by rfl) L2 (by first | exact e_y2 (wo.drewN (nq + 1)) _ | exact e_y3 (wo.drewN (nq + 1)) _) (kc_one _) (by omega) (by first | (simp; done) | (simp; omega)) ?_; intro vb wb hob hbb hgb; have bb : Hid (Below wo.heap.size wo wb) := (e_b2 wo _ (nq + 1) _).out.trans hbb.out)
              | (refine step_append_rd (by rfl) (.tmp 42) (.tmp 45) 26 (by rfl) wo.heap.size 25 _ 2 16 Try.underlying26 info_key rfl (by omega) (by omega) vb (0 + 1) ([] ++ kc [x]) (by rfl) hob _ none 0 0 (kc ((srt (xs.take 0)).drop 0)) (by rfl) L3 (H2.out _ bb.out) (kc_one _) (by omega) bb.out.size ?_; intro vc wc hoc hbc hgc; have bc : Hid (Below wo.heap.size wo wc) := bb.out.trans hbc.out)
              | fail)
            all_goals
              have HR := Lib.hid (rs_next (i := 0) (k := 0) (m := 0 + 1 + 0) hin hn.out hki (by omega) SP.out (by rw [← HXX.out]; exact hoc.out) HB.out bc.out)
              go_wp2
              exact ⟨HR.out, by simp [intOf]; omega⟩
          | some sd =>
            by_cases hkc : c3 = k
            · have hik : i = k := by omega
              have L1 : Hid ((kc ((srt (xs.take i)).take k)).length = k * 2) := by show _ = _; rw [kc_length, List.length_take, HSL.out]; omega
              have L3 : Hid ((kc ((srt (xs.take i)).drop k)).length = 0 * 2) := by show _ = _; rw [kc_length, List.length_drop, HSL.out]; omega
              have H1 : Hid (∀ W, Below wo.heap.size wo W → Hid (Rd W (· < wo.heap.size) (some sd) (kc ((srt (xs.take i)).take k)))) := fun W h => ((rd_tk HRD.out k).below h)
              have H2 : Hid (∀ W, Below wo.heap.size wo W → Hid (Rd W (· < wo.heap.size) (some sd) (kc ((srt (xs.take i)).drop k)))) := fun W h => (show Rd W _ (some sd) _ from by
                have e : kc ((srt (xs.take i)).drop k) = [] := List.eq_nil_of_length_eq_zero (by rw [L3.out])
                rw [e]; exact Rd.none_)
              subst hkc
              subst hik
              go_wp2
              go_quiet (fail)
              go_wp2
              have hi1 : (i : Int) < (n : Int) := by omega
              obtain ⟨z0, z1⟩ := HC.out _ (e_b1 wo #[] (nq + 1)).out
              obtain ⟨z2, z3⟩ := HC.out _ (e_b1 wo #[.int .i64 x.1, .int .i64 x.2] (nq + 1)).out
              go_region_law (first
                | (refine step_append_rd (by rfl) (.tmp 32) (.tmp 35) 26 (by rfl) wo.heap.size 25 _ 2 16 Try.underlying26 info_key rfl (by omega) (by omega) _ 0 [] (by rfl) (by first | exact e_own1 _ | exact e_own2 _ _ | exact e_own3 _ _) _ (some sd) i i (kc ((srt (xs.take i)).take i)) (by rfl) L1 (H1.out _ (by first | exact (e_b1 _ _ _).out | exact (e_b2 _ _ _ _).out)) (kc_one _) (by omega) (by first | (simp; done) | (simp; omega)) ?_; intro va wa hoa hba hga; have ba : Hid (Below wo.heap.size wo wa) := (by first | exact (e_b1 _ _ _).out.trans hba.out | exact (e_b2 _ _ _ _).out.trans hba.out); obtain ⟨ya0, ya1⟩ := HC.out wa ba.out)
                | (refine step_append_rd (by rfl) (.tmp 36) (.tmp 41) 26 (by rfl) wo.heap.size 25 _ 2 16 Try.underlying26 info_key rfl (by omega) (by omega) va (0 + i) ([] ++ kc ((srt (xs.take i)).take i)) (by rfl) (by first | exact hoa | exact e_alloc _ hoa) _ _ 1 1 (kc [x]) (by rfl) L2 (by first | exact e_x1 _ _ | exact e_x2 (wo.drewN (nq + 1)) _ hga | exact e_x3 (wo.drewN (nq + 1)) _ hga) (kc_one _) (by omega) (by first | exact ba.out.size | exact Nat.le_trans ba.out.size (by simp)) ?_; intro vb wb hob hbb hgb; have bb : Hid (Below wo.heap.size wo wb) := (by first | exact ba.out.trans hbb.out | exact (ba.out.alloc ba.out.size _).trans hbb.out))
                | (refine step_append_rd (by rfl) (.tmp 42) (.tmp 45) 26 (by rfl) wo.heap.size 25 _ 2 16 Try.underlying26 info_key rfl (by omega) (by omega) vb (0 + i + 1) ([] ++ kc ((srt (xs.take i)).take i) ++ kc [x]) (by rfl) hob _ (some sd) 0 0 (kc ((srt (xs.take i)).drop i)) (by rfl) L3 (H2.out _ bb.out) (kc_one _) (by omega) bb.out.size ?_; intro vc wc hoc hbc hgc; have bc : Hid (Below wo.heap.size wo wc) := bb.out.trans hbc.out)
                | fail)
              all_goals
                have HR := Lib.hid (rs_next (m := 0 + i + 1 + 0) hin hn.out hki (by omega) SP.out (by rw [← HXX.out]; exact hoc.out) HB.out bc.out)
                go_wp2
                exact ⟨HR.out, by simp [intOf]; omega⟩
            · have L1 : Hid ((kc ((srt (xs.take i)).take k)).length = k * 2) := by show _ = _; rw [kc_length, List.length_take, HSL.out]; omega
              have L3 : Hid ((kc ((srt (xs.take i)).drop k)).length = (i - k) * 2) := by show _ = _; rw [kc_length, List.length_drop, HSL.out]
              have H1 : Hid (∀ W, Below wo.heap.size wo W → Hid (Rd W (· < wo.heap.size) (some sd) (kc ((srt (xs.take i)).take k)))) := fun W h => ((rd_tk HRD.out k).below h)
              have H2 : Hid (∀ W, Below wo.heap.size wo W → Hid (Rd W (· < wo.heap.size) (some (sd.add (k * 2))) (kc ((srt (xs.take i)).drop k)))) := fun W h => ((rd_dp HRD.out k).below h)
              have hk3 : k ≤ c3 := by omega
              go_wp2
              go_quiet (fail)
              go_wp2
              have hi1 : (i : Int) < (n : Int) := by omega
              obtain ⟨z0, z1⟩ := HC.out _ (e_b1 wo #[] (nq + 1)).out
              obtain ⟨z2, z3⟩ := HC.out _ (e_b1 wo #[.int .i64 x.1, .int .i64 x.2] (nq + 1)).out
              go_region_law (first
                | (refine step_append_rd (by rfl) (.tmp 32) (.tmp 35) 26 (by rfl) wo.heap.size 25 _ 2 16 Try.underlying26 info_key rfl (by omega) (by omega) _ 0 [] (by rfl) (by first | exact e_own1 _ | exact e_own2 _ _ | exact e_own3 _ _) _ (some sd) k c3 (kc ((srt (xs.take i)).take k)) (by rfl) L1 (H1.out _ (by first | exact (e_b1 _ _ _).out | exact (e_b2 _ _ _ _).out)) (kc_one _) (by omega) (by first | (simp; done) | (simp; omega)) ?_; intro va wa hoa hba hga; have ba : Hid (Below wo.heap.size wo wa) := (by first | exact (e_b1 _ _ _).out.trans hba.out | exact (e_b2 _ _ _ _).out.trans hba.out); obtain ⟨ya0, ya1⟩ := HC.out wa ba.out)
                | (refine step_append_rd (by rfl) (.tmp 36) (.tmp 41) 26 (by rfl) wo.heap.size 25 _ 2 16 Try.underlying26 info_key rfl (by omega) (by omega) va (0 + k) ([] ++ kc ((srt (xs.take i)).take k)) (by rfl) (by first | exact hoa | exact e_alloc _ hoa) _ _ 1 1 (kc [x]) (by rfl) L2 (by first | exact e_x1 _ _ | exact e_x2 (wo.drewN (nq + 1)) _ hga | exact e_x3 (wo.drewN (nq + 1)) _ hga) (kc_one _) (by omega) (by first | exact ba.out.size | exact Nat.le_trans ba.out.size (by simp)) ?_; intro vb wb hob hbb hgb; have bb : Hid (Below wo.heap.size wo wb) := (by first | exact ba.out.trans hbb.out | exact (ba.out.alloc ba.out.size _).trans hbb.out))
                | (refine step_append_rd (by rfl) (.tmp 42) (.tmp 45) 26 (by rfl) wo.heap.size 25 _ 2 16 Try.underlying26 info_key rfl (by omega) (by omega) vb (0 + k + 1) ([] ++ kc ((srt (xs.take i)).take k) ++ kc [x]) (by rfl) hob _ (some (sd.add (k * 2))) (i - k) (c3 - k) (kc ((srt (xs.take i)).drop k)) (by rfl) L3 (H2.out _ bb.out) (kc_one _) (by omega) bb.out.size ?_; intro vc wc hoc hbc hgc; have bc : Hid (Below wo.heap.size wo wc) := bb.out.trans hbc.out)
                | fail)
              all_goals
                have HR := Lib.hid (rs_next (m := 0 + k + 1 + (i - k)) hin hn.out hki (by omega) SP.out (by rw [← HXX.out]; exact hoc.out) HB.out bc.out)
                go_wp2
                exact ⟨HR.out, by simp [intOf]; omega⟩
    · have hie : n = i := by omega
      subst hie
      obtain ⟨A3', c3', hv3, hc3, hr3⟩ := own_form ho
      injection hv3 with e1 e2 e3
      have e5 : xs.take n = xs := List.take_of_length_le (by rw [← hn.out]; exact Nat.le_refl _)
      rw [e5] at hr3
      rw [← e1] at hr3
      have HR := Lib.hid (hr3)
      have HB := Lib.hid hbel
      have HL : Hid (n = (srt xs).length) := by show _ = _; rw [srt_length]; exact hn.out
      clear e1 e2 e3 e5 hr3 hbel ho hnn hc3
      go_wp2
      go_ret
      exact ⟨A3, n, c3, rfl, HL, hic, HR.out, HB.out⟩
end Go.Proofs.Ytcjpimocbgeheaa.Od
