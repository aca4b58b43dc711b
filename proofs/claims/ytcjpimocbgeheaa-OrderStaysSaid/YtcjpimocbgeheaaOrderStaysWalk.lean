/- The law OrderStays walked: it answers true at any numbers, a number. No condition. -/
import Derived.Test.YtcjpimocbgeheaaOrderStaysLex
import Derived.Deep.RegionWith
namespace Go.Proofs.Ytcjpimocbgeheaa.Od
open Go.ChangeShapes Go.WideShapes Go.ChangeAt Go.RowKit
set_option linter.unusedVariables false

def StRel (w : World) (B n : Nat) (zs : List Int) (v5 v6 : Value) (wr : World) : Prop :=
  ∃ (k : Nat) (V5 : Value), V5 = v5 ∧ v6 = .int .i64 k ∧ k ≤ n ∧ wr.ownsRow B 25 2 V5 k (kc (kzF zs k)) ∧ Below B w wr

theorem rd_apart {w : World} {A : Option Addr} {xs : List Value} (h : Rd w (· < w.heap.size) A xs) (o : Obj) : Rd (w.alloc o) (fun b => b < (w.alloc o).heap.size ∧ b ≠ w.heap.size) A xs :=
  (h.keep (w' := w.alloc o) fun b hb => Below.heap_alloc w o b hb).more fun b hb => by
    have : (w.alloc o).heap.size = w.heap.size + 1 := by simp
    omega
theorem rd_grown {w wr : World} {g : Nat} {A : Option Addr} {xs : List Value} (h : Rd w (fun b => b < w.heap.size ∧ b ≠ g) A xs) (hg : w.grownBy wr (some g)) : Rd wr (· < wr.heap.size) A xs :=
  (grown_rd h (fun b hb => hb) hg).more fun b hb => Nat.lt_of_lt_of_le hb.1 hg.size
theorem rd_taken {w : World} {S : Nat → Prop} {A : Option Addr} {zs : List Key} (h : Rd w S A (kc zs)) (r : Nat) : Rd w S A (kc (zs.take r)) := by
  rw [← kc_take]; exact h.take _
theorem rd_dropped {w : World} {S : Nat → Prop} {ad : Addr} {zs : List Key} (h : Rd w S (some ad) (kc zs)) (r : Nat) : Rd w S (some (ad.add (r * 2))) (kc (zs.drop r)) := by
  have h1 := Rd.drop (k := r * 2) (c := False) h (fun _ => not_false)
  rw [kc_drop] at h1
  simpa using h1
theorem ins_last (x : Key) (t : List Key) (h : ∀ y ∈ t, y.1 ≤ x.1) : ins x t = t ++ [x] := by
  induction t with
  | nil => rfl
  | cons y t ih =>
    have := h y (by simp)
    unfold ins
    rw [if_neg (by omega), ih (fun z hz => h z (by simp [hz]))]; rfl
theorem fold_sorted (l : List Key) : ∀ t, (t ++ l).Pairwise (fun a b => a.1 ≤ b.1) → l.foldl (fun s x => ins x s) t = t ++ l := by
  induction l with
  | nil => intro t _; simp
  | cons x l ih =>
    intro t h
    have hx : ∀ y ∈ t, y.1 ≤ x.1 := fun y hy => (List.pairwise_append.1 h).2.2 y hy x (by simp)
    simp only [List.foldl_cons]
    rw [ins_last x t hx, ih _ (by simpa using h)]
    simp
theorem srt_srt (zs : List Int) : srt (srt (kz zs)) = srt (kz zs) := by
  have h := fold_sorted (srt (kz zs)) [] ((kz_lex zs).imp (fun {a b} h => by unfold lexLt at h; omega))
  simpa [srt] using h
theorem own_cap {w : World} {base e size n c : Nat} {xs : List Value} (h : w.ownsRow base e size (.slice none n c) n xs) : n = 0 ∧ c = 0 := by
  rcases h.2 with ⟨h1, _⟩ | ⟨g, cap, cur, h1, _⟩
  · injection h1 with _ h2 h3; exact ⟨h2, h3⟩
  · injection h1 with h2; cases h2
/-- the second loop: i keys seen -/
def SnRel (w : World) (g n : Nat) (zs : List Int) (v9 : Value) (wr : World) : Prop :=
  ∃ i : Nat, v9 = .int .i64 i ∧ i ≤ n ∧ Blk wr g 4 (seenF ((pm zs).take i) n) ∧ w.grownBy wr (some g)

set_option maxRecDepth 100000 in
set_option maxHeartbeats 8000000 in
theorem stays_any (w : World) (A : Option Addr) (n c : Nat) (cut : Int) (zs : List Int) (hn : Hid (n = zs.length)) (hc : n ≤ c) (hx : Rd w (· < w.heap.size) A (ic zs)) (hN : n ≤ 200) (hpos : 0 < n) (hc1 : -9223372036854775808 ≤ cut) (hc2 : cut ≤ 9223372036854775807) :
    Calls Try.prog 5 #[.slice A n c, .int .i64 cut] w fun e w' => e = .returned (.bool true) ∧ Below w.heap.size w w' := by
  have hd : decide ((200 : Int) < (n : Int)) = false := by simp; omega
  go_enter Try.func5, Try.ntmps5
  go_wp2_with fail
  refine (lives_any w).mono ?_
  rintro e w0 ⟨rfl, b0⟩
  have HX := Lib.hid (hx.later b0)
  have HB0 := Lib.hid b0
  have H0 := Lib.hid (show StRel w0 w0.heap.size n zs (.slice none 0 0) (.int .i64 ((0 : Nat) : Int)) w0 from ⟨0, _, rfl, rfl, by omega, World.ownsRow_nil _ _ _ _, Below.refl _ _⟩)
  clear hx b0
  go_wp2_with fail
  go_loopw [5, 6] (fun v5 v6 wr => StRel w0 w0.heap.size n zs v5 v6 wr) (fun _ v _ => n - (intOf v).toNat)
  case atStart => exact H0.out
  case round =>
    obtain ⟨k, V5, rfl, rfl, hk, ho, hbel⟩ := hrel
    clear H0
    have hszw := hbel.size
    by_cases hlt : k < n
    · have hkz : k < zs.length := by rw [← hn.out]; exact hlt
      obtain ⟨ad, rfl, hS, hcell⟩ := (HX.out.later hbel).at_ (k := k) hkz
      have hx0 := hcell k hkz
      have HO := Lib.hid ho
      have HB := Lib.hid hbel
      obtain ⟨z, hz⟩ : ∃ z, z = zs.getD k 0 := ⟨_, rfl⟩
      rw [← hz] at hx0
      have HZ := Lib.hid hz
      clear hcell hkz hz ho hbel
      go_wp2_with (at_builtin; refine wpList_append_key rfl (.tmp 23) (.tmp 30) rfl w0.heap.size V5 k (kzF zs k) (z, (k : Int)) rfl rfl HO (by omega) hszw ?_; intro v5' w2 ho5' hb5')
      go_roundw
      case rel => exact ⟨k + 1, v5', rfl, by simp, by omega, by rw [kzF_succ, ← HZ.out]; exact ho5'.out, HB.out.trans hb5'.out⟩
      case measure => simp [intOf]; omega
    · have hkn : n = k := by omega
      subst hkn
      obtain ⟨A5, c5, hv5, hc5, hr5⟩ := own_form ho
      subst hv5
      have hkz5 : Hid (n = (kz zs).length) := by show _ = _; rw [kz_length]; exact hn.out
      have e5 : kzF zs n = kz zs := by unfold kz; rw [← hn.out]
      rw [e5] at hr5
      obtain ⟨wo, hwo⟩ : ∃ wo, wo = wr := ⟨_, rfl⟩
      have hrl := HX.out.later hbel
      have hr5' := hr5.old
      rw [← hwo] at hrl hr5' ⊢
      have HB1 := Lib.hid (show Below w.heap.size w wo from by rw [hwo]; exact keep_trans HB0.out hbel)
      have HL := Lib.hid hrl
      have HK := Lib.hid hr5'
      clear e5 ho hbel hrl hr5 hr5' hwo hszw
      go_wp2_with fail
      refine (sorted_any wo A5 n c5 (kz zs) hkz5 (by omega) HK.out hc5).mono ?_
      rintro e w7 ⟨A7, n7, c7, rfl, hn7, hc7, hr7, q7⟩
      have h7 : n = n7 := by rw [hn7.out, srt_length, kz_length, hn.out]
      subst h7
      have hmk := mk_bool n (by omega)
      have HB7 := Lib.hid (keep_trans HB1.out q7)
      have HL7 := Lib.hid (HL.out.later q7)
      have HK7 := Lib.hid (HK.out.later q7)
      have HS7 := Lib.hid hr7.old
      have HG := Lib.hid (Blk.new w7 4 (seenF [] n))
      clear q7 hr7
      go_wp2_with fail
      have HB8 := Lib.hid (keep_alloc HB7.out (.cells (seenF [] n).toArray 4))
      have HL8 := Lib.hid (rd_apart HL7.out (.cells (seenF [] n).toArray 4))
      have HK8 := Lib.hid (rd_apart HK7.out (.cells (seenF [] n).toArray 4))
      have HS8 := Lib.hid (rd_apart HS7.out (.cells (seenF [] n).toArray 4))
      have h78 : (w7.alloc (.cells (seenF [] n).toArray 4)).heap.size = w7.heap.size + 1 := by simp
      have HSZ := Lib.hid (show w.heap.size ≤ w7.heap.size from HB7.out.size)
      obtain ⟨g, hg⟩ : ∃ g, g = w7.heap.size := ⟨_, rfl⟩
      obtain ⟨w8, hw8⟩ : ∃ w8, w8 = w7.alloc (.cells (seenF [] n).toArray 4) := ⟨_, rfl⟩
      rw [← hg] at HG HSZ HL8 HK8 HS8 h78 ⊢
      rw [← hw8] at HG HB8 HL8 HK8 HS8 h78 ⊢
      have hg8 : g < w8.heap.size := by omega
      clear hw8 hg HB7 HL7 HK7 HS7 hmk h78
      have HI := Lib.hid (show SnRel w8 g n zs (.int .i64 ((0 : Nat) : Int)) w8 from ⟨0, rfl, by omega, by simpa using HG.out, only_refl _ _⟩)
      go_loopw [9] (fun v9 wr => SnRel w8 g n zs v9 wr) (fun v _ => n - (intOf v).toNat)
      case atStart => exact HI.out
      case round =>
        obtain ⟨i, rfl, hi, hbk, hgr⟩ := hrel
        clear HI
        by_cases hin : i < n
        · have hiz : i < zs.length := by rw [← hn.out]; exact hin
          obtain ⟨q, hq, hqz, hpq⟩ := srt_key zs i hiz
          have hsl : ∀ j, j ≤ i → j < (srt (kz zs)).length := fun j hj => by rw [srt_length, kz_length]; omega
          obtain ⟨sd, rfl, _, hcell⟩ := (grown_rd HS8.out (fun b hb => hb) hgr).key2 (k := i) (hsl i (Nat.le_refl _))
          obtain ⟨ld, rfl, _, lcell⟩ := (grown_rd HL8.out (fun b hb => hb) hgr).at_ (k := q) hqz
          obtain ⟨hs0, hs1⟩ := hcell i (hsl i (Nat.le_refl _))
          have hl0 := lcell q hqz
          have hqn : q < n := by rw [hn.out]; exact hqz
          have hns := not_seen zs hiz hpq
          have ht0 : wr.cell? ⟨g, q, none⟩ = some (.bool false) := by rw [hbk.cell, seenF_at hqn hns]
          have hf0 := hbk.frozen q
          have HR := Lib.hid (fun m => (show SnRel w8 g n zs (.int .i64 ((i : Int) + 1)) ((wr.drewN m).setCell ⟨g, q, none⟩ (.bool true)) from
            ⟨i + 1, by simp, by omega, by
              have h := Blk.set_ (w := wr.drewN m) hbk q (.bool true)
              rw [seenF_set] at h
              rw [take_snocD _ _ (by rw [pm_length]; exact hiz), hpq]
              exact h, only_setCell (only_drewN hgr m) (.inl rfl) _⟩))
          rw [hq] at hs0 hs1
          obtain ⟨z, hz⟩ : ∃ z, z = zs.getD q 0 := ⟨_, rfl⟩
          rw [← hz] at hs0 hl0
          simp only at hs0 hs1
          have HBK := Lib.hid hbk
          have HGR := Lib.hid hgr
          have g1 : decide ((q : Int) < 0) = false := by simp
          have g2 : decide ((n : Int) ≤ (q : Int)) = false := by simp; omega
          have g2' : decide (n ≤ q) = false := by simp; omega
          by_cases hi0 : 0 < i
          · have hbf := srt_before zs i hi0 hiz
            obtain ⟨q', hq', hqz', _⟩ := srt_key zs (i - 1) (by omega)
            obtain ⟨hp0, hp1⟩ := hcell (i - 1) (hsl _ (by omega))
            rw [hq, hq'] at hbf
            rw [hq'] at hp0 hp1
            obtain ⟨y, hy⟩ : ∃ y, y = zs.getD q' 0 := ⟨_, rfl⟩
            rw [← hz, ← hy] at hbf
            rw [← hy] at hp0
            simp only at hp0 hp1
            unfold lexLt at hbf
            simp only at hbf
            have g3 : decide ((0 : Int) < (i : Int)) = true := by simp; omega
            have g3' : decide (0 < i) = true := by simpa using hi0
            clear hq hq' hz hy hcell lcell hsl hns hpq hbk hgr hiz hqz hqz'
            by_cases hyz : y < z
            · have g4 : decide (z < y) = false := by simp; omega
              have g5 : (y == z) = false := by simp; omega
              clear hbf
              go_wp2
              simp only [List.append_eq, List.cons_append, List.nil_append]
              have ew : IntKind.i64.wrap ((i : Int) - 1) = (i : Int) - 1 := IntWalk.i64_in _ (by omega)
              have et : ((i : Int) - 1).toNat = i - 1 := by omega
              have eb : (i : Int) - 1 < (n : Int) := by omega
              have ec : (1 : Int) ≤ (i : Int) := by omega
              have ed : (i : Int) < (n : Int) + 1 := by omega
              have ef : (0 : Int) ≤ (i : Int) - 1 := by omega
              have eg : (i : Int) < (n : Int) := by omega
              have eh : (q : Int) < (n : Int) := by omega
              refine wp_region_quiet_lit mixed lex17 ?_
              repeat (go_big_quiet_step (fail))
              refine wpQuiet_nil ?_
              intro _ hw'
              obtain ⟨nq, hw''⟩ := hw'
              subst hw''
              clear ew et eb ec ed ef eg eh
              go_wp2
              go_roundw
              case rel => exact HR.out _
              case measure => simp [intOf]; omega
            · have hyz' : y = z := by omega
              subst hyz'
              have hqq : (q' : Int) < (q : Int) := by omega
              have g4 : decide (y < y) = false := by simp
              have g5 : (y == y) = true := by simp
              have g6 : decide ((q : Int) < (q' : Int)) = false := by simp; omega
              have g6' : decide (q < q') = false := by simp; omega
              clear hbf hyz
              go_wp2
              simp only [List.append_eq, List.cons_append, List.nil_append]
              have ew : IntKind.i64.wrap ((i : Int) - 1) = (i : Int) - 1 := IntWalk.i64_in _ (by omega)
              have et : ((i : Int) - 1).toNat = i - 1 := by omega
              have eb : (i : Int) - 1 < (n : Int) := by omega
              have ec : (1 : Int) ≤ (i : Int) := by omega
              have ed : (i : Int) < (n : Int) + 1 := by omega
              have ef : (0 : Int) ≤ (i : Int) - 1 := by omega
              have eg : (i : Int) < (n : Int) := by omega
              have eh : (q : Int) < (n : Int) := by omega
              refine wp_region_quiet_lit mixed lex17 ?_
              repeat (go_big_quiet_step (fail))
              refine wpQuiet_nil ?_
              intro _ hw'
              obtain ⟨nq, hw''⟩ := hw'
              subst hw''
              clear ew et eb ec ed ef eg eh
              go_wp2
              go_roundw
              case rel => exact HR.out _
              case measure => simp [intOf]; omega
          · have hi00 : i < 1 := by omega
            have g3 : decide ((0 : Int) < (i : Int)) = false := by simp; omega
            have g3' : decide (0 < i) = false := by simpa using hi0
            clear hq hz hcell lcell hsl hns hpq hbk hgr hiz hqz hi0
            go_wp2
            simp only [List.append_eq, List.cons_append, List.nil_append]
            have eg : (i : Int) < (n : Int) := by omega
            have eh : (q : Int) < (n : Int) := by omega
            refine wp_region_quiet_lit mixed lex17 ?_
            repeat (go_big_quiet_step (fail))
            refine wpQuiet_nil ?_
            intro _ hw'
            obtain ⟨nq, hw''⟩ := hw'
            subst hw''
            clear eg eh
            go_wp2
            go_roundw
            case rel => exact HR.out _
            case measure => simp [intOf]; omega
        · have hie : n = i := by omega
          subst hie
          have HGR := Lib.hid hgr
          obtain ⟨wx, hwx⟩ : ∃ wx, wx = wr := ⟨_, rfl⟩
          rw [← hwx] at HGR ⊢
          have hge : w.heap.size ≤ g := HSZ.out
          have HBX := Lib.hid (show Below w.heap.size w wx from below_grown HB8.out HGR.out (by have := HB8.out.size; omega) hge)
          have HLX := Lib.hid (rd_grown HL8.out HGR.out)
          have HKX := Lib.hid (rd_grown HK8.out HGR.out)
          have HSX := Lib.hid (rd_grown HS8.out HGR.out)
          have CP := Lib.hid (pick_any cut ((n : Int) + 1) wx hc1 hc2 (by omega) (by omega))
          clear hbk hgr hwx HGR HL8 HK8 HS8 HB8 HG
          go_wp2_with fail
          refine CP.out.mono ?_
          rintro e wy ⟨r, rfl, hr, rfl⟩
          have hrn : r ≤ n := by have := hr.out; omega
          have CQ := Lib.hid (perm_any wx A n c zs hn (by omega) hc HLX.out)
          clear CP hr
          go_wp2_with fail
          refine CQ.out.mono ?_
          rintro e wp ⟨A9, n9, c9, rfl, hn9, hc9, hr9, q9⟩
          have h9 : n = n9 := by rw [hn9.out, pm_length, hn.out]
          subst h9
          have HBP := Lib.hid (keep_trans HBX.out q9)
          have HKP := Lib.hid (HKX.out.later q9)
          have HSP := Lib.hid (HSX.out.later q9)
          have HP := Lib.hid hr9.old
          clear CQ q9 hr9 HBX HLX HKX HSX
          go_wp2_with fail
          go_loopw [11] (fun v11 W => ∃ i : Nat, v11 = .int .i64 i ∧ i ≤ n ∧ Below wp.heap.size wp W) (fun v _ => n - (intOf v).toNat)
          case atStart => exact ⟨0, rfl, by omega, Below.refl _ _⟩
          case round =>
            obtain ⟨i, rfl, hi2, hbW⟩ := hrel
            have HBW := Lib.hid hbW
            by_cases hin2 : i < n
            · have hiz : i < zs.length := by rw [← hn.out]; exact hin2
              obtain ⟨q, hq, hqz, hpq⟩ := srt_key zs i hiz
              have hsl : i < (srt (kz zs)).length := by rw [srt_length, kz_length]; exact hiz
              have hpl : i < (pm zs).length := by rw [pm_length]; exact hiz
              obtain ⟨sd, rfl, _, hcell⟩ := (HSP.out.later hbW).key2 (k := i) hsl
              obtain ⟨pd, rfl, _, pcell⟩ := (HP.out.later hbW).at_ (k := i) hpl
              have hs1 := (hcell i hsl).2
              have hp0 := pcell i hpl
              rw [hq] at hs1
              rw [hpq] at hp0
              simp only at hs1
              clear hq hqz hpq hcell pcell hsl hpl hiz hbW
              go_wp2
              have eg : (i : Int) < (n : Int) := by omega
              go_quiet (fail)
              clear eg
              go_wp2
              go_roundw
              case rel => exact ⟨i + 1, by go_num, by omega, below_drewN HBW.out _⟩
              case measure => simp [intOf]; omega
            · obtain ⟨wq, hwq⟩ : ∃ wq, wq = wr := ⟨_, rfl⟩
              rw [← hwq] at HBW ⊢
              have HBQ := Lib.hid (keep_trans HBP.out HBW.out)
              have HKQ := Lib.hid (HKP.out.later HBW.out)
              have HSQ := Lib.hid (HSP.out.later HBW.out)
              clear hbW hwq HBW HBP HKP HSP HP
              have hrc : r ≤ c5 := by omega
              have hk5 : (kz zs).length = n := by rw [kz_length]; exact hn.out.symm
              have h1 : Hid (r = ((kz zs).take r).length) := by show _ = _; rw [List.length_take]; omega
              have h2 : Hid (n - r = ((kz zs).drop r).length) := by show _ = _; rw [List.length_drop]; omega
              have HEQ : Hid (mg (srt ((kz zs).take r)) (srt ((kz zs).drop r)) = srt (kz zs)) := by show _ = _; rw [mg_srt, List.take_append_drop]
              have HSS := Lib.hid (srt_srt zs)
              have HML : Hid (∀ m1 m2 : Nat, Hid (m1 = (srt ((kz zs).take r)).length) → Hid (m2 = (srt ((kz zs).drop r)).length) → m1 + m2 ≤ 1000000) := by
                intro m1 m2 e1 e2
                rw [e1.out, e2.out, srt_length, srt_length, ← h1.out, ← h2.out]; omega
              have HM3 : Hid (∀ m3 : Nat, Hid (m3 = (mg (srt ((kz zs).take r)) (srt ((kz zs).drop r))).length) → m3 ≤ 1000000) := by
                intro m3 e3
                rw [e3.out, HEQ.out, srt_length, hk5]; omega
              have HM5 : Hid (∀ m5 : Nat, Hid (m5 = (srt (srt (kz zs))).length) → m5 ≤ 1000000) := by
                intro m5 e5
                rw [e5.out, srt_length, srt_length, hk5]; omega
              obtain ⟨ad, hAd, _, _⟩ := HKQ.out (by rw [kc_length, hk5]; omega)
              subst hAd
              obtain ⟨AR, hAR⟩ : ∃ AR, AR = (if c5 = r then some ad else some (ad.add (r * 2))) := ⟨_, rfl⟩
              have HRR : Hid (Rd wq (· < wq.heap.size) AR (kc ((kz zs).drop r))) := by
                show Rd _ _ _ _
                rw [hAR]
                by_cases hcr : c5 = r
                · have e : (kz zs).drop r = [] := List.drop_eq_nil_of_le (by omega)
                  rw [e]; exact Rd.none_
                · rw [if_neg hcr]; exact rd_dropped HKQ.out r
              have h4 := hAR.symm
              clear hAR
              have C1 := Lib.hid (sorted_any wq.drew (some ad) r c5 ((kz zs).take r) h1 (by omega) (rd_taken HKQ.out r) hrc)
              have C2 := Lib.hid (fun W (h : Below wq.drew.heap.size wq.drew W) => sorted_any W AR (n - r) (c5 - r) ((kz zs).drop r) h2 (by omega) (Rd.later (w := wq.drew) HRR.out h) (by omega))
              clear hk5
              go_wp2
              go_region_with (first
                    | (go_at_call 19; (with_reducible refine C1.out.mono ?_); rintro e x1 ⟨B1, m1, d1, rfl, hm1, hd1, hs1, p1⟩)
                    | (go_at_call 19; (with_reducible refine (C2.out x1 p1).mono ?_); rintro e x2 ⟨B2, m2, d2, rfl, hm2, hd2, hs2, p2⟩)
                    | (go_at_call 11; refine (merge_any x2 B1 B2 m1 m2 d1 d2 _ _ hm1 hm2 (HML.out m1 m2 hm1 hm2) (hs1.old.later p2) hs2.old hd1 hd2).mono ?_; rintro e x3 ⟨B3, m3, d3, rfl, hm3, hd3, hs3, p3⟩)
                    | (go_at_call 10; have K4 := Lib.hid (same2_key (c := d3) (d := c7) hm3 hn7 HEQ.out (HM3.out m3 hm3) hs3.old (Rd.later (w := wq.drew) HSQ.out (keep_trans (keep_trans p1 p2) p3))); (with_reducible refine K4.out.mono ?_); clear K4; rintro e x4 ⟨rfl, p4⟩)
                    | (go_at_call 19; refine (sorted_any x4 A7 _ c7 (srt (kz zs)) hn7 (by omega) (Rd.later (w := wq.drew) HSQ.out (keep_trans (keep_trans (keep_trans p1 p2) p3) p4)) hc7).mono ?_; rintro e x5 ⟨B5, m5, d5, rfl, hm5, hd5, hs5, p5⟩)
                    | (go_at_call 10; refine (same2_key hm5 hn7 HSS.out (HM5.out m5 hm5) hs5.old (Rd.later (w := wq.drew) HSQ.out (keep_trans (keep_trans (keep_trans (keep_trans p1 p2) p3) p4) p5))).mono ?_; rintro e x6 ⟨rfl, p6⟩))
              all_goals
                go_wp2
                go_ret
                exact ⟨rfl, keep_trans HBQ.out.drew (keep_trans (keep_trans (keep_trans (keep_trans (keep_trans p1 p2) p3) p4) p5) p6)⟩

set_option maxRecDepth 100000 in
set_option maxHeartbeats 4000000 in
theorem stays_zero (w : World) (A : Option Addr) (c : Nat) (cut : Int) (hc1 : -9223372036854775808 ≤ cut) (hc2 : cut ≤ 9223372036854775807) :
    Calls Try.prog 5 #[.slice A 0 c, .int .i64 cut] w fun e w' => e = .returned (.bool true) ∧ Below w.heap.size w w' := by
  go_enter Try.func5, Try.ntmps5
  go_wp2_with fail
  refine (lives_any w).mono ?_
  rintro e w0 ⟨rfl, b0⟩
  go_wp2_with fail
  go_loopw [5, 6] (fun v5 v6 W => v5 = .slice none 0 0 ∧ v6 = .int .i64 0 ∧ w0 = W) (fun _ v _ => 0)
  case atStart => exact ⟨rfl, rfl, by trivial⟩
  case round =>
    obtain ⟨rfl, rfl, rfl⟩ := hrel
    go_wp2_with fail
    refine (sorted_any w0 none 0 0 [] rfl (by omega) Rd.none_ (by omega)).mono ?_
    rintro e w7 ⟨A7, n7, c7, rfl, hn7, hc7, hr7, q7⟩
    have h7 : 0 = n7 := hn7.out.symm
    subst h7
    have hmk : ∀ w : World, (Instr.makeSlice 38 (.int .i64 0) (.int .i64 0)).run Try.prog w = .ok (.slice (some ⟨w.heap.size, 0, none⟩) 0 0) (w.alloc (.cells (seenF [] 0).toArray 4)) := fun w => mk_bool 0 (by omega) w
    have HB8 := Lib.hid (keep_alloc (keep_trans b0 q7) (.cells (seenF [] 0).toArray 4))
    clear q7 hr7 b0
    go_wp2_with fail
    go_loopw [9] (fun v9 W => v9 = .int .i64 0 ∧ Below w.heap.size w W) (fun _ _ => 0)
    case atStart => exact ⟨rfl, HB8.out⟩
    case round =>
      obtain ⟨rfl, hb8⟩ := hrel
      obtain ⟨w8, hw8⟩ : ∃ w8, w8 = wr := ⟨_, rfl⟩
      rw [← hw8] at hb8 ⊢
      clear hw8 HB8
      have HB8 := Lib.hid hb8
      clear hb8
      have CP := Lib.hid (pick_any cut 1 w8 hc1 hc2 (by omega) (by omega))
      go_wp2_with fail
      refine CP.out.mono ?_
      rintro e wy ⟨r, rfl, hr, rfl⟩
      have hr0 : r = 0 := by have := hr.out; omega
      subst hr0
      have CQ := Lib.hid (perm_any w8 A 0 c [] rfl (by omega) (by omega) Rd.none_)
      clear CP hr
      go_wp2_with fail
      refine CQ.out.mono ?_
      rintro e wp ⟨A9, n9, c9, rfl, hn9, hc9, hr9, q9⟩
      have h9 : 0 = n9 := hn9.out.symm
      subst h9
      have HBQ := Lib.hid (keep_trans HB8.out q9)
      clear CQ q9 hr9
      go_wp2_with fail
      go_loopw [11] (fun v11 W => v11 = .int .i64 0 ∧ wp = W) (fun _ _ => 0)
      case atStart => exact ⟨rfl, by trivial⟩
      case round =>
        obtain ⟨rfl, rfl⟩ := hrel
        have C1 := Lib.hid (sorted_any wp.drew none 0 0 [] rfl (by omega) Rd.none_ (by omega))
        have C2 := Lib.hid (fun W (h : Below wp.drew.heap.size wp.drew W) => sorted_any W none 0 0 [] rfl (by omega) Rd.none_ (by omega))
        have HML : Hid (∀ m1 m2 : Nat, Hid (m1 = (srt []).length) → Hid (m2 = (srt []).length) → m1 + m2 ≤ 1000000) := by
          intro m1 m2 e1 e2
          rw [e1.out, e2.out, srt_length]; simp
        have HEQ : Hid (mg (srt []) (srt []) = srt []) := by show _ = _; rw [mg_srt]; rfl
        have HM3 : Hid (∀ m3 : Nat, Hid (m3 = (mg (srt []) (srt [])).length) → m3 ≤ 1000000) := by
          intro m3 e3
          rw [e3.out, HEQ.out, srt_length]; simp
        have HSS : Hid (srt (srt []) = srt []) := rfl
        have HM5 : Hid (∀ m5 : Nat, Hid (m5 = (srt (srt [])).length) → m5 ≤ 1000000) := by
          intro m5 e5
          rw [e5.out, srt_length, srt_length]; simp
        go_wp2
        go_region_with (first
                    | (go_at_call 19; (with_reducible refine C1.out.mono ?_); rintro e x1 ⟨B1, m1, d1, rfl, hm1, hd1, hs1, p1⟩)
                    | (go_at_call 19; (with_reducible refine (C2.out x1 p1).mono ?_); rintro e x2 ⟨B2, m2, d2, rfl, hm2, hd2, hs2, p2⟩)
                    | (go_at_call 11; refine (merge_any x2 B1 B2 m1 m2 d1 d2 _ _ hm1 hm2 (HML.out m1 m2 hm1 hm2) (hs1.old.later p2) hs2.old hd1 hd2).mono ?_; rintro e x3 ⟨B3, m3, d3, rfl, hm3, hd3, hs3, p3⟩)
                    | (go_at_call 10; have K4 := Lib.hid (same2_key (B := A7) (c := d3) (d := c7) hm3 hn7 HEQ.out (HM3.out m3 hm3) hs3.old (Rd.none_)); (with_reducible refine K4.out.mono ?_); clear K4; rintro e x4 ⟨rfl, p4⟩)
                    | (go_at_call 19; refine (sorted_any x4 A7 _ c7 (srt []) hn7 (by omega) (Rd.none_) hc7).mono ?_; rintro e x5 ⟨B5, m5, d5, rfl, hm5, hd5, hs5, p5⟩)
                    | (go_at_call 10; refine (same2_key hm5 hn7 HSS.out (HM5.out m5 hm5) hs5.old (Rd.none_)).mono ?_; rintro e x6 ⟨rfl, p6⟩))
        all_goals
          go_wp2
          go_ret
          exact ⟨rfl, keep_trans HBQ.out.drew (keep_trans (keep_trans (keep_trans (keep_trans (keep_trans p1 p2) p3) p4) p5) p6)⟩

set_option maxRecDepth 100000 in
theorem stays_all (w : World) (A : Option Addr) (n c : Nat) (cut : Int) (zs : List Int) (hn : Hid (n = zs.length)) (hc : n ≤ c) (hx : Rd w (· < w.heap.size) A (ic zs)) (hc1 : -9223372036854775808 ≤ cut) (hc2 : cut ≤ 9223372036854775807) :
    Calls Try.prog 5 #[.slice A n c, .int .i64 cut] w fun e w' => e = .returned (.bool true) ∧ Below w.heap.size w w' := by
  by_cases h1 : 200 < n
  · have hd : decide ((200 : Int) < (n : Int)) = true := by simp; omega
    go_enter Try.func5, Try.ntmps5
    go_wp2_with (go_at_call 9; refine (lives_any _).mono ?_; rintro e w0 ⟨rfl, hb0⟩)
    go_ret
    exact ⟨rfl, hb0⟩
  · by_cases h0 : n = 0
    · subst h0
      exact stays_zero w A c cut hc1 hc2
    · exact stays_any w A n c cut zs hn hc hx (by omega) (by omega) hc1 hc2
end Go.Proofs.Ytcjpimocbgeheaa.Od
