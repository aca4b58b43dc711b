/- Package tick's Parse and what it calls: what number, digits and Parse answer, at any tick and any text, proved by walking their text; the library's AppendInt and ParseInt by the shelf's contracts. Conditions: the package-level variables of the library that these read hold what start-up lays (Env). · The row's condition on the library's variables gives what the library's text reads (Env); start-up's heap meets it. -/
import Derived.Test.YteonmabfhilcfaaGreatDoorShelf
import Derived.Test.YteonmabfhilcfaaGreatDoorRows
import Derived.Test.YteonmabfhilcfaaGreatDoorPlain
import Derived.WalkKit
import Derived.ProofKit
import Derived.OpenShut
import Derived.Handy
import Derived.Lib.AppendIntMem
import Derived.Lib.AtoiErrMem
import Derived.Lib.AtoiBound
import Derived.Lib.ItoaLen
import Derived.Lib.Slices
import Derived.Lib.Hide
import Derived.Lib.LaidTab
import Derived.Laws.IdiomStrings
import Derived.Deep.RegionWith
import Derived.WalkLawsBesides
import Derived.OwnWalk
import Derived.BigCall
import Derived.LaidMore
import Derived.Stop.Joined
import Derived.Stop.LaidErr
namespace Go.Proofs.YteonmabfhilcfaaGreatDoor.Tk
open Go.Shelf Go.ChangeShapes Go.WideShapes Go.ChangeAt Go.RowKit
set_option linter.unusedVariables false

theorem ret_b {a b : Bool} (h : a = b) : Ending.returned (.bool b) = .returned (.bool a) := by rw [h]
theorem ret_2 {a b c d : Int} (h : a = c ∧ b = d) : Ending.returned (.tuple #[.int .i64 c, .int .i64 d]) = .returned (.tuple #[.int .i64 a, .int .i64 b]) := by rw [h.1, h.2]

theorem below_trans {a b c : World} (h1 : Below a.heap.size a b) (h2 : Below b.heap.size b c) : Below a.heap.size a c :=
  h1.trans (h2.mono h1.size)
theorem var_on {w w' : World} {n : String} {cs : Array Value} (h : w.var? Tryz.prog n = some cs) (hb : Below w.heap.size w w') : w'.var? Tryz.prog n = some cs := by
  unfold World.var? at *
  cases hg : Tryz.prog.globalNamed n with
  | none => simp [hg] at h
  | some g =>
    simp only [hg, Option.bind_some] at h ⊢
    have hlt : g < w.heap.size := by
      rcases Nat.lt_or_ge g w.heap.size with h' | h'
      · exact h'
      · rw [Array.getElem?_eq_none h'] at h; simp at h
    rw [hb.block g hlt]
    exact h
/-- what the library's text reads of package-level variables -/
structure Env (w : World) : Prop where
  tab : Lib.TabIs Tryz.prog w "internal/strconv.uint64pow10" .u64 Lib.pow10Tab
  syn : ∃ tp p, w.var? Tryz.prog "strconv.ErrSyntax" = some #[.iface tp p]
  rng : ∃ tp p, w.var? Tryz.prog "strconv.ErrRange" = some #[.iface tp p]
theorem Env.on {w w' : World} (h : Env w) (hb : Below w.heap.size w w') : Env w' :=
  ⟨var_on h.tab hb, by obtain ⟨a, b, c⟩ := h.syn; exact ⟨a, b, var_on c hb⟩, by obtain ⟨a, b, c⟩ := h.rng; exact ⟨a, b, var_on c hb⟩⟩

theorem ret_s {a b : List UInt8} (h : a = b) : Ending.returned (.string ⟨b.toArray⟩) = .returned (.string ⟨a.toArray⟩) := by rw [h]

theorem take_snoc (s : ByteArray) (k : Nat) (h : k < s.size) : s.data.toList.take (k + 1) = s.data.toList.take k ++ [s[k]] := by
  rw [List.take_succ_eq_append_getElem (by simpa using h)]; rfl
theorem allDig_no {l : List UInt8} {k : Nat} (hk : k < l.length) (h : isDig l[k] = false) : allDig l = false := by
  cases ha : allDig l with
  | false => rfl
  | true =>
    have := List.all_eq_true.1 ha l[k] (List.getElem_mem hk)
    rw [h] at this; cases this

set_option maxHeartbeats 4000000 in
theorem digits_any (s : ByteArray) (w : World) (hs : s.size ≤ maxLen) :
    Calls Tryz.prog 129 #[.string s] w fun e w' => e = .returned (.bool (allDig s.data.toList)) ∧ w = w' := by
  unfold maxLen at hs
  go_enter Tryz.func129, Tryz.ntmps129
  go_wp2
  go_loop [6] (fun i => ∃ k : Nat, k ≤ s.size ∧ i = .int .i64 k ∧ allDig (s.data.toList.take k) = true) (fun i => s.size - (intOf i).toNat)
  case atStart => exact ⟨0, Nat.zero_le _, rfl, by simp [allDig]⟩
  case round =>
    obtain ⟨k, hk, rfl, hd⟩ := hrel
    by_cases hlt : k < s.size
    · have HS := Lib.hid (take_snoc s k hlt)
      have HD := Lib.hid hd
      have HE : Hid (∀ h : k < s.data.toList.length, s.data.toList[k] = s[k]) := Lib.hid (fun _ => rfl)
      clear hd
      cases hdig : isDig s[k] with
      | true =>
        have hb : 48 ≤ s[k].toNat ∧ s[k].toNat ≤ 57 := by simpa [isDig] using hdig
        obtain ⟨hb1, hb2⟩ := hb
        have HDG := Lib.hid hdig
        clear hdig
        go_wp2
        go_round
        case rel => exact ⟨k + 1, by omega, by go_num, by rw [HS.out, allDig_app, HD.out]; simp [allDig, HDG.out]⟩
        case measure => simp [intOf]; omega
      | false =>
        have hb : s[k].toNat < 48 ∨ 57 < s[k].toNat := by simp [isDig] at hdig; omega
        have hn : allDig s.data.toList = false := allDig_no (k := k) (by simpa using hlt) (by rw [HE.out]; exact hdig)
        have HN := Lib.hid hn
        clear hn hdig
        rcases hb with hb | hb
        all_goals
          go_wp2
          go_ret
          exact ⟨ret_b HN.out, rfl⟩
    · have hn : allDig s.data.toList = true := by
        rw [List.take_of_length_le (by simp; omega)] at hd; exact hd
      have HN := Lib.hid hn
      clear hn hd
      go_wp2
      go_ret
      exact ⟨ret_b HN.out, rfl⟩

/-- AppendInt to nil, base 10: what comes back is turned into the numeral's string. -/
theorem appnil (t : Int) (w : World) (hE : Env w) (h1 : -9223372036854775808 ≤ t) (h2 : t ≤ 9223372036854775807) :
    Calls Tryz.prog 136 #[.slice none 0 0, .int .i64 t, .int .i64 10] w fun e w1 => ∃ v1, e = .returned v1 ∧ (convert 152 9 v1).run Tryz.prog w1 = .ok (.string ⟨(Lib.itoa t).toArray⟩) w1 ∧ Below w.heap.size w w1 := by
  refine (Tryz.strconv_AppendInt_10 w.heap.size 0 t h1 h2 (.slice none 0 0) [] w (World.ownsRow_nil _ _ _ _) (Nat.le_refl _) (by omega) (Lib.tabBelow_of_tabIs hE.tab)).mono ?_
  rintro e w1 ⟨v1, rfl, hown1, hnx1, -⟩
  refine ⟨v1, rfl, ?_, hnx1⟩
  rw [Nat.zero_add, List.nil_append] at hown1
  have hlen : 0 < (Lib.itoa t).length := by
    unfold Lib.itoa; split
    · exact Nat.succ_pos _
    · exact List.length_pos_iff.2 (dec_ne _)
  rcases hown1.2 with ⟨-, h0⟩ | ⟨g, cap, cur, rfl, -, -, -, -, -, -⟩
  · omega
  · exact run_convert_bytes_back (P := Tryz.prog) w1 152 9 5 ⟨g, 0, none⟩ cap (Lib.itoa t) Tryz.underlying152 Tryz.underlying5 Tryz.underlying9 (fun j hj => hown1.cells (g := g) rfl j _ (by simp [Lib.byteCells, hj]))

/-- ParseInt at a short text that is a number -/
theorem pint_ok (s : ByteArray) (hs : s.size ≤ 14) (v : Int) (h : Lib.atoi s.data.toList = some v) (w : World) :
    Calls Tryz.prog 135 #[.string s, .int .i64 10, .int .i64 64] w fun e w' => e = .returned (.tuple #[.int .i64 v, .nilIface]) ∧ Below w.heap.size w w' := by
  refine (Tryz.strconv_ParseInt_10_at64_ok s (by omega) v (by rw [parse_head (by rw [← Lib.size_eq]; exact hs), h]; rfl) w).mono ?_
  rintro e w' ⟨rfl, rfl | ⟨t, rfl⟩⟩
  · exact ⟨rfl, Below.refl _ _⟩
  · exact ⟨rfl, Lib.bytesWorld_below _ _ _⟩
/-- ParseInt at a short text that is none -/
theorem pint_no (s : ByteArray) (hs : s.size ≤ 14) (h : Lib.atoi s.data.toList = none) (w : World) (hE : Env w) :
    Calls Tryz.prog 135 #[.string s, .int .i64 10, .int .i64 64] w fun e w' => ∃ N, e = .returned (.tuple #[.int .i64 0, .iface 165 (.pointer (some ⟨N, 0, none⟩))]) ∧ Below w.heap.size w w' := by
  obtain ⟨tp, p, hv⟩ := hE.syn
  refine (Any.strconv_ParseInt_10_at64_syntax_var Tryz.laysC174 s (by omega) (by rw [parse_head (by rw [← Lib.size_eq]; exact hs), h]; rfl) tp p w hv).mono ?_
  rintro e w' ⟨N, rfl, -, -, hb⟩
  exact ⟨N, rfl, hb⟩
def NumB (l : List UInt8) (w : World) (e : Ending) (w' : World) : Prop := ∃ n : Int, e = .returned (.tuple #[.int .i64 n, .bool (canon l)]) ∧ (canon l = true → n = (dval l : Int)) ∧ Below w.heap.size w w'
theorem ret_ib {a c : Int} {b d : Bool} (h1 : a = c) (h2 : b = d) : Ending.returned (.tuple #[.int .i64 a, .bool b]) = .returned (.tuple #[.int .i64 c, .bool d]) := by rw [h1, h2]

set_option maxHeartbeats 4000000 in
theorem number_any (s : ByteArray) (hs : s.size ≤ 14) (w : World) (hE : Env w) :
    Calls Tryz.prog 128 #[.string s] w (NumB s.data.toList w) := by
  have HEnv := Lib.hid hE
  clear hE
  cases ha : Lib.atoi s.data.toList with
  | none =>
    have hc : canon s.data.toList = false := by
      cases hc : canon s.data.toList with
      | false => rfl
      | true => rw [atoi_canon hc] at ha; cases ha
    have HC := Lib.hid hc
    have HA := Lib.hid ha
    clear hc ha
    go_enter Tryz.func128, Tryz.ntmps128
    go_wp2_with (go_at_call 135; refine (pint_no s hs HA.out _ HEnv.out).mono ?_; rintro e w1 ⟨N, rfl, hb⟩)
    go_ret2
    exact ⟨0, ret_ib rfl HC.out.symm, ⟨fun h => (by rw [HC.out] at h; cases h), hb⟩⟩
  | some v =>
    have HA := Lib.hid ha
    by_cases hv : v < 0
    · have hc : canon s.data.toList = false := by
        cases hc : canon s.data.toList with
        | false => rfl
        | true => rw [atoi_canon hc] at ha; injection ha with ha; omega
      have HC := Lib.hid hc
      clear hc ha
      go_enter Tryz.func128, Tryz.ntmps128
      go_wp2_with (go_at_call 135; refine (pint_ok s hs v HA.out _).mono ?_; rintro e w1 ⟨rfl, hb⟩)
      go_ret2
      exact ⟨0, ret_ib rfl HC.out.symm, ⟨fun h => (by rw [HC.out] at h; cases h), hb⟩⟩
    · have hb1 := (Lib.atoi_bound ha (by rw [← Lib.size_eq]; omega))
      obtain ⟨hb1, hb2⟩ := hb1
      have hb1' : -9223372036854775808 ≤ v := by omega
      have hb2' : v ≤ 9223372036854775807 := by omega
      have HV : Hid (canon s.data.toList = true → v = (dval s.data.toList : Int)) := Lib.hid (fun hc => by rw [atoi_canon hc] at ha; injection ha with ha; exact ha.symm)
      have HB : Hid ((Lib.itoa v == s.toList) = canon s.data.toList) := Lib.hid (by
        rw [ByteArray.toList_eq]
        cases hc : canon s.data.toList with
        | true => rw [HV.out hc, itoa_canon hc]; simp
        | false =>
          rw [beq_eq_false_iff_ne]; intro e
          rw [(canon_of_itoa (by omega) e).1] at hc; cases hc)
      clear ha
      go_enter Tryz.func128, Tryz.ntmps128
      go_wp2_with (go_at_call 135; refine (pint_ok s hs v HA.out _).mono ?_; rintro e w1 ⟨rfl, hb⟩)
      go_region_with (go_at_call 136; refine (appnil v _ ?_ hb1' hb2').mono ?_; exact (HEnv.out).on (by first | exact hb | exact hb.drew); rintro e w2 ⟨v2, rfl, hcv, hb3⟩)
      go_wp2
      go_ret2
      exact ⟨v, ret_ib rfl HB.out, ⟨HV.out, hb.trans ((((Below.refl _ w1).drew).trans hb3).mono hb.size)⟩⟩
def ParB (l : List UInt8) (w : World) (e : Ending) (w' : World) : Prop := e = .returned (.tuple #[.int .i64 (parseV l), .int .i64 (parseE l)]) ∧ Below w.heap.size w w'
theorem ext_data (s : ByteArray) (a b : Nat) : (s.extract a b).data.toList = (s.data.toList.take b).drop a := by
  rw [Lib.extract_data, List.drop_take]
theorem ext_head (s : ByteArray) (k : Nat) : (s.extract 0 k).data.toList = s.data.toList.take k := by rw [ext_data]; simp
theorem ext_tail (s : ByteArray) (k : Nat) : (s.extract k s.size).data.toList = s.data.toList.drop k := by
  rw [ext_data, List.take_of_length_le (by rw [← Lib.size_eq]; exact Nat.le_refl _)]
theorem ext_all (s : ByteArray) : s.extract 0 s.size = s := by
  apply Go.WideShapes.bytes_inj; rw [ext_head, List.take_of_length_le (by rw [← Lib.size_eq]; exact Nat.le_refl _)]
theorem inf_t {s : ByteArray} (h : s.data.toList = infL) : (s.toList == [105, 110, 102]) = true := by rw [ByteArray.toList_eq, h]; rfl
theorem inf_f {s : ByteArray} (h : s.data.toList ≠ infL) : (s.toList == [105, 110, 102]) = false := by rw [ByteArray.toList_eq, beq_eq_false_iff_ne]; exact h

theorem digits_nil (w : World) : Calls Tryz.prog 129 #[.string ByteArray.empty] w fun e w' => e = .returned (.bool true) ∧ w = w' :=
  digits_any ByteArray.empty w (Nat.zero_le _)
theorem number_yes (s : ByteArray) (hs : s.size ≤ 14) (hc : canon s.data.toList = true) (w : World) (hE : Env w) :
    Calls Tryz.prog 128 #[.string s] w fun e w' => e = .returned (.tuple #[.int .i64 (dval s.data.toList : Int), .bool true]) ∧ Below w.heap.size w w' := by
  refine (number_any s hs w hE).mono ?_
  rintro e w' ⟨n, he, hn, hb⟩
  rw [hn hc, hc] at he
  exact ⟨he, hb⟩
theorem number_no (s : ByteArray) (hs : s.size ≤ 14) (hc : canon s.data.toList = false) (w : World) (hE : Env w) :
    Calls Tryz.prog 128 #[.string s] w fun e w' => ∃ n, e = .returned (.tuple #[.int .i64 n, .bool false]) ∧ Below w.heap.size w w' := by
  refine (number_any s hs w hE).mono ?_
  rintro e w' ⟨n, he, hn, hb⟩
  rw [hc] at he
  exact ⟨n, he, hb⟩
set_option maxHeartbeats 400000 in
theorem parse_at_inf (s : ByteArray) (h : s.data.toList = infL) (w : World) :
    Calls Tryz.prog 107 #[.string s] w (ParB s.data.toList w) := by
  have hi := inf_t h
  have H : Hid (parseV s.data.toList = 4611686018427387904 ∧ parseE s.data.toList = 0) := Lib.hid (by rw [h]; exact parse_inf)
  clear h
  go_enter Tryz.func107, Tryz.ntmps107
  go_wp2_with fail
  go_ret2
  exact ⟨ret_2 H.out, Below.refl _ _⟩
set_option maxHeartbeats 400000 in
theorem parse_short (s : ByteArray) (hs : s.size ≤ 14) (h : s.data.toList ≠ infL) (w : World) (hE : Env w) :
    Calls Tryz.prog 107 #[.string s] w (ParB s.data.toList w) := by
  have HEnv := Lib.hid hE
  have hi := inf_f h
  have hm : min (s.size : Int) 14 = s.size := by omega
  have hx := ext_all s
  cases hc : canon s.data.toList with
  | false =>
    have H := Lib.hid (parse_no h hc)
    have HC := Lib.hid hc
    clear h hE hc
    go_enter Tryz.func107, Tryz.ntmps107
    go_wp2_with (first | (go_at_call 128; refine (number_no s hs HC.out _ HEnv.out).mono ?_; rintro e w1 ⟨n, rfl, hb⟩))
    go_ret2
    exact ⟨ret_2 H.out, hb⟩
  | true =>
    by_cases hb0 : dval s.data.toList ≤ 1099511627776
    · have H := Lib.hid (parse_ok hc hb0)
      have HC := Lib.hid hc
      clear h hE hc
      go_enter Tryz.func107, Tryz.ntmps107
      go_wp2_with (first | (go_at_call 128; refine (number_yes s hs HC.out _ HEnv.out).mono ?_; rintro e w1 ⟨rfl, hb⟩) | (go_at_call 129; refine (digits_nil _).mono ?_; rintro e w' ⟨rfl, rfl⟩) | go_in)
      go_ret2
      exact ⟨ret_2 H.out, hb⟩
    · have H := Lib.hid (parse_big hc hb0)
      have HC := Lib.hid hc
      have hb1 : 1099511627776 < dval s.data.toList := by omega
      clear h hE hb0 hc
      go_enter Tryz.func107, Tryz.ntmps107
      go_wp2_with (first | (go_at_call 128; refine (number_yes s hs HC.out _ HEnv.out).mono ?_; rintro e w1 ⟨rfl, hb⟩) | (go_at_call 129; refine (digits_nil _).mono ?_; rintro e w' ⟨rfl, rfl⟩) | go_in)
      go_ret2
      exact ⟨ret_2 H.out, hb⟩

set_option maxHeartbeats 400000 in
theorem parse_long (s : ByteArray) (hs : 14 < s.size) (hmx : s.size ≤ maxLen) (w : World) (hE : Env w) :
    Calls Tryz.prog 107 #[.string s] w (ParB s.data.toList w) := by
  have HEnv := Lib.hid hE
  have hlen : 14 < s.data.toList.length := by rw [← Lib.size_eq]; exact hs
  have h0 : s.data.toList ≠ infL := by intro e; rw [e] at hlen; simp [infL] at hlen
  have hi := inf_f h0
  have hm : min (s.size : Int) 14 = 14 := by omega
  have hhl : (s.data.toList.take 14).length = 14 := by simp; omega
  have hhs : (s.extract 0 14).size ≤ 14 := by rw [Lib.size_eq, ext_head, hhl]; exact Nat.le_refl _
  have htl : (s.extract 14 s.size).size ≤ maxLen := by rw [Lib.size_eq, ext_tail]; refine Nat.le_trans ?_ hmx; rw [Lib.size_eq]; simp
  have hcut := canon_cut hlen
  cases hc : canon (s.data.toList.take 14) with
  | false =>
    have H := Lib.hid (parse_no h0 (by rw [hcut, hc]; rfl))
    have HC : Hid (canon (s.extract 0 14).data.toList = false) := Lib.hid (by rw [ext_head]; exact hc)
    have HHS := Lib.hid hhs
    clear h0 hE hc hlen hhl hhs htl hcut
    go_enter Tryz.func107, Tryz.ntmps107
    go_wp2_with (first | (go_at_call 128; refine (number_no _ HHS.out HC.out _ HEnv.out).mono ?_; rintro e w1 ⟨n, rfl, hb⟩))
    go_ret2
    exact ⟨ret_2 H.out, hb⟩
  | true =>
    have hbig := canon_big hc (by omega)
    have HC : Hid (canon (s.extract 0 14).data.toList = true) := Lib.hid (by rw [ext_head]; exact hc)
    cases ha : allDig (s.data.toList.drop 14) with
    | false =>
      have H := Lib.hid (parse_no h0 (by rw [hcut, hc, ha]; rfl))
      have HA : Hid (allDig (s.extract 14 s.size).data.toList = false) := Lib.hid (by rw [ext_tail]; exact ha)
      have HHS := Lib.hid hhs
      have HTL := Lib.hid htl
      clear h0 hE hc hlen hhl hhs htl hcut ha
      go_enter Tryz.func107, Tryz.ntmps107
      go_wp2_with (first | (go_at_call 128; refine (number_yes _ HHS.out HC.out _ HEnv.out).mono ?_; rintro e w1 ⟨rfl, hb⟩) | (go_at_call 129; refine (digits_any _ _ HTL.out).mono ?_; rintro e w' ⟨rfl, rfl⟩; rw [HA.out]))
      go_ret2
      exact ⟨ret_2 H.out, hb⟩
    | true =>
      have H := Lib.hid (parse_big (l := s.data.toList) (by rw [hcut, hc, ha]; rfl) (by have := dval_take_le s.data.toList 14; omega))
      have HA : Hid (allDig (s.extract 14 s.size).data.toList = true) := Lib.hid (by rw [ext_tail]; exact ha)
      have HHS := Lib.hid hhs
      have HTL := Lib.hid htl
      clear h0 hE hc hlen hhl hhs htl hcut ha
      go_enter Tryz.func107, Tryz.ntmps107
      go_wp2_with (first | (go_at_call 128; refine (number_yes _ HHS.out HC.out _ HEnv.out).mono ?_; rintro e w1 ⟨rfl, hb⟩) | (go_at_call 129; refine (digits_any _ _ HTL.out).mono ?_; rintro e w' ⟨rfl, rfl⟩; rw [HA.out]) | go_in)
      go_ret2
      exact ⟨ret_2 H.out, hb⟩
theorem parse_any (s : ByteArray) (hmx : s.size ≤ maxLen) (w : World) (hE : Env w) :
    Calls Tryz.prog 107 #[.string s] w (ParB s.data.toList w) := by
  by_cases h : s.data.toList = infL
  · exact parse_at_inf s h w
  · by_cases hs : s.size ≤ 14
    · exact parse_short s hs h w hE
    · exact parse_long s (by omega) hmx w hE
end Go.Proofs.YteonmabfhilcfaaGreatDoor.Tk
namespace Go.Proofs.YteonmabfhilcfaaGreatDoor.Tk
open Go.ChangeShapes Go.WideShapes Go.ChangeAt Go.RowKit
set_option linter.unusedVariables false

def laidAll : List (String × DataW Unit) := [("math/bits.deBruijn32tab", Rows.laid_math_bits_deBruijn32tab), ("math/bits.deBruijn64tab", Rows.laid_math_bits_deBruijn64tab), ("internal/strconv.uint64pow10", Rows.laid_internal_strconv_uint64pow10), ("strconv.ErrRange", Rows.laid_strconv_ErrRange), ("strconv.ErrSyntax", Rows.laid_strconv_ErrSyntax)]

theorem gSyn : Tryz.prog.globalNamed "strconv.ErrSyntax" = some 0 := by kernel_rfl
theorem gRng : Tryz.prog.globalNamed "strconv.ErrRange" = some 1 := by kernel_rfl
theorem gTab : Tryz.prog.globalNamed "internal/strconv.uint64pow10" = some 2 := by kernel_rfl
theorem tSyn : (Tryz.prog.globals[0]?).map (·.type) = some 155 := by kernel_rfl
theorem tRng : (Tryz.prog.globals[1]?).map (·.type) = some 155 := by kernel_rfl
theorem tTab : (Tryz.prog.globals[2]?).map (·.type) = some 184 := by kernel_rfl
theorem cE : Tryz.prog.cellsOf 161 = 1 := by kernel_rfl
theorem cT : Tryz.prog.cellsOf 184 = 20 := by kernel_rfl
theorem c77 : Tryz.prog.cellsOf 181 = 1 := by kernel_rfl
theorem c9 : Tryz.prog.cellsOf 9 = 1 := by kernel_rfl
theorem star : "*" ++ "errors.errorString" = "*errors.errorString" := by decide
/-- the one row of that name -/
theorem row75 (u : TypeId) (h : Tryz.prog.typeName? 3 u = some "*errors.errorString") : u = 179 :=
  typeName_ptr_named (nm := "errors.errorString") (by rw [star]; kernel_rfl) (by kernel_rfl) (by decide) u (by rw [star]; exact h)
theorem tab_eq {H : Type} : (Rows.laid_internal_strconv_uint64pow10 : DataW H) = Lib.tabData .u64 Lib.pow10Tab := rfl

/-- The row's condition gives what the library's text reads. -/
theorem env_of_laid {W : World} (h : laidMetH Tryz.prog laidAll W) : Env W := by
  rw [MakeChecks.laidMetH_plain _ _ _ (by kernel_rfl)] at h
  have h3 := h.tail.tail
  have h4 := h3.tail
  have h5 := h4.tail
  obtain ⟨a1, s1, hv1, -, -, -⟩ := laid_sentinel h4 gRng tRng Tryz.underlying155 row75 Tryz.underlying179 Tryz.underlying181 rfl rfl Tryz.underlying9 c77 c9
  obtain ⟨a0, s0, hv0, -, -, -⟩ := laid_sentinel h5 gSyn tSyn Tryz.underlying155 row75 Tryz.underlying179 Tryz.underlying181 rfl rfl Tryz.underlying9 c77 c9
  exact ⟨Lib.tabIs_of_head gTab tTab Tryz.underlying184 Tryz.underlying161 cE cT h3, ⟨_, _, hv0⟩, ⟨_, _, hv1⟩⟩

/-- The heap that start-up leaves meets the condition. -/
theorem door_met (os : Os) (args : Array Value) : laidMetH Tryz.prog laidAll ((World.doorLaid Tryz.prog 62 os).forCall (fun _ _ => 0) ⟨#[], args, []⟩).memory :=
  laidMetH_of_parts3 (fuel := 8) (laidMet_of_run' 8 (by kernel_rfl) (by kernel_rfl)) (by kernel_rfl) (by kernel_rfl)
end Go.Proofs.YteonmabfhilcfaaGreatDoor.Tk
