/- Package sheet's Parse, at any text, proved by walking its text. Conditions: the library's variables hold what start-up lays. · What Parse answers at the chapter's examples: closed facts. -/
import Derived.Test.YteonmabfhilcfaaGreatDoorSheetPut
import Derived.Test.YteonmabfhilcfaaGreatDoorSheetRun
import Derived.Test.YteonmabfhilcfaaGreatDoorSheetOne
import Derived.Test.YteonmabfhilcfaaGreatDoorLexAllWalk
import Derived.Outline
import Derived.Deep.Cut
namespace Go.Proofs.YteonmabfhilcfaaGreatDoor.Sh
open Go.ChangeShapes Go.WideShapes Go.ChangeAt Go.RowKit
open Lx
set_option linter.unusedVariables false

/-- what Parse tells of a text -/
def parseT (s : ByteArray) : PR SheetM := match lexAll s with
  | .bad e l c => .bad e l c
  | .ok toks => parseM toks
theorem lexAll_good {s : ByteArray} {toks : List Tok} (h : lexAll s = .ok toks) : good false toks := by
  unfold lexAll at h
  split at h
  · cases h
  · exact lex_good _ _ _ _ _ h
theorem lex_err : ∀ (bs : List UInt8) (line col : Nat) (sm : Bool) (e l c : Nat), 1 ≤ line → 1 ≤ col → lex bs line col sm = .bad e l c → (e = 3 ∨ e = 7) ∧ 1 ≤ l ∧ 1 ≤ c := by
  intro bs
  have hcons : ∀ {t : Tok} {r : Res} {e l c : Nat}, r.cons t = .bad e l c → r = .bad e l c := by
    intro t r e l c h
    cases r with
    | bad e' l' c' => exact h
    | ok q => cases h
  induction bs using lex_induct with
  | nil => intro line col sm e l c _ _ h; rw [lex_nil] at h; cases h
  | nl c r hk ih =>
    intro line col sm e l c' h1 h2 h
    rw [lex_nl hk] at h
    cases sm with
    | true => rw [if_pos rfl] at h; exact ih _ _ _ _ _ _ (by omega) (by omega) (hcons h)
    | false => rw [if_neg (by decide)] at h; exact ih _ _ _ _ _ _ (by omega) (by omega) h
  | bl c r hk ih => intro line col sm e l c' h1 h2 h; rw [lex_bl hk] at h; exact ih _ _ _ _ _ _ h1 (by omega) h
  | hash c r hk ih => intro line col sm e l c' h1 h2 h; rw [lex_hash hk] at h; exact ih _ _ _ _ _ _ h1 (by omega) h
  | word c r hk ih =>
    intro line col sm e l c' h1 h2 h
    rw [lex_let hk] at h
    split at h
    · injection h with e1 e2 e3; omega
    · exact ih _ _ _ _ _ _ h1 (by omega) (hcons h)
  | num c r hk ih =>
    intro line col sm e l c' h1 h2 h
    rw [lex_dig hk] at h
    split at h
    · injection h with e1 e2 e3; omega
    · split at h
      · injection h with e1 e2 e3; omega
      · split at h
        · injection h with e1 e2 e3; omega
        · exact ih _ _ _ _ _ _ h1 (by omega) (hcons h)
  | bad c r hk =>
    intro line col sm e l c' h1 h2 h
    rw [lex_bad (bs := c :: r) hk] at h
    injection h with e1 e2 e3; omega
theorem lexAll_err {s : ByteArray} {e l c : Nat} (h : lexAll s = .bad e l c) : (e = 3 ∨ e = 7) ∧ 1 ≤ l ∧ 1 ≤ c := by
  unfold lexAll at h
  split at h
  · injection h with e1 e2 e3; omega
  · exact lex_err _ _ _ _ _ _ _ (by omega) (by omega) h
theorem lexAll_small {s : ByteArray} (h : s.size ≤ 65536) : lexAll s = lex s.data.toList 1 1 false := by unfold lexAll; rw [if_neg (by omega)]
def OkPost (w : World) (toks : List Tok) (e : Ending) (w' : World) : Prop :=
  ∃ A c, e = .returned (.tuple #[.slice A toks.length c, .agg #[.int .i64 0, .int .i64 0, .int .i64 0]]) ∧ toks.length ≤ 2 * 65536 ∧ Rd w' (fun b => w.heap.size ≤ b ∧ b < w'.heap.size) A (tc toks) ∧ Below w.heap.size w w'
def BadPost (w : World) (er l c : Nat) (e : Ending) (w' : World) : Prop :=
  e = .returned (.tuple #[.slice none 0 0, .agg #[.int .i64 er, .int .i64 l, .int .i64 c]]) ∧ Below w.heap.size w w'
theorem all_ok {s : ByteArray} {toks : List Tok} (h : lexAll s = .ok toks) (w : World) (hE : Tk.Env w) : Calls Tryz.prog 24 #[.string s] w (OkPost w toks) := by
  refine (all_any s w hE).mono ?_
  rw [h]
  rintro e w' (⟨er, l, c, hr, _⟩ | ⟨t, A, c, hr, he, h1, h2, h3, h4⟩)
  · cases hr
  · injection hr with hr
    subst hr
    exact ⟨A, c, he, h2, h3, h4⟩
theorem all_bad {s : ByteArray} {er l c : Nat} (h : lexAll s = .bad er l c) (w : World) (hE : Tk.Env w) : Calls Tryz.prog 24 #[.string s] w (BadPost w er l c) := by
  refine (all_any s w hE).mono ?_
  rw [h]
  rintro e w' (⟨er', l', c', hr, he, hb⟩ | ⟨t, A, c, hr, _⟩)
  · injection hr with h1 h2 h3
    subst h1; subst h2; subst h3
    exact ⟨he, hb⟩
  · cases hr
/-- the boxes of the named results -/
structure Boxes (w w1 : World) (n0 n1 : Nat) : Prop where
  k0 : Blk w1 n0 29 zSheet
  k1 : Blk w1 n1 32 [.int .i64 0, .int .i64 0, .int .i64 0]
  h0 : w.heap.size ≤ n0
  h01 : n0 < n1
  ht : n1 < w1.heap.size
  hb : Below w.heap.size w w1
theorem boxes_of {w w1 : World} (hb : Below ((w.alloc (.cells #[.int .i64 0, .slice none 0 0, .slice none 0 0, .slice none 0 0, .slice none 0 0, .slice none 0 0, .slice none 0 0] 29)).alloc (.cells #[.int .i64 0, .int .i64 0, .int .i64 0] 32)).heap.size ((w.alloc (.cells #[.int .i64 0, .slice none 0 0, .slice none 0 0, .slice none 0 0, .slice none 0 0, .slice none 0 0, .slice none 0 0] 29)).alloc (.cells #[.int .i64 0, .int .i64 0, .int .i64 0] 32)) w1) :
    Boxes w w1 w.heap.size (w.heap.size + 1) := by
  have k0 := ((Blk.new w 29 zSheet).alloc (.cells #[.int .i64 0, .int .i64 0, .int .i64 0] 32)).after hb
  have k1 := (Blk.new (w.alloc (.cells #[.int .i64 0, .slice none 0 0, .slice none 0 0, .slice none 0 0, .slice none 0 0, .slice none 0 0, .slice none 0 0] 29)) 32 [.int .i64 0, .int .i64 0, .int .i64 0]).after hb
  simp at k1
  exact ⟨k0, k1, Nat.le_refl _, by omega, k1.lt, keep_trans (two_box _ _ _) hb⟩
/-- reading the two results -/
theorem res_read {W : World} {n0 n1 : Nat} {a0 a1 a2 a3 a4 a5 a6 b0 b1 b2 : Value} {tmps : Array Value} (h2 : tmps[2]? = some (.pointer (some ⟨n0, 0, none⟩))) (h3 : tmps[3]? = some (.pointer (some ⟨n1, 0, none⟩)))
    (k0 : Blk W n0 29 [a0, a1, a2, a3, a4, a5, a6]) (k1 : Blk W n1 32 [b0, b1, b2]) :
    (results Tryz.f9 tmps).run Tryz.prog W = .ok (.tuple #[.agg #[a0, a1, a2, a3, a4, a5, a6], .agg #[b0, b1, b2]]) W := by
  have x0 : W.cell? ⟨n0, 0, none⟩ = some a0 := k0.cell 0
  have x1 : W.cell? ⟨n0, 1, none⟩ = some a1 := k0.cell 1
  have x2 : W.cell? ⟨n0, 2, none⟩ = some a2 := k0.cell 2
  have x3 : W.cell? ⟨n0, 3, none⟩ = some a3 := k0.cell 3
  have x4 : W.cell? ⟨n0, 4, none⟩ = some a4 := k0.cell 4
  have x5 : W.cell? ⟨n0, 5, none⟩ = some a5 := k0.cell 5
  have x6 : W.cell? ⟨n0, 6, none⟩ = some a6 := k0.cell 6
  have y0 : W.cell? ⟨n1, 0, none⟩ = some b0 := k1.cell 0
  have y1 : W.cell? ⟨n1, 1, none⟩ = some b1 := k1.cell 1
  have y2 : W.cell? ⟨n1, 2, none⟩ = some b2 := k1.cell 2
  simp [results, Tryz.results9, go_sem, h2, h3, x0, x1, x2, x3, x4, x5, x6, y0, y1, y2]
set_option maxRecDepth 100000 in
set_option maxHeartbeats 2000000 in
theorem parse_bad (s : ByteArray) (w : World) (hE : Tk.Env w) (e l c : Nat) (hl : lexAll s = .bad e l c) : Calls Tryz.prog 9 #[.string s] w (ParsePost w (.bad e l c)) := by
  have HA := Lib.hid (fun w' (h : Below w.heap.size w w') => all_bad hl w' (hE.on h))
  have he : ((e : Int) == 0) = false := by have := (lexAll_err hl).1; rw [beq_eq_false_iff_ne]; omega
  clear hE hl
  go_enter_defers Tryz.func9, Tryz.ntmps9
  go_wp2_with fail
  go_at_call 24
  refine (HA.out _ (two_box _ _ _)).mono ?_
  rintro e' w1 ⟨rfl, hb⟩
  have HBX := Lib.hid (boxes_of hb)
  obtain ⟨n0, hn0⟩ : ∃ n0, n0 = w.heap.size := ⟨_, rfl⟩
  obtain ⟨n1, hn1⟩ : ∃ n1, n1 = w.heap.size + 1 := ⟨_, rfl⟩
  rw [← hn1] at HBX
  rw [← hn0] at HBX
  have x0 : w1.cell? ⟨n0, 0, none⟩ = some (.int .i64 0) := HBX.out.k0.cell 0
  have x1 : w1.cell? ⟨n0, 1, none⟩ = some (.slice none 0 0) := HBX.out.k0.cell 1
  have x2 : w1.cell? ⟨n0, 2, none⟩ = some (.slice none 0 0) := HBX.out.k0.cell 2
  have x3 : w1.cell? ⟨n0, 3, none⟩ = some (.slice none 0 0) := HBX.out.k0.cell 3
  have x4 : w1.cell? ⟨n0, 4, none⟩ = some (.slice none 0 0) := HBX.out.k0.cell 4
  have x5 : w1.cell? ⟨n0, 5, none⟩ = some (.slice none 0 0) := HBX.out.k0.cell 5
  have x6 : w1.cell? ⟨n0, 6, none⟩ = some (.slice none 0 0) := HBX.out.k0.cell 6
  have y0 : w1.cell? ⟨n1, 0, none⟩ = some (.int .i64 0) := HBX.out.k1.cell 0
  have y1 : w1.cell? ⟨n1, 1, none⟩ = some (.int .i64 0) := HBX.out.k1.cell 1
  have y2 : w1.cell? ⟨n1, 2, none⟩ = some (.int .i64 0) := HBX.out.k1.cell 2
  have xf := HBX.out.k0.frozen
  have yf := HBX.out.k1.frozen
  have hne : n0 ≠ n1 := by have := HBX.out.h01; omega
  rw [← hn1]
  rw [← hn0]
  have HN0 := Lib.hid hn0
  clear hn0 hn1 hb HA
  go_wp2
  go_region
  all_goals
    go_wp2
    have hf := catch_fin (((w1.setCell ⟨n1, 0, none⟩ (.int .i64 e)).setCell ⟨n1, 1, none⟩ (.int .i64 l)).setCell ⟨n1, 2, none⟩ (.int .i64 c)) n0 n1 e l c ((ch_set3 w1 n1 (.int .i64 e) (.int .i64 l) (.int .i64 c)).blk HBX.out.k0 hne) (set3 HBX.out.k1 (.int .i64 e) (.int .i64 l) (.int .i64 c)) hne
    have hw : Ch (fun k => k = n0 ∨ k = n1) w1 _ := ((ch_set3 w1 n1 (.int .i64 e) (.int .i64 l) (.int .i64 c)).mono fun k _ h => .inr h).trans hf.2.2
    have hf0 := hf.1
    have hf1 := hf.2.1
    clear hf
    refine ⟨_, res_read (n0 := n0) (n1 := n1) rfl rfl hf0 hf1, rfl, ?_⟩
    exact HBX.out.hb.trans (hw.below (by have := HBX.out.hb.size; omega) fun k hk => by have := HBX.out.h0; have := HBX.out.h01; omega)
/-- a reader that is about to begin -/
def rdL (A : Option Addr) (n c : Nat) : List Value := [.slice A n c, .int .i64 0, .int .i64 0, .string ⟨#[]⟩, .int .i64 0, .int .i64 0, .int .i64 0, .int .i64 0, .slice none 0 0, .slice none 0 0, .slice none 0 0, .slice none 0 0, .slice none 0 0, .slice none 0 0]
structure Rdy (w : World) (B : Nat) (toks : List Tok) : Prop where
  ex : ∃ A c, Blk w B 72 (rdL A toks.length c) ∧ Rd w (· < B) A (tc toks)
  few : toks.length ≤ 131072
theorem Rdy.srdr {w : World} {B : Nat} {toks : List Tok} (h : Rdy w B toks) (hE : EndL toks) : SRdr w B toks emptyM ⟨0, [], 0, 0, 0⟩ toks := by
  obtain ⟨⟨A, c, hb, hr⟩, hf⟩ := h
  exact ⟨_, _, _, _, _, _, ⟨A, c, 0, hb, rfl, Nat.zero_le _, hf, hE, hr⟩, ⟨World.ownsRow_nil _ _ _ _, World.ownsRow_nil _ _ _ _, World.ownsRow_nil _ _ _ _, ⟨[], World.ownsRow_nil _ _ _ _, rfl⟩, World.ownsRow_nil _ _ _ _, World.ownsRow_nil _ _ _ _, by simp [emptyM], by simp [emptyM], by simp [emptyM], by simp [emptyM], by simp [emptyM], by simp [emptyM]⟩⟩
set_option maxRecDepth 100000 in
set_option maxHeartbeats 1000000 in
theorem lines_none {w : World} {B : Nat} (h : Rdy w B []) : Calls Tryz.prog 26 #[.pointer (some ⟨B, 0, none⟩)] w fun e w' => e = .panicked (gave 7 1 1) ∧ Below B w w' := by
  obtain ⟨⟨A, c, hb, hr⟩, hf⟩ := h
  have b0 : w.cell? ⟨B, 0, none⟩ = some (.slice A 0 c) := hb.cell 0
  have HR := Lib.hid (fun w' => refuse_any (.pointer (some ⟨B, 0, none⟩)) 7 ⟨0, [], 0, 1, 1⟩ w')
  have HL := Lib.hid hb.lt
  clear hb hr hf
  go_enter Tryz.func26, Tryz.ntmps26
  go_wp2_with (go_at_call 57; refine (HR.out _).mono ?_; rintro e w1 ⟨rfl, hb⟩)
  exact ⟨rfl, rfl, hb.mono (Nat.le_of_lt HL.out)⟩
theorem lines_bad {w : World} {B : Nat} {toks : List Tok} (h : Rdy w B toks) (hg : good false toks) {er l c : Int} (hp : parseM toks = .bad er l c) : Calls Tryz.prog 26 #[.pointer (some ⟨B, 0, none⟩)] w fun e w' => e = .panicked (gave er l c) ∧ Below B w w' := by
  rcases good_end hg with ⟨rfl, _⟩ | hE
  · have : (PR.bad 7 1 1 : PR SheetM) = .bad er l c := hp
    injection this with h1 h2 h3
    subst h1; subst h2; subst h3
    exact lines_none h
  · refine (run_any (h.srdr hE) hE (good_endT hg)).mono ?_
    rw [hp]
    rintro e w' ⟨rfl, hu⟩
    exact ⟨rfl, hu.below⟩
theorem lines_ok {w : World} {B : Nat} {toks : List Tok} (h : Rdy w B toks) (hg : good false toks) {x : SheetM} {r : List Tok} (hp : parseM toks = .ok x r) : Calls Tryz.prog 26 #[.pointer (some ⟨B, 0, none⟩)] w fun e w' => e = .returned (.tuple #[]) ∧ (∃ first r, SRdr w' B toks x first r) ∧ Below B w w' := by
  rcases good_end hg with ⟨rfl, _⟩ | hE
  · have : (PR.bad 7 1 1 : PR SheetM) = .ok x r := hp
    cases this
  · refine (run_any (h.srdr hE) hE (good_endT hg)).mono ?_
    rw [hp]
    rintro e w' ⟨rfl, hs, hu⟩
    exact ⟨rfl, hs, hu.below⟩
/-- the world in which the lines are read -/
structure Ready (w W : World) (n0 n1 B : Nat) (toks : List Tok) : Prop where
  k0 : Blk W n0 29 zSheet
  k1 : Blk W n1 32 [.int .i64 0, .int .i64 0, .int .i64 0]
  h0 : w.heap.size ≤ n0
  h01 : n0 < n1
  ht : n1 < B
  hb : Below w.heap.size w W
  rdy : Rdy W B toks
theorem ready_of {w w1 : World} {n0 n1 : Nat} {toks : List Tok} {A : Option Addr} {c : Nat} (h : Boxes w w1 n0 n1) (hr : Rd w1 (· < w1.heap.size) A (tc toks)) (hl : toks.length ≤ 131072)
    (hab : Rd w1 (fun b => n1 < b ∧ b < w1.heap.size) A (tc toks)) :
    Ready w ((((w1.setCell ⟨n1, 0, none⟩ (.int .i64 0)).setCell ⟨n1, 1, none⟩ (.int .i64 0)).setCell ⟨n1, 2, none⟩ (.int .i64 0)).alloc (.cells (rdL A toks.length c).toArray 72)) n0 n1 w1.heap.size toks := by
  have hne : n0 ≠ n1 := by have := h.h01; omega
  have hc := ch_set3 w1 n1 (.int .i64 0) (.int .i64 0) (.int .i64 0)
  have k1 := set3 h.k1 (.int .i64 0) (.int .i64 0) (.int .i64 0)
  have k0 := hc.blk h.k0 hne
  have hz : (((w1.setCell ⟨n1, 0, none⟩ (.int .i64 0)).setCell ⟨n1, 1, none⟩ (.int .i64 0)).setCell ⟨n1, 2, none⟩ (.int .i64 0)).heap.size = w1.heap.size := by simp [World.setCell]
  generalize ((w1.setCell ⟨n1, 0, none⟩ (.int .i64 0)).setCell ⟨n1, 1, none⟩ (.int .i64 0)).setCell ⟨n1, 2, none⟩ (.int .i64 0) = W at hc k1 k0 hz ⊢
  have hnew := Blk.new W 72 (rdL A toks.length c)
  rw [hz] at hnew
  refine ⟨k0.alloc _, k1.alloc _, h.h0, h.h01, h.ht, ?_, ⟨⟨A, c, hnew, ?_⟩, hl⟩⟩
  · exact (h.hb.trans (hc.below (by have := h.hb.size; omega) fun k hk => by have := h.h0; have := h.h01; omega)).alloc (by rw [hz]; exact h.hb.size) _
  · exact ((hc.rd hab fun b hb => ⟨hb.2, by omega⟩).more fun b hb => hb.2).keep fun b hb => Below.heap_alloc _ _ _ (by rw [hz]; exact hb)
set_option maxRecDepth 100000 in
set_option maxHeartbeats 2000000 in
theorem parse_panic (s : ByteArray) (w : World) (hE : Tk.Env w) (toks : List Tok) (hl : lexAll s = .ok toks) (er l c : Int) (hp : parseM toks = .bad er l c) : Calls Tryz.prog 9 #[.string s] w (ParsePost w (.bad er l c)) := by
  have HA := Lib.hid (fun w' (h : Below w.heap.size w w') => all_ok hl w' (hE.on h))
  have HL := Lib.hid (fun w' B (h : Rdy w' B toks) => lines_bad h (lexAll_good hl) hp)
  have hmf : ∀ (fn : Fn) (first cap : Array Value) (w : World), (Instr.makeFunc fn first cap).run Tryz.prog w = .ok (.func fn first cap) w := fun _ _ _ _ => rfl
  clear hE hl hp
  go_enter_defers Tryz.func9, Tryz.ntmps9
  go_wp2_with fail
  go_at_call 24
  refine (HA.out _ (two_box _ _ _)).mono ?_
  rintro e' w1 ⟨A, cc, rfl, hlen, hrd, hb⟩
  have HBX := Lib.hid (boxes_of hb)
  have HRD : Hid (Rd w1 (fun b => w.heap.size + 1 < b ∧ b < w1.heap.size) A (tc toks)) := Lib.hid (hrd.more fun b hb => by simp at hb; omega)
  obtain ⟨n0, hn0⟩ : ∃ n0, n0 = w.heap.size := ⟨_, rfl⟩
  obtain ⟨n1, hn1⟩ : ∃ n1, n1 = w.heap.size + 1 := ⟨_, rfl⟩
  rw [← hn1] at HBX HRD
  rw [← hn0] at HBX
  dsimp only
  have x0 : w1.cell? ⟨n0, 0, none⟩ = some (.int .i64 0) := HBX.out.k0.cell 0
  have x1 : w1.cell? ⟨n0, 1, none⟩ = some (.slice none 0 0) := HBX.out.k0.cell 1
  have x2 : w1.cell? ⟨n0, 2, none⟩ = some (.slice none 0 0) := HBX.out.k0.cell 2
  have x3 : w1.cell? ⟨n0, 3, none⟩ = some (.slice none 0 0) := HBX.out.k0.cell 3
  have x4 : w1.cell? ⟨n0, 4, none⟩ = some (.slice none 0 0) := HBX.out.k0.cell 4
  have x5 : w1.cell? ⟨n0, 5, none⟩ = some (.slice none 0 0) := HBX.out.k0.cell 5
  have x6 : w1.cell? ⟨n0, 6, none⟩ = some (.slice none 0 0) := HBX.out.k0.cell 6
  have y0 : w1.cell? ⟨n1, 0, none⟩ = some (.int .i64 0) := HBX.out.k1.cell 0
  have y1 : w1.cell? ⟨n1, 1, none⟩ = some (.int .i64 0) := HBX.out.k1.cell 1
  have y2 : w1.cell? ⟨n1, 2, none⟩ = some (.int .i64 0) := HBX.out.k1.cell 2
  have xf := HBX.out.k0.frozen
  have yf := HBX.out.k1.frozen
  have hne : n0 ≠ n1 := by have := HBX.out.h01; omega
  have hnt : n1 < w1.heap.size := HBX.out.ht
  have HLEN := Lib.hid hlen
  rw [← hn1]
  rw [← hn0]
  have HN0 := Lib.hid hn0
  clear hn0 hn1 hb HA hrd hlen
  go_upto_region 6 with (fail)
  have HRY := Lib.hid (ready_of (c := cc) HBX.out (HRD.out.more fun b hb => hb.2) (by have := HLEN.out; omega) HRD.out)
  dsimp only [rdL] at HRY
  clear x0 x1 x2 x3 x4 x5 x6 y0 y1 y2 xf yf hnt HBX HRD HLEN
  generalize (((w1.setCell ⟨n1, 0, none⟩ (.int .i64 0)).setCell ⟨n1, 1, none⟩ (.int .i64 0)).setCell ⟨n1, 2, none⟩ (.int .i64 0)).alloc (.cells #[.slice A toks.length cc, .int .i64 0, .int .i64 0, .string ⟨#[]⟩, .int .i64 0, .int .i64 0, .int .i64 0, .int .i64 0, .slice none 0 0, .slice none 0 0, .slice none 0 0, .slice none 0 0, .slice none 0 0, .slice none 0 0] 72) = W2 at HRY ⊢
  generalize w1.heap.size = B at HRY ⊢
  go_wp2_with (go_at_call 26; refine (HL.out _ _ HRY.out.rdy).mono ?_; rintro e w3 ⟨rfl, hb3⟩)
  have k0 := HRY.out.k0.below hb3 (by have := HRY.out.h01; have := HRY.out.ht; omega)
  have k1 := HRY.out.k1.below hb3 HRY.out.ht
  have hbb : Below w.heap.size w w3 := HRY.out.hb.trans (hb3.mono (by have := HRY.out.h0; have := HRY.out.h01; have := HRY.out.ht; omega))
  refine leaves_cons (f := 25) (args := #[.pointer (some ⟨n0, 0, none⟩), .pointer (some ⟨n1, 0, none⟩)]) (by simp) (by simp [go_sem]) ?_
  refine (catch_panicking w3 n0 n1 zSheet [.int .i64 0, .int .i64 0, .int .i64 0] er l c k0 k1 rfl rfl hne).mono ?_
  rintro e u' w4 ⟨rfl, rfl, q0, q1, hch⟩
  refine ⟨_, res_read (n0 := n0) (n1 := n1) rfl rfl q0 q1, rfl, ?_⟩
  exact hbb.trans (hch.below hbb.size fun k hk => by have := HRY.out.h0; have := HRY.out.h01; omega)
set_option maxRecDepth 100000 in
set_option maxHeartbeats 2000000 in
theorem parse_good (s : ByteArray) (w : World) (hE : Tk.Env w) (toks : List Tok) (hl : lexAll s = .ok toks) (x : SheetM) (r : List Tok) (hp : parseM toks = .ok x r) : Calls Tryz.prog 9 #[.string s] w (ParsePost w (.ok x r)) := by
  have HA := Lib.hid (fun w' (h : Below w.heap.size w w') => all_ok hl w' (hE.on h))
  have HL := Lib.hid (fun w' B (h : Rdy w' B toks) => lines_ok h (lexAll_good hl) hp)
  have hmf : ∀ (fn : Fn) (first cap : Array Value) (w : World), (Instr.makeFunc fn first cap).run Tryz.prog w = .ok (.func fn first cap) w := fun _ _ _ _ => rfl
  clear hE hl hp
  go_enter_defers Tryz.func9, Tryz.ntmps9
  go_wp2_with fail
  go_at_call 24
  refine (HA.out _ (two_box _ _ _)).mono ?_
  rintro e' w1 ⟨A, cc, rfl, hlen, hrd, hb⟩
  have HBX := Lib.hid (boxes_of hb)
  have HRD : Hid (Rd w1 (fun b => w.heap.size + 1 < b ∧ b < w1.heap.size) A (tc toks)) := Lib.hid (hrd.more fun b hb => by simp at hb; omega)
  obtain ⟨n0, hn0⟩ : ∃ n0, n0 = w.heap.size := ⟨_, rfl⟩
  obtain ⟨n1, hn1⟩ : ∃ n1, n1 = w.heap.size + 1 := ⟨_, rfl⟩
  rw [← hn1] at HBX HRD
  rw [← hn0] at HBX
  dsimp only
  have x0 : w1.cell? ⟨n0, 0, none⟩ = some (.int .i64 0) := HBX.out.k0.cell 0
  have x1 : w1.cell? ⟨n0, 1, none⟩ = some (.slice none 0 0) := HBX.out.k0.cell 1
  have x2 : w1.cell? ⟨n0, 2, none⟩ = some (.slice none 0 0) := HBX.out.k0.cell 2
  have x3 : w1.cell? ⟨n0, 3, none⟩ = some (.slice none 0 0) := HBX.out.k0.cell 3
  have x4 : w1.cell? ⟨n0, 4, none⟩ = some (.slice none 0 0) := HBX.out.k0.cell 4
  have x5 : w1.cell? ⟨n0, 5, none⟩ = some (.slice none 0 0) := HBX.out.k0.cell 5
  have x6 : w1.cell? ⟨n0, 6, none⟩ = some (.slice none 0 0) := HBX.out.k0.cell 6
  have y0 : w1.cell? ⟨n1, 0, none⟩ = some (.int .i64 0) := HBX.out.k1.cell 0
  have y1 : w1.cell? ⟨n1, 1, none⟩ = some (.int .i64 0) := HBX.out.k1.cell 1
  have y2 : w1.cell? ⟨n1, 2, none⟩ = some (.int .i64 0) := HBX.out.k1.cell 2
  have xf := HBX.out.k0.frozen
  have yf := HBX.out.k1.frozen
  have hne : n0 ≠ n1 := by have := HBX.out.h01; omega
  have hnt : n1 < w1.heap.size := HBX.out.ht
  have HLEN := Lib.hid hlen
  rw [← hn1]
  rw [← hn0]
  have HN0 := Lib.hid hn0
  clear hn0 hn1 hb HA hrd hlen
  go_upto_region 6 with (fail)
  have HRY := Lib.hid (ready_of (c := cc) HBX.out (HRD.out.more fun b hb => hb.2) (by have := HLEN.out; omega) HRD.out)
  dsimp only [rdL] at HRY
  clear x0 x1 x2 x3 x4 x5 x6 y0 y1 y2 xf yf hnt HBX HRD HLEN
  generalize (((w1.setCell ⟨n1, 0, none⟩ (.int .i64 0)).setCell ⟨n1, 1, none⟩ (.int .i64 0)).setCell ⟨n1, 2, none⟩ (.int .i64 0)).alloc (.cells #[.slice A toks.length cc, .int .i64 0, .int .i64 0, .string ⟨#[]⟩, .int .i64 0, .int .i64 0, .int .i64 0, .int .i64 0, .slice none 0 0, .slice none 0 0, .slice none 0 0, .slice none 0 0, .slice none 0 0, .slice none 0 0] 72) = W2 at HRY ⊢
  generalize w1.heap.size = B at HRY ⊢
  go_wp2_with fail
  go_at_call 26
  refine (HL.out _ _ HRY.out.rdy).mono ?_
  rintro e w3 ⟨rfl, ⟨first, r', v1, v2, v3, v4, v5, v6, hc, hs⟩, hb3⟩
  have k0 := HRY.out.k0.below hb3 (by have := HRY.out.h01; have := HRY.out.ht; omega)
  have k1 := HRY.out.k1.below hb3 HRY.out.ht
  have hbb : Below w.heap.size w w3 := HRY.out.hb.trans (hb3.mono (by have := HRY.out.h0; have := HRY.out.h01; have := HRY.out.ht; omega))
  obtain ⟨p, rfl, rfl, rfl, rfl, rfl, rfl, hsh, hcap⟩ := hs.sh
  have r7 : w3.cell? ⟨B, 7, none⟩ = some (.int .i64 x.horizon) := hc.cell 5
  have r8 : w3.cell? ⟨B, 8, none⟩ = some (.slice p.a1 x.stops.length p.c1) := hc.cell 6
  have r9 : w3.cell? ⟨B, 9, none⟩ = some (.slice p.a2 x.paths.length p.c2) := hc.cell 7
  have r10 : w3.cell? ⟨B, 10, none⟩ = some (.slice p.a3 x.doors.length p.c3) := hc.cell 8
  have r11 : w3.cell? ⟨B, 11, none⟩ = some (.slice p.a4 x.routes.length p.c4) := hc.cell 9
  have r12 : w3.cell? ⟨B, 12, none⟩ = some (.slice p.a5 x.trips.length p.c5) := hc.cell 10
  have r13 : w3.cell? ⟨B, 13, none⟩ = some (.slice p.a6 x.hazards.length p.c6) := hc.cell 11
  have x0 : w3.cell? ⟨n0, 0, none⟩ = some (.int .i64 0) := k0.cell 0
  have x1 : w3.cell? ⟨n0, 1, none⟩ = some (.slice none 0 0) := k0.cell 1
  have x2 : w3.cell? ⟨n0, 2, none⟩ = some (.slice none 0 0) := k0.cell 2
  have x3 : w3.cell? ⟨n0, 3, none⟩ = some (.slice none 0 0) := k0.cell 3
  have x4 : w3.cell? ⟨n0, 4, none⟩ = some (.slice none 0 0) := k0.cell 4
  have x5 : w3.cell? ⟨n0, 5, none⟩ = some (.slice none 0 0) := k0.cell 5
  have x6 : w3.cell? ⟨n0, 6, none⟩ = some (.slice none 0 0) := k0.cell 6
  have y0 : w3.cell? ⟨n1, 0, none⟩ = some (.int .i64 0) := k1.cell 0
  have y1 : w3.cell? ⟨n1, 1, none⟩ = some (.int .i64 0) := k1.cell 1
  have y2 : w3.cell? ⟨n1, 2, none⟩ = some (.int .i64 0) := k1.cell 2
  have xf := k0.frozen
  have yf := k1.frozen
  have HK0 := Lib.hid k0
  have HK1 := Lib.hid k1
  have HBB := Lib.hid hbb
  have HSH := Lib.hid hsh
  have HCAP := Lib.hid hcap
  have hnB : n1 < B := HRY.out.ht
  have hn01 : n0 < n1 := HRY.out.h01
  clear k0 k1 hbb hsh hb3 hs hc hcap
  go_wp2
  have q0 := set7 HK0.out (.int .i64 x.horizon) (.slice p.a1 x.stops.length p.c1) (.slice p.a2 x.paths.length p.c2) (.slice p.a3 x.doors.length p.c3) (.slice p.a4 x.routes.length p.c4) (.slice p.a5 x.trips.length p.c5) (.slice p.a6 x.hazards.length p.c6)
  have d0 := ch_set7 w3 n0 (.int .i64 x.horizon) (.slice p.a1 x.stops.length p.c1) (.slice p.a2 x.paths.length p.c2) (.slice p.a3 x.doors.length p.c3) (.slice p.a4 x.routes.length p.c4) (.slice p.a5 x.trips.length p.c5) (.slice p.a6 x.hazards.length p.c6)
  have z0 : ((((((((w3.setCell ⟨n0, 0, none⟩ (.int .i64 x.horizon)).setCell ⟨n0, 1, none⟩ (.slice p.a1 x.stops.length p.c1)).setCell ⟨n0, 2, none⟩ (.slice p.a2 x.paths.length p.c2)).setCell ⟨n0, 3, none⟩ (.slice p.a3 x.doors.length p.c3)).setCell ⟨n0, 4, none⟩ (.slice p.a4 x.routes.length p.c4)).setCell ⟨n0, 5, none⟩ (.slice p.a5 x.trips.length p.c5)).setCell ⟨n0, 6, none⟩ (.slice p.a6 x.hazards.length p.c6))).heap.size = w3.heap.size := by simp [World.setCell]
  generalize ((((((w3.setCell ⟨n0, 0, none⟩ (.int .i64 x.horizon)).setCell ⟨n0, 1, none⟩ (.slice p.a1 x.stops.length p.c1)).setCell ⟨n0, 2, none⟩ (.slice p.a2 x.paths.length p.c2)).setCell ⟨n0, 3, none⟩ (.slice p.a3 x.doors.length p.c3)).setCell ⟨n0, 4, none⟩ (.slice p.a4 x.routes.length p.c4)).setCell ⟨n0, 5, none⟩ (.slice p.a5 x.trips.length p.c5)).setCell ⟨n0, 6, none⟩ (.slice p.a6 x.hazards.length p.c6) = W4 at q0 d0 z0 ⊢
  have q1 := set3 (d0.blk HK1.out (Ne.symm hne)) (.int .i64 0) (.int .i64 0) (.int .i64 0)
  have d1 := ch_set3 W4 n1 (.int .i64 0) (.int .i64 0) (.int .i64 0)
  have q0' := d1.blk q0 hne
  have z1 : (((W4.setCell ⟨n1, 0, none⟩ (.int .i64 0)).setCell ⟨n1, 1, none⟩ (.int .i64 0)).setCell ⟨n1, 2, none⟩ (.int .i64 0)).heap.size = W4.heap.size := by simp [World.setCell]
  generalize ((W4.setCell ⟨n1, 0, none⟩ (.int .i64 0)).setCell ⟨n1, 1, none⟩ (.int .i64 0)).setCell ⟨n1, 2, none⟩ (.int .i64 0) = W5 at q1 d1 q0' z1 ⊢
  have hch : Ch (fun k => k = n0 ∨ k = n1) w3 W5 := (d0.mono fun _ _ e => .inl e : Ch (fun k => k = n0 ∨ k = n1) w3 W4).trans (d1.mono fun _ _ e => .inr e)
  refine leaves_cons (f := 25) (args := #[.pointer (some ⟨n0, 0, none⟩), .pointer (some ⟨n1, 0, none⟩)]) (by simp) (by simp [go_sem]) ?_
  refine (catch_idle _ _ _).mono ?_
  rintro e u' w6 ⟨rfl, rfl, rfl⟩
  refine ⟨_, res_read (n0 := n0) (n1 := n1) rfl rfl q0' q1, p, HCAP.out, rfl, ?_, ?_⟩
  · refine (HSH.out.keep fun b hb => hch.block b hb.2 (by have := hb.1; omega)).more fun b hb => ⟨?_, by rw [z1, z0]; exact hb.2⟩
    have := HRY.out.h0
    have := hb.1
    omega
  · exact HBB.out.trans (hch.below HBB.out.size fun k hk => by have := HRY.out.h0; omega)
theorem parse_any (s : ByteArray) (w : World) (hE : Tk.Env w) : Calls Tryz.prog 9 #[.string s] w (ParsePost w (parseT s)) := by
  unfold parseT
  cases hl : lexAll s with
  | bad e l c => exact parse_bad s w hE e l c hl
  | ok toks =>
    dsimp only
    cases hp : parseM toks with
    | bad er l c => exact parse_panic s w hE toks hl er l c hp
    | ok x r => exact parse_good s w hE toks hl x r hp
end Go.Proofs.YteonmabfhilcfaaGreatDoor.Sh
namespace Go.Proofs.YteonmabfhilcfaaGreatDoor.Sh
open Go.ChangeShapes Go.WideShapes Go.ChangeAt Go.RowKit
open Lx
set_option linter.unusedVariables false
theorem parse_ok {s : ByteArray} {x : SheetM} {r : List Tok} (h : parseT s = .ok x r) (w : World) (hE : Tk.Env w) : Calls Tryz.prog 9 #[.string s] w (ParsePost w (.ok x r)) := h ▸ parse_any s w hE
theorem parse_no {s : ByteArray} {e l c : Int} (h : parseT s = .bad e l c) (w : World) (hE : Tk.Env w) : Calls Tryz.prog 9 #[.string s] w (ParsePost w (.bad e l c)) := h ▸ parse_any s w hE
set_option maxRecDepth 100000
theorem n1 : parseT ⟨#[104, 111, 114, 105, 122, 111, 110, 32, 57, 10, 115, 116, 111, 112, 32, 97, 10]⟩ = .ok ⟨9, [[97]], [], [], [], [], []⟩ [] := by kernel_rfl
theorem n2 : parseT ⟨#[104, 111, 114, 105, 122, 111, 110, 32, 57, 10, 114, 111, 117, 116, 101, 32, 114, 32, 97, 32, 53, 32, 98, 32, 115, 116, 97, 121, 32, 50, 32, 51, 32, 99, 10]⟩ = .ok ⟨9, [], [], [], [⟨[114], [[97], [98], [99]], [5, 3], [2]⟩], [], []⟩ [] := by kernel_rfl
theorem n3 : parseT ⟨#[115, 116, 111, 112, 32, 97]⟩ = .bad 7 1 1 := by kernel_rfl
theorem n4 : parseT ⟨#[]⟩ = .bad 7 1 1 := by kernel_rfl
theorem n5 : parseT ⟨#[104, 111, 114, 105, 122, 111, 110, 32, 57, 10, 104, 111, 114, 105, 122, 111, 110, 32, 57]⟩ = .bad 7 2 1 := by kernel_rfl
theorem n6 : parseT ⟨#[104, 111, 114, 105, 122, 111, 110, 32, 57, 10, 115, 116, 111, 112]⟩ = .bad 7 2 5 := by kernel_rfl
theorem n7 : parseT ⟨#[104, 111, 114, 105, 122, 111, 110, 32, 57, 10, 114, 111, 117, 116, 101, 32, 114, 32, 97, 32, 53, 32, 98, 32, 115, 116, 97, 121, 32, 50]⟩ = .bad 7 2 21 := by kernel_rfl
theorem n8 : parseT ⟨#[104, 111, 114, 105, 122, 111, 110, 32, 57, 10, 112, 97, 116, 104, 32, 112, 32, 97, 32, 98, 32, 51, 32, 52]⟩ = .bad 7 2 14 := by kernel_rfl
theorem n9 : parseT ⟨#[104, 111, 114, 105, 122, 111, 110, 32, 57, 32, 35, 32, 110, 105, 110, 101, 10, 10, 100, 111, 111, 114, 32, 100, 32, 97, 32, 98, 32, 51, 32, 102, 114, 111, 109, 32, 49, 32, 101, 118, 101, 114, 121, 32, 48, 32, 111, 112, 101, 110, 32, 50, 10, 116, 114, 105, 112, 32, 116, 32, 111, 102, 32, 114, 32, 102, 114, 111, 109, 32, 49, 32, 101, 118, 101, 114, 121, 32, 50, 32, 117, 110, 116, 105, 108, 32, 51, 10, 104, 97, 122, 97, 114, 100, 32, 104, 32, 111, 110, 32, 97, 32, 102, 114, 111, 109, 32, 52, 32, 101, 118, 101, 114, 121, 32, 53, 32, 99, 108, 111, 115, 101, 100, 32, 53]⟩ = .ok ⟨9, [], [], [⟨[100], [97], [98], 3, ⟨1, 0, 2⟩⟩], [], [⟨[116], [114], 1, 2, 3⟩], [⟨[104], [97], ⟨4, 5, 5⟩⟩]⟩ [] := by kernel_rfl
end Go.Proofs.YteonmabfhilcfaaGreatDoor.Sh
