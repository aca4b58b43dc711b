/- Package sheet's Parse, at any text, proved by walking its text. Conditions: the library's variables hold what start-up lays. · What Parse answers at the chapter's examples: closed facts. -/
import Derived.Test.YtcmlmfcnbmpajaaGreatDoorSheetPut
import Derived.Test.YtcmlmfcnbmpajaaGreatDoorSheetRun
import Derived.Test.YtcmlmfcnbmpajaaGreatDoorSheetOne
import Derived.Test.YtcmlmfcnbmpajaaGreatDoorLexAllWalk
import Derived.Outline
import Derived.Deep.Cut
namespace Go.Proofs.YtcmlmfcnbmpajaaGreatDoor.Sh
open Go.ChangeShapes Go.WideShapes Go.ChangeAt Go.RowKit
open Lx
set_option linter.unusedVariables false

/-- what Parse tells of a text -/
def parseT (s : ByteArray) : PR SheetM := match lexAll s with
  | .bad e l c => .bad e l c
  | .ok toks => parseM toks
theorem lexAll_good {s : ByteArray} {toks : List Tok} (h : lexAll s = .ok toks) : good false toks := by
  unfold lexAll at h
  split at h
  · cases h
  · exact lex_good _ _ _ _ _ h
theorem lex_err : ∀ (bs : List UInt8) (line col : Nat) (sm : Bool) (e l c : Nat), 1 ≤ line → 1 ≤ col → lex bs line col sm = .bad e l c → (e = 3 ∨ e = 7) ∧ 1 ≤ l ∧ 1 ≤ c := by
  intro bs
  have hcons : ∀ {t : Tok} {r : Res} {e l c : Nat}, r.cons t = .bad e l c → r = .bad e l c := by
    intro t r e l c h
    cases r with
    | bad e' l' c' => exact h
    | ok q => cases h
  induction bs using lex_induct with
  | nil => intro line col sm e l c _ _ h; rw [lex_nil] at h; cases h
  | nl c r hk ih =>
    intro line col sm e l c' h1 h2 h
    rw [lex_nl hk] at h
    cases sm with
    | true => rw [if_pos rfl] at h; exact ih _ _ _ _ _ _ (by omega) (by omega) (hcons h)
    | false => rw [if_neg (by decide)] at h; exact ih _ _ _ _ _ _ (by omega) (by omega) h
  | bl c r hk ih => intro line col sm e l c' h1 h2 h; rw [lex_bl hk] at h; exact ih _ _ _ _ _ _ h1 (by omega) h
  | hash c r hk ih => intro line col sm e l c' h1 h2 h; rw [lex_hash hk] at h; exact ih _ _ _ _ _ _ h1 (by omega) h
  | word c r hk ih =>
    intro line col sm e l c' h1 h2 h
    rw [lex_let hk] at h
    split at h
    · injection h with e1 e2 e3; omega
    · exact ih _ _ _ _ _ _ h1 (by omega) (hcons h)
  | num c r hk ih =>
    intro line col sm e l c' h1 h2 h
    rw [lex_dig hk] at h
    split at h
    · injection h with e1 e2 e3; omega
    · split at h
      · injection h with e1 e2 e3; omega
      · split at h
        · injection h with e1 e2 e3; omega
        · exact ih _ _ _ _ _ _ h1 (by omega) (hcons h)
  | bad c r hk =>
    intro line col sm e l c' h1 h2 h
    rw [lex_bad (bs := c :: r) hk] at h
    injection h with e1 e2 e3; omega
theorem lexAll_err {s : ByteArray} {e l c : Nat} (h : lexAll s = .bad e l c) : (e = 3 ∨ e = 7) ∧ 1 ≤ l ∧ 1 ≤ c := by
  unfold lexAll at h
  split at h
  · injection h with e1 e2 e3; omega
  · exact lex_err _ _ _ _ _ _ _ (by omega) (by omega) h
theorem lexAll_small {s : ByteArray} (h : s.size ≤ 65536) : lexAll s = lex s.data.toList 1 1 false := by unfold lexAll; rw [if_neg (by omega)]
def OkPost (w : World) (toks : List Tok) (e : Ending) (w' : World) : Prop :=
  ∃ A c, e = .returned (.tuple #[.slice A toks.length c, .agg #[.int .i64 0, .int .i64 0, .int .i64 0]]) ∧ toks.length ≤ 2 * 65536 ∧ Rd w' (fun b => w.heap.size ≤ b ∧ b < w'.heap.size) A (tc toks) ∧ Below w.heap.size w w'
def BadPost (w : World) (er l c : Nat) (e : Ending) (w' : World) : Prop :=
  e = .returned (.tuple #[.slice none 0 0, .agg #[.int .i64 er, .int .i64 l, .int .i64 c]]) ∧ Below w.heap.size w w'
/-- the boxes of the named results -/
structure Boxes (w w1 : World) (n0 n1 : Nat) : Prop where
  k0 : Blk w1 n0 29 zSheet
  k1 : Blk w1 n1 61 [.int .i64 0, .int .i64 0, .int .i64 0]
  h0 : w.heap.size ≤ n0
  h01 : n0 < n1
  ht : n1 < w1.heap.size
  hb : Below w.heap.size w w1
theorem boxes_of {w w1 : World} (hb : Below ((w.alloc (.cells #[.int .i64 0, .slice none 0 0, .slice none 0 0, .slice none 0 0, .slice none 0 0, .slice none 0 0, .slice none 0 0] 29)).alloc (.cells #[.int .i64 0, .int .i64 0, .int .i64 0] 61)).heap.size ((w.alloc (.cells #[.int .i64 0, .slice none 0 0, .slice none 0 0, .slice none 0 0, .slice none 0 0, .slice none 0 0, .slice none 0 0] 29)).alloc (.cells #[.int .i64 0, .int .i64 0, .int .i64 0] 61)) w1) :
    Boxes w w1 w.heap.size (w.heap.size + 1) := by
  have k0 := ((Blk.new w 29 zSheet).alloc (.cells #[.int .i64 0, .int .i64 0, .int .i64 0] 61)).after hb
  have k1 := (Blk.new (w.alloc (.cells #[.int .i64 0, .slice none 0 0, .slice none 0 0, .slice none 0 0, .slice none 0 0, .slice none 0 0, .slice none 0 0] 29)) 61 [.int .i64 0, .int .i64 0, .int .i64 0]).after hb
  simp at k1
  exact ⟨k0, k1, Nat.le_refl _, by omega, k1.lt, keep_trans (two_box _ _ _) hb⟩
/-- a reader that is about to begin -/
def rdL (A : Option Addr) (n c : Nat) : List Value := [.slice A n c, .int .i64 0, .int .i64 0, .string ⟨#[]⟩, .int .i64 0, .int .i64 0, .int .i64 0, .int .i64 0, .slice none 0 0, .slice none 0 0, .slice none 0 0, .slice none 0 0, .slice none 0 0, .slice none 0 0]
end Go.Proofs.YtcmlmfcnbmpajaaGreatDoor.Sh
namespace Go.Proofs.YtcmlmfcnbmpajaaGreatDoor.Sh
open Go.ChangeShapes Go.WideShapes Go.ChangeAt Go.RowKit
open Lx
set_option linter.unusedVariables false
set_option maxRecDepth 100000
theorem n1 : parseT ⟨#[104, 111, 114, 105, 122, 111, 110, 32, 57, 10, 115, 116, 111, 112, 32, 97, 10]⟩ = .ok ⟨9, [[97]], [], [], [], [], []⟩ [] := by kernel_rfl
theorem n2 : parseT ⟨#[104, 111, 114, 105, 122, 111, 110, 32, 57, 10, 114, 111, 117, 116, 101, 32, 114, 32, 97, 32, 53, 32, 98, 32, 115, 116, 97, 121, 32, 50, 32, 51, 32, 99, 10]⟩ = .ok ⟨9, [], [], [], [⟨[114], [[97], [98], [99]], [5, 3], [2]⟩], [], []⟩ [] := by kernel_rfl
theorem n3 : parseT ⟨#[115, 116, 111, 112, 32, 97]⟩ = .bad 7 1 1 := by kernel_rfl
theorem n4 : parseT ⟨#[]⟩ = .bad 7 1 1 := by kernel_rfl
theorem n5 : parseT ⟨#[104, 111, 114, 105, 122, 111, 110, 32, 57, 10, 104, 111, 114, 105, 122, 111, 110, 32, 57]⟩ = .bad 7 2 1 := by kernel_rfl
theorem n6 : parseT ⟨#[104, 111, 114, 105, 122, 111, 110, 32, 57, 10, 115, 116, 111, 112]⟩ = .bad 7 2 5 := by kernel_rfl
theorem n7 : parseT ⟨#[104, 111, 114, 105, 122, 111, 110, 32, 57, 10, 114, 111, 117, 116, 101, 32, 114, 32, 97, 32, 53, 32, 98, 32, 115, 116, 97, 121, 32, 50]⟩ = .bad 7 2 21 := by kernel_rfl
theorem n8 : parseT ⟨#[104, 111, 114, 105, 122, 111, 110, 32, 57, 10, 112, 97, 116, 104, 32, 112, 32, 97, 32, 98, 32, 51, 32, 52]⟩ = .bad 7 2 14 := by kernel_rfl
theorem n9 : parseT ⟨#[104, 111, 114, 105, 122, 111, 110, 32, 57, 32, 35, 32, 110, 105, 110, 101, 10, 10, 100, 111, 111, 114, 32, 100, 32, 97, 32, 98, 32, 51, 32, 102, 114, 111, 109, 32, 49, 32, 101, 118, 101, 114, 121, 32, 48, 32, 111, 112, 101, 110, 32, 50, 10, 116, 114, 105, 112, 32, 116, 32, 111, 102, 32, 114, 32, 102, 114, 111, 109, 32, 49, 32, 101, 118, 101, 114, 121, 32, 50, 32, 117, 110, 116, 105, 108, 32, 51, 10, 104, 97, 122, 97, 114, 100, 32, 104, 32, 111, 110, 32, 97, 32, 102, 114, 111, 109, 32, 52, 32, 101, 118, 101, 114, 121, 32, 53, 32, 99, 108, 111, 115, 101, 100, 32, 53]⟩ = .ok ⟨9, [], [], [⟨[100], [97], [98], 3, ⟨1, 0, 2⟩⟩], [], [⟨[116], [114], 1, 2, 3⟩], [⟨[104], [97], ⟨4, 5, 5⟩⟩]⟩ [] := by kernel_rfl
end Go.Proofs.YtcmlmfcnbmpajaaGreatDoor.Sh

