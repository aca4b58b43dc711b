/- Nets as they lie in memory: rows of windows, links, what keeps them. No conditions. -/
import Derived.Test.YtffddkbphdjehaaWinBase
import Derived.Test.YtffddkbphdjehaaLkMath
namespace Go.Proofs.Ytffddkbphdjehaa.Lk
open Go.ChangeShapes Go.WideShapes Go.ChangeAt Go.RowKit
open Wn
set_option linter.unusedVariables false
set_option linter.unusedSimpArgs false

/-- an integer's cell -/
abbrev i64 (n : Int) : Value := .int .i64 n
/-- the cells of things, one behind the other -/
def cs {α : Type} (f : α → List Value) (Z : List α) : List Value := Z.flatMap f
section
variable {α : Type} (f : α → List Value) (size : Nat) (h : ∀ a, (f a).length = size)
include h
theorem cs_length (Z : List α) : (cs f Z).length = Z.length * size := by
  induction Z with
  | nil => simp [cs]
  | cons a Z ih => rw [cs, List.flatMap_cons, List.length_append, h]; rw [cs] at ih; rw [ih, List.length_cons, Nat.add_mul]; omega
theorem cs_at (Z : List α) (k : Nat) (a : α) (hk : Z[k]? = some a) (j : Nat) (hj : j < size) : (cs f Z)[k * size + j]? = (f a)[j]? := by
  induction Z generalizing k with
  | nil => simp at hk
  | cons b Z ih =>
    rw [cs, List.flatMap_cons]
    cases k with
    | zero => simp at hk; subst hk; rw [Nat.zero_mul, Nat.zero_add, List.getElem?_append_left (by rw [h]; exact hj)]
    | succ k =>
      have hk' : Z[k]? = some a := by simpa using hk
      rw [List.getElem?_append_right (by rw [h, Nat.add_mul]; omega), h, show (k + 1) * size + j - size = k * size + j by rw [Nat.add_mul]; omega]
      exact ih k hk'
end
/-- a row of windows, and where it lies -/
structure RwA where
  z : List Win
  p : Option Addr
  c : Nat
def rwC (r : RwA) : List Value := [.slice r.p r.z.length r.c]
abbrev rwV (r : RwA) : Value := .slice r.p r.z.length r.c
structure RwOk (w : World) (S : Nat → Prop) (r : RwA) : Prop where
  cap : r.z.length ≤ r.c
  rd : Rd w S r.p (kc r.z)
/-- a link, and where its rows lie -/
structure LnA where
  l : Ln
  p : Option Addr
  c : Nat
  q : Option Addr
  d : Nat
def lnC (x : LnA) : List Value := [i64 x.l.a, i64 x.l.b, i64 x.l.len, .bool x.l.door, i64 x.l.of, .slice x.p x.l.op.length x.c, .slice x.q x.l.cl.length x.d]
abbrev lnV (x : LnA) : Value := .agg #[.int .i64 x.l.a, .int .i64 x.l.b, .int .i64 x.l.len, .bool x.l.door, .int .i64 x.l.of, .slice x.p x.l.op.length x.c, .slice x.q x.l.cl.length x.d]
structure LnOk (w : World) (S : Nat → Prop) (x : LnA) : Prop where
  co : x.l.op.length ≤ x.c
  cc : x.l.cl.length ≤ x.d
  ro : Rd w S x.p (kc x.l.op)
  rc : Rd w S x.q (kc x.l.cl)
/-- a net, and where it lies -/
structure NtA where
  hz : Int
  rs : List RwA
  ls : List LnA
  p : Option Addr
  c : Nat
  q : Option Addr
  d : Nat
def NtA.net (x : NtA) : Nt := ⟨x.hz, x.rs.map (·.z), x.ls.map (·.l)⟩
abbrev ntV (x : NtA) : Value := .agg #[.int .i64 x.hz, .slice x.p x.rs.length x.c, .slice x.q x.ls.length x.d]
structure NtOk (w : World) (S : Nat → Prop) (x : NtA) : Prop where
  kc : x.rs.length ≤ x.c
  kd : x.ls.length ≤ x.d
  rr : Rd w S x.p (cs rwC x.rs)
  rl : Rd w S x.q (cs lnC x.ls)
  hr : ∀ r ∈ x.rs, RwOk w S r
  hl : ∀ l ∈ x.ls, LnOk w S l
section
variable {w w' : World} {S S' : Nat → Prop}
theorem RwOk.keep {r : RwA} (h : RwOk w S r) (hk : ∀ b, S b → w'.heap[b]? = w.heap[b]?) : RwOk w' S r := ⟨h.cap, h.rd.keep hk⟩
theorem RwOk.more {r : RwA} (h : RwOk w S r) (hs : ∀ b, S b → S' b) : RwOk w S' r := ⟨h.cap, h.rd.more hs⟩
theorem LnOk.keep {r : LnA} (h : LnOk w S r) (hk : ∀ b, S b → w'.heap[b]? = w.heap[b]?) : LnOk w' S r := ⟨h.co, h.cc, h.ro.keep hk, h.rc.keep hk⟩
theorem LnOk.more {r : LnA} (h : LnOk w S r) (hs : ∀ b, S b → S' b) : LnOk w S' r := ⟨h.co, h.cc, h.ro.more hs, h.rc.more hs⟩
theorem NtOk.keep {x : NtA} (h : NtOk w S x) (hk : ∀ b, S b → w'.heap[b]? = w.heap[b]?) : NtOk w' S x := ⟨h.kc, h.kd, h.rr.keep hk, h.rl.keep hk, fun r m => (h.hr r m).keep hk, fun r m => (h.hl r m).keep hk⟩
theorem NtOk.more {x : NtA} (h : NtOk w S x) (hs : ∀ b, S b → S' b) : NtOk w S' x := ⟨h.kc, h.kd, h.rr.more hs, h.rl.more hs, fun r m => (h.hr r m).more hs, fun r m => (h.hl r m).more hs⟩
theorem NtOk.later {x : NtA} (h : NtOk w (· < w.heap.size) x) (hb : Below w.heap.size w w') : NtOk w' (· < w'.heap.size) x :=
  (h.keep fun b hl => hb.block b hl).more fun b h1 => by have := hb.size; omega
theorem LnOk.later {x : LnA} (h : LnOk w (· < w.heap.size) x) (hb : Below w.heap.size w w') : LnOk w' (· < w'.heap.size) x :=
  (h.keep fun b hl => hb.block b hl).more fun b h1 => by have := hb.size; omega
theorem RwOk.later {x : RwA} (h : RwOk w (· < w.heap.size) x) (hb : Below w.heap.size w w') : RwOk w' (· < w'.heap.size) x :=
  (h.keep fun b hl => hb.block b hl).more fun b h1 => by have := hb.size; omega
/-- the cells of a thing in a row -/
theorem rd_at {α : Type} {f : α → List Value} {size : Nat} (hf : ∀ a, (f a).length = size) (hs : 0 < size) {A : Option Addr} {Z : List α} (h : Rd w S A (cs f Z)) {k : Nat} {a : α} (hk : Z[k]? = some a) :
    ∃ ad, A = some ad ∧ S ad.block ∧ ∀ j u, (f a)[j]? = some u → w.cell? ((ad.add (k * size)).add j) = some u := by
  have hlt : k < Z.length := (List.getElem?_eq_some_iff.1 hk).1
  obtain ⟨ad, e, hb, hc⟩ := h (by rw [cs_length f size hf]; exact Nat.mul_pos (by omega) hs)
  refine ⟨ad, e, hb, fun j u hu => ?_⟩
  have hj : j < size := by have := (List.getElem?_eq_some_iff.1 hu).1; rwa [hf] at this
  rw [add_of_add]
  exact hc _ u (by rw [cs_at f size hf Z k a hk j hj, hu])
theorem NtOk.row_ {x : NtA} (h : NtOk w S x) {k : Nat} {r : RwA} (hk : x.rs[k]? = some r) : ∃ ad, x.p = some ad ∧ S ad.block ∧ w.cell? (ad.add (k * 1)) = some (rwV r) ∧ RwOk w S r := by
  obtain ⟨ad, e, hb, hc⟩ := rd_at (f := rwC) (size := 1) (fun _ => rfl) (by omega) h.rr hk
  exact ⟨ad, e, hb, by simpa [Addr.add] using hc 0 _ rfl, h.hr r (List.mem_of_getElem? hk)⟩
theorem NtOk.link {x : NtA} (h : NtOk w S x) {k : Nat} {y : LnA} (hk : x.ls[k]? = some y) : ∃ ad, x.q = some ad ∧ S ad.block ∧ (w.cell? (ad.add (k * 7)) = some (i64 y.l.a) ∧ w.cell? ⟨(ad.add (k * 7)).block, (ad.add (k * 7)).off + 1, none⟩ = some (i64 y.l.b) ∧ w.cell? ⟨(ad.add (k * 7)).block, (ad.add (k * 7)).off + 2, none⟩ = some (i64 y.l.len) ∧ w.cell? ⟨(ad.add (k * 7)).block, (ad.add (k * 7)).off + 3, none⟩ = some (.bool y.l.door) ∧ w.cell? ⟨(ad.add (k * 7)).block, (ad.add (k * 7)).off + 4, none⟩ = some (i64 y.l.of) ∧ w.cell? ⟨(ad.add (k * 7)).block, (ad.add (k * 7)).off + 5, none⟩ = some (.slice y.p y.l.op.length y.c) ∧ w.cell? ⟨(ad.add (k * 7)).block, (ad.add (k * 7)).off + 6, none⟩ = some (.slice y.q y.l.cl.length y.d)) ∧ LnOk w S y := by
  obtain ⟨ad, e, hb, hc⟩ := rd_at (f := lnC) (size := 7) (fun _ => rfl) (by omega) h.rl hk
  exact ⟨ad, e, hb, ⟨by simpa [Addr.add] using hc 0 _ rfl, hc 1 _ rfl, hc 2 _ rfl, hc 3 _ rfl, hc 4 _ rfl, hc 5 _ rfl, hc 6 _ rfl⟩, h.hl y (List.mem_of_getElem? hk)⟩
end
/-- a net of little -/
structure Lt (x : NtA) : Prop where
  r : x.rs.length ≤ 10000
  l : x.ls.length ≤ 10000
  rz : ∀ r ∈ x.rs, r.z.length ≤ 10000
  lo : ∀ r ∈ x.ls, r.l.op.length ≤ 10000
  lc : ∀ r ∈ x.ls, r.l.cl.length ≤ 10000
theorem net_cl (x : NtA) (k : Nat) : x.net.cl[k]? = x.rs[k]?.map (·.z) := by simp [NtA.net]
theorem net_lk (x : NtA) (k : Nat) : x.net.lk[k]? = x.ls[k]?.map (·.l) := by simp [NtA.net]
theorem net_cll (x : NtA) : x.net.cl.length = x.rs.length := by simp [NtA.net]
theorem net_lkl (x : NtA) : x.net.lk.length = x.ls.length := by simp [NtA.net]
end Go.Proofs.Ytffddkbphdjehaa.Lk
