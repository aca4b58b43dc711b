/- Plain facts: where tokens stand in their text. Imports no program's function. -/
import Derived.Test.YtgcphhialllieaaDoorLexJoinsWalk
import Derived.Test.YtgcphhialllieaaDoorLexGood
namespace Go.Proofs.YtgcphhialllieaaDoor.Lx
open Tk
set_option linter.unusedVariables false

/-- where lines begin, the first one apart -/
def nlp : Nat → List UInt8 → List Nat
  | _, [] => []
  | k, c :: r => if kindOf c = 3 then (k + 1) :: nlp (k + 1) r else nlp (k + 1) r
def st (L : List UInt8) : List Nat := 0 :: nlp 0 L
theorem nlp_at : ∀ (L : List UInt8) (k p : Nat) (c : UInt8), L[p]? = some c → kindOf c = 3 → (nlp k L)[nls (L.take p)]? = some (k + p + 1) := by
  intro L
  induction L with
  | nil => intro k p c h; simp at h
  | cons d r ih =>
    intro k p c h hc
    cases p with
    | zero =>
      simp at h
      subst h
      simp [nlp, hc, nls]
    | succ p =>
      simp at h
      have := ih (k + 1) p c h hc
      rw [List.take_succ_cons, nls_cons]
      simp only [nlp]
      split
      · rw [List.getElem?_cons_succ, this]; congr 1; omega
      · show (nlp (k + 1) r)[nls (r.take p)]? = _
        rw [this]; congr 1; omega
/-- byte p is at the place line, col -/
structure Pos (L : List UInt8) (p line col : Nat) : Prop where
  le : p ≤ L.length
  ln : line = 1 + nls (L.take p)
  cl : 1 ≤ col
  s : ∃ s, (st L)[line - 1]? = some s ∧ s + col = p + 1
theorem drop_app {L x y : List UInt8} {p : Nat} (h : L.drop p = x ++ y) : L.drop (p + x.length) = y := by
  rw [← List.drop_drop, h]; simp
theorem Pos.on {L x y : List UInt8} {p line col : Nat} (h : Pos L p line col) (hd : L.drop p = x ++ y) (hx : ∀ c ∈ x, kindOf c ≠ 3) : Pos L (p + x.length) line (col + x.length) := by
  have hl := congrArg List.length hd
  simp at hl
  refine ⟨by have := h.le; omega, ?_, by have := h.cl; omega, ?_⟩
  · have e : L.take (p + x.length) = L.take p ++ x := by rw [List.take_add, hd]; simp
    have e0 : nls x = 0 := by
      unfold nls
      rw [List.countP_eq_zero]
      intro c hc
      simpa using hx c hc
    rw [e]
    unfold nls at *
    rw [List.countP_append, e0]
    have := h.ln
    unfold nls at this
    omega
  · obtain ⟨s, h1, h2⟩ := h.s
    exact ⟨s, h1, by omega⟩
theorem Pos.nl {L r : List UInt8} {p line col : Nat} {c : UInt8} (h : Pos L p line col) (hd : L.drop p = c :: r) (hc : kindOf c = 3) : Pos L (p + 1) (line + 1) 1 := by
  have hl := congrArg List.length hd
  simp at hl
  have hat : L[p]? = some c := by
    have e : (L.drop p)[0]? = some c := by rw [hd]; rfl
    rw [List.getElem?_drop] at e
    simpa using e
  refine ⟨by have := h.le; omega, ?_, Nat.le_refl _, p + 1, ?_, by omega⟩
  · have e : L.take (p + 1) = L.take p ++ [c] := by rw [List.take_add_one, hat]; rfl
    rw [e, h.ln]
    unfold nls
    rw [List.countP_append]
    simp [hc]
    omega
  · have := nlp_at L 0 p c hat hc
    have e1 : line + 1 - 1 = nls (L.take p) + 1 := by have := h.ln; omega
    rw [e1]
    show (0 :: nlp 0 L)[nls (L.take p) + 1]? = _
    rw [List.getElem?_cons_succ, this]; congr 1; omega
theorem Pos.start (L : List UInt8) : Pos L 0 1 1 := ⟨by omega, by simp [nls], Nat.le_refl _, 0, rfl, rfl⟩

/-- the places of tokens, as LexPlaces asks; line0, col0: the place of the token ahead -/
def Placed (L : List UInt8) : Nat → Nat → Bool → List Tok → Prop
  | _, _, sm, [] => sm = false
  | line0, col0, sm, t :: r => ∃ ln cl s : Nat, t.line = ln ∧ t.col = cl ∧ 1 ≤ ln ∧ 1 ≤ cl ∧ (st L)[ln - 1]? = some s ∧ line0 ≤ ln ∧ (ln = line0 → col0 < cl) ∧ (sm = true → ln = line0) ∧
      ((t.kind = 4 ∧ sm = true ∧ s + cl - 1 ≤ L.length ∧ (s + cl - 1 < L.length → L[s + cl - 1]? = some 10) ∧ t.text = [] ∧ Placed L ln cl false r) ∨
       (¬ t.kind = 4 ∧ t.text ≠ [] ∧ s + cl - 1 + t.text.length ≤ L.length ∧ (L.drop (s + cl - 1)).take t.text.length = t.text ∧ Placed L ln cl true r))
theorem k3 {c : UInt8} (h : kindOf c = 3) : c = 10 := by
  have key : ∀ n : Fin 256, kindOf (UInt8.ofNat n.val) = 3 → n.val = 10 := by decide +kernel
  have := key ⟨c.toNat, c.toNat_lt⟩ (by simpa using h)
  exact UInt8.toNat_inj.1 (by simpa using this)
theorem lex_placed (L : List UInt8) : ∀ bs (line col : Nat) (sm : Bool) (l : List Tok), lex bs line col sm = .ok l → ∀ (p line0 col0 : Nat), L.drop p = bs → Pos L p line col → line0 ≤ line → (line = line0 → col0 < col) → (sm = true → line = line0) → Placed L line0 col0 sm l := by
  intro bs
  induction bs using lex_induct with
  | nil =>
    intro line col sm l h p line0 col0 hd hP h1 h2 h3
    rw [lex_nil] at h
    injection h with h
    have hl := congrArg List.length hd
    simp at hl
    obtain ⟨s, hs, hsc⟩ := hP.s
    have := hP.le
    have := hP.cl
    cases sm with
    | true =>
      rw [if_pos rfl] at h
      subst h
      exact ⟨line, col, s, rfl, rfl, by have := hP.ln; omega, hP.cl, hs, h1, h2, h3, .inl ⟨rfl, rfl, by omega, fun h => by omega, rfl, rfl⟩⟩
    | false => rw [if_neg (by decide)] at h; subst h; rfl
  | nl c r hk ih =>
    intro line col sm l h p line0 col0 hd hP h1 h2 h3
    rw [lex_nl hk] at h
    have hl := congrArg List.length hd
    simp at hl
    obtain ⟨s, hs, hsc⟩ := hP.s
    have := hP.le
    have hcl := hP.cl
    have hd2 : L.drop (p + 1) = r := drop_app (x := [c]) hd
    cases sm with
    | true =>
      rw [if_pos rfl] at h
      obtain ⟨l', e1, rfl⟩ := cons_ok h
      refine ⟨line, col, s, rfl, rfl, by have := hP.ln; omega, hP.cl, hs, h1, h2, h3, .inl ⟨rfl, rfl, by omega, fun _ => ?_, rfl, ?_⟩⟩
      · have e : s + col - 1 = p := by omega
        have e2 : (L.drop p)[0]? = some c := by rw [hd]; rfl
        rw [List.getElem?_drop] at e2
        rw [e, ← k3 hk]
        simpa using e2
      · exact ih _ _ _ _ e1 (p + 1) line col hd2 (hP.nl hd hk) (by omega) (by omega) (by simp)
    | false => rw [if_neg (by decide)] at h; exact ih _ _ _ _ h (p + 1) line0 col0 hd2 (hP.nl hd hk) (by omega) (by omega) (by simp)
  | bl c r hk ih =>
    intro line col sm l h p line0 col0 hd hP h1 h2 h3
    rw [lex_bl hk] at h
    have hP2 := hP.on (x := [c]) (y := r) hd (by simp; omega)
    exact ih _ _ _ _ h (p + 1) line0 col0 (drop_app (x := [c]) hd) hP2 h1 (by omega) h3
  | hash c r hk ih =>
    intro line col sm l h p line0 col0 hd hP h1 h2 h3
    rw [lex_hash hk] at h
    have e : c :: r = (c :: r.takeWhile inLine) ++ r.dropWhile inLine := by rw [List.cons_append, List.takeWhile_append_dropWhile]
    rw [e] at hd
    have hP2 := hP.on hd (by
      intro d hd2
      rcases List.mem_cons.1 hd2 with rfl | hd2
      · omega
      · exact in_ne _ (List.all_eq_true.1 (tw_all _ _) _ hd2))
    have e3 : col + (c :: r.takeWhile inLine).length = col + 1 + (r.takeWhile inLine).length := by simp; omega
    rw [e3] at hP2
    exact ih _ _ _ _ h _ line0 col0 (drop_app hd) hP2 h1 (by omega) h3
  | word c r hk ih =>
    intro line col sm l h p line0 col0 hd hP h1 h2 h3
    rw [lex_let hk] at h
    by_cases h24 : 24 < ((c :: r).takeWhile isMore).length
    · rw [if_pos h24] at h; cases h
    · rw [if_neg h24] at h
      obtain ⟨l', e1, rfl⟩ := cons_ok h
      have e : c :: r = ((c :: r).takeWhile isMore) ++ (c :: r).dropWhile isMore := (List.takeWhile_append_dropWhile).symm
      rw [e] at hd
      have hP2 := hP.on hd (fun d hd2 => more_ne _ (List.all_eq_true.1 (tw_all _ _) _ hd2))
      have hl := congrArg List.length hd
      simp only [List.length_append, List.length_drop] at hl
      obtain ⟨s, hs, hsc⟩ := hP.s
      have hcl := hP.cl
      have hle := hP.le
      have hat : s + col - 1 = p := by omega
      have hpos : 0 < ((c :: r).takeWhile isMore).length := by rw [List.takeWhile_cons_of_pos (more_let hk)]; simp
      refine ⟨line, col, s, rfl, rfl, by have := hP.ln; omega, hP.cl, hs, h1, h2, h3, .inr ⟨by simp only [wordT]; split <;> decide, List.length_pos_iff.1 hpos, ?_, ?_, ?_⟩⟩
      · show s + col - 1 + ((c :: r).takeWhile isMore).length ≤ _
        omega
      · show (L.drop (s + col - 1)).take ((c :: r).takeWhile isMore).length = (c :: r).takeWhile isMore
        rw [hat, hd]; exact List.take_left' rfl
      · exact ih _ _ _ _ e1 _ line col (drop_app hd) hP2 (Nat.le_refl _) (by omega) (fun _ => rfl)
  | num c r hk ih =>
    intro line col sm l h p line0 col0 hd hP h1 h2 h3
    rw [lex_dig hk] at h
    split at h
    · cases h
    · split at h
      · cases h
      · split at h
        · cases h
        · obtain ⟨l', e1, rfl⟩ := cons_ok h
          have e : c :: r = ((c :: r).takeWhile isDig) ++ (c :: r).dropWhile isDig := (List.takeWhile_append_dropWhile).symm
          rw [e] at hd
          have hP2 := hP.on hd (fun d hd2 => dig_ne _ (List.all_eq_true.1 (tw_all _ _) _ hd2))
          have hl := congrArg List.length hd
          simp only [List.length_append, List.length_drop] at hl
          obtain ⟨s, hs, hsc⟩ := hP.s
          have hcl := hP.cl
          have hle := hP.le
          have hat : s + col - 1 = p := by omega
          have hpos : 0 < ((c :: r).takeWhile isDig).length := by rw [List.takeWhile_cons_of_pos (dig_num hk)]; simp
          refine ⟨line, col, s, rfl, rfl, by have := hP.ln; omega, hP.cl, hs, h1, h2, h3, .inr ⟨by simp [numT], List.length_pos_iff.1 hpos, ?_, ?_, ?_⟩⟩
          · show s + col - 1 + ((c :: r).takeWhile isDig).length ≤ _
            omega
          · show (L.drop (s + col - 1)).take ((c :: r).takeWhile isDig).length = (c :: r).takeWhile isDig
            rw [hat, hd]; exact List.take_left' rfl
          · exact ih _ _ _ _ e1 _ line col (drop_app hd) hP2 (Nat.le_refl _) (by omega) (fun _ => rfl)
  | bad c r hk => intro line col sm l h; rw [lex_bad (bs := c :: r) hk] at h; cases h
theorem all_placed {L : List UInt8} {l : List Tok} (h : lex L 1 1 false = .ok l) : Placed L 0 0 false l :=
  lex_placed L L 1 1 false l h 0 0 0 rfl (Pos.start L) (by omega) (by omega) (by simp)
end Go.Proofs.YtgcphhialllieaaDoor.Lx
