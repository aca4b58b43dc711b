/- Plain lists: which places have been seen; make of bools; append of one key onto a row of the call's own. -/
import Derived.Test.YtcjpimocbgeheaaOrderNums
import Derived.Laws.OwnMore
namespace Go.Proofs.Ytcjpimocbgeheaa.Od
open Go.ChangeShapes Go.WideShapes Go.ChangeAt Go.RowKit
set_option linter.unusedVariables false

theorem kz_snd (zs : List Int) : (kz zs).map (·.2) = (List.range zs.length).map (fun i : Nat => (i : Int)) := by
  unfold kz kzF; rw [List.map_map]; rfl
theorem pm_nodup (zs : List Int) : (pm zs).Nodup := by
  have h : (pm zs).Perm ((List.range zs.length).map (fun i : Nat => (i : Int))) := by
    rw [← kz_snd]; exact (srt_perm (kz zs)).map _
  rw [h.nodup_iff]
  exact List.Pairwise.map _ (fun a b hab e => hab (by omega)) List.nodup_range
/-- key i of the sorted row -/
theorem srt_key (zs : List Int) (i : Nat) (h : i < zs.length) : ∃ q : Nat, (srt (kz zs)).getD i (0, 0) = (zs.getD q 0, (q : Int)) ∧ q < zs.length ∧ (pm zs).getD i 0 = (q : Int) := by
  have hl : i < (srt (kz zs)).length := by rw [srt_length, kz_length]; exact h
  have hm : (srt (kz zs))[i] ∈ kz zs := (srt_perm _).mem_iff.1 (List.getElem_mem hl)
  unfold kz kzF at hm
  obtain ⟨q, hq, e⟩ := List.mem_map.1 hm
  refine ⟨q, ?_, by simpa using hq, ?_⟩
  · rw [List.getD_eq_getElem?_getD, List.getElem?_eq_getElem hl, Option.getD_some]
    exact e.symm
  · rw [getD_get _ _ (by rw [pm_length]; exact h)]
    unfold pm
    rw [List.getElem_map]
    have := congrArg Prod.snd e
    exact this.symm
theorem srt_before (zs : List Int) (i : Nat) (h0 : 0 < i) (h : i < zs.length) : lexLt ((srt (kz zs)).getD (i - 1) (0, 0)) ((srt (kz zs)).getD i (0, 0)) := by
  have hl : i < (srt (kz zs)).length := by rw [srt_length, kz_length]; exact h
  have hl1 : i - 1 < (srt (kz zs)).length := by omega
  have e : ∀ j (hj : j < (srt (kz zs)).length), (srt (kz zs)).getD j (0, 0) = (srt (kz zs))[j] := fun j hj => by
    rw [List.getD_eq_getElem?_getD, List.getElem?_eq_getElem hj, Option.getD_some]
  rw [e _ hl, e _ hl1]
  exact List.pairwise_iff_getElem.1 (kz_lex zs) (i - 1) i hl1 hl (by omega)

/-- which of n places are in P -/
def seenF (P : List Int) (n : Nat) : List Value := (List.range n).map fun j : Nat => Value.bool (decide ((j : Int) ∈ P))
theorem seenF_length (P : List Int) (n : Nat) : (seenF P n).length = n := by simp [seenF]
theorem seenF_nil (n : Nat) : seenF [] n = List.replicate n (.bool false) := by
  unfold seenF
  refine List.ext_getElem (by simp) (fun i h1 h2 => by simp)
theorem seenF_at {P : List Int} {n q : Nat} (hq : q < n) (h : (q : Int) ∉ P) : (seenF P n)[q]? = some (.bool false) := by
  simp [seenF, hq, h]
theorem seenF_set {P : List Int} {n q : Nat} : (seenF P n).set q (.bool true) = seenF (P ++ [(q : Int)]) n := by
  refine List.ext_getElem (by simp [seenF]) (fun i h1 h2 => ?_)
  rw [List.getElem_set]
  have hi : i < n := by simpa [seenF] using h2
  by_cases e : q = i
  · subst e; simp [seenF]
  · rw [if_neg e]
    simp only [seenF, List.getElem_map, List.getElem_range]
    congr 1
    rw [Bool.eq_iff_iff]
    simp only [decide_eq_true_eq, List.mem_append, List.mem_singleton]
    constructor
    · intro h; exact .inl h
    · rintro (h | h)
      · exact h
      · exact absurd h (by omega)
theorem not_seen (zs : List Int) {i q : Nat} (h : i < zs.length) (hq : (pm zs).getD i 0 = (q : Int)) : (q : Int) ∉ (pm zs).take i := by
  intro hm
  have hl : i < (pm zs).length := by rw [pm_length]; exact h
  obtain ⟨j, hj, e⟩ := List.getElem_of_mem hm
  have hji : j < i := by simp at hj; omega
  rw [List.getElem_take] at e
  rw [getD_get _ _ hl, ← e] at hq
  have := (List.nodup_iff_pairwise_ne.1 (pm_nodup zs))
  have h2 := List.pairwise_iff_getElem.1 this j i (by omega) hl hji
  exact h2 hq.symm

theorem mk_bool (n : Nat) (hn : n ≤ 1000000) : ∀ w : World, (Instr.makeSlice 38 (.int .i64 (n : Int)) (.int .i64 (n : Int))).run Try.prog w = .ok (.slice (some ⟨w.heap.size, 0, none⟩) n n) (w.alloc (.cells (seenF [] n).toArray 4)) := by
  obtain ⟨i, hi, hz, hs, hby⟩ := info_parts info_bool
  intro w
  have h := run_make (P := Try.prog) w 38 4 i _ Try.underlying38 hi hz .i64 .i64 (n : Int) (n : Int) (by omega) (by omega) (by rw [hby]; omega) (by omega)
  have e : madeCells (Value.cells (.bool false)) (n * i.size) = (seenF [] n).toArray := by
    apply Array.toList_inj.1
    have e1 : Value.cells (.bool false) = #[.bool false] := rfl
    rw [hs, Nat.mul_one, seenF_nil, e1, toList_madeCells_one]
  simp only [Int.toNat_natCast] at h
  rw [e] at h
  exact h

/-- append of one key onto a row of the call's own -/
theorem wpList_append_key {w : World} {ops : Array Oper} {rest : List Oper} {o : Oper} {a : Act} {Q : Exit → Act → World → Prop} (hgd : o.guard = none) (s x : Operand)
    (ho : o.op = .call { callee := .builtin .append, args := #[s, x], argTypes := #[26, 26] })
    (base : Nat) (v : Value) (n : Nat) (xs : List Key) (u : Key) (hs : a.eval s = v) (hx : a.eval x = .slice (some ⟨w.heap.size, 0, none⟩) 1 1) (hown : Hid (w.ownsRow base 25 2 v n (kc xs)))
    (hN : n ≤ 1000000) (hbase : base ≤ w.heap.size)
    (h : ∀ v' w', Hid (w'.ownsRow base 25 2 v' (n + 1) (kc (xs ++ [u]))) → Hid (Below base w w') → wpList Try.prog ops Q rest (a.put o.dst v') w') :
    wpList Try.prog ops Q (o :: rest) a (w.alloc (.cells #[.int .i64 u.1, .int .i64 u.2] 25)) := by
  refine wpList_plain hgd fun K hK => ?_
  obtain ⟨i, hi, hz, hsize, hby⟩ := info_parts info_key
  have hr := lit_rd w #[.int .i64 u.1, .int .i64 u.2] 25 (kc [u]) rfl
  obtain ⟨v', w', hrun, h2, h3, h4⟩ := run_append_rd (P := Try.prog) (w.alloc (.cells #[.int .i64 u.1, .int .i64 u.2] 25)) base 26 o.type 25 i _ 2 16 Try.underlying26 hi hz hsize hby rfl (by omega) v n (kc xs) (hown.out.alloc _) _ _ 1 1 (kc [u]) (by simp [kc_length]) hr (kc_one _) (by simp only [maxLen]; omega)
    (by omega) (by simp; omega)
  rw [← kc_append] at h2
  unfold Oper.wp
  simp only [execOp, ho, resolve, invoke, builtin, Sem.run_bind, Sem.run_pure, Result.andThen_ok, List.map_toArray, List.map_cons, List.map_nil, hs, hx, hrun]
  exact hK _ _ (h v' w' h2 (((Below.refl _ _).alloc hbase _).grown h3 (by simp; omega) (fun k hk => (hown.out.lt k hk).1)))
end Go.Proofs.Ytcjpimocbgeheaa.Od
