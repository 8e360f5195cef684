/- Drop as a loop: slot by slot. -/
import Derived.Test.YtbeohfmikpbkhaaCm3
namespace Go.Proofs.Ytbeohfmikpbkhaa.Ck
set_option linter.unusedVariables false
set_option linter.unusedSimpArgs false
/-- From slot i on: what a loop of k rounds takes out. -/
def dropL (f : Int) : Nat → R → Nat → R × Nat
  | 0, c, _ => (c, 0)
  | k + 1, c, i => match c.1[i]? with
    | none => (c, 0)
    | some s => if goes f s then ((dropL f k (out c i) i).1, (dropL f k (out c i) i).2 + 1) else dropL f k c (i + 1)
/-- What is so from slot i on. -/
def dropC' (c : R) (f : Int) (i : Nat) : R × Nat :=
  let l := c.1.take i ++ (c.1.drop i).filter fun s => !goes f s
  let h := if c.2 ≤ i then c.2 else i + (((c.1.take c.2).drop i).filter fun s => !goes f s).length
  ((l, if h ≥ l.length then 0 else h), ((c.1.drop i).filter (goes f)).length)
theorem dropC_zero (c : R) (f : Int) : dropC' c f 0 = dropC c f := by
  unfold dropC' dropC
  simp only [List.take_zero, List.nil_append, List.drop_zero, Nat.zero_add, Nat.le_zero]
  by_cases h : c.2 = 0
  · rw [if_pos h, h]; simp
  · rw [if_neg h]
theorem drop_cons {l : List S} {i : Nat} {s : S} (h : l[i]? = some s) : l.drop i = s :: l.drop (i + 1) := by
  obtain ⟨hl, e⟩ := List.getElem?_eq_some_iff.mp h
  rw [List.drop_eq_getElem_cons hl, e]
theorem dropL_is (f : Int) : ∀ (k : Nat) (c : R) (i : Nat), Fine c → c.1.length ≤ i + k → i ≤ c.1.length → dropL f k c i = dropC' c f i
  | 0, c, i, hf, hk, hi => by
    have e : i = c.1.length := by omega
    subst e
    unfold dropL dropC'
    simp only [List.drop_length, List.filter_nil, List.append_nil, List.take_length, List.length_nil]
    rcases hf with h | ⟨h, h0⟩
    · simp only [if_pos (Nat.le_of_lt h), if_neg (Nat.not_le_of_lt h), ge_iff_le]
    · refine Prod.ext (Prod.ext rfl ?_) rfl
      simp only [h0, Nat.zero_le, if_true]
      split <;> rfl
  | k + 1, c, i, hf, hk, hi => by
    unfold dropL
    cases hs : c.1[i]? with
    | none =>
      have e : i = c.1.length := by have := List.getElem?_eq_none_iff.mp hs; omega
      have := dropL_is f 0 c i hf (by omega) hi
      unfold dropL at this
      exact this
    | some s =>
      have hil : i < c.1.length := (List.getElem?_eq_some_iff.mp hs).1
      have hd := drop_cons hs
      simp only
      by_cases hg : goes f s = true
      · rw [if_pos hg]
        have hlen : (out c i).1.length = c.1.length - 1 := by show (c.1.eraseIdx i).length = _; rw [List.length_eraseIdx, if_pos hil]
        have ih := dropL_is f k (out c i) i (fine_out _ _) (by omega) (by omega)
        rw [ih]
        have et : (out c i).1.take i = c.1.take i := by show (c.1.eraseIdx i).take i = _; rw [List.eraseIdx_eq_take_drop_succ, List.take_append_of_le_length (by rw [List.length_take]; omega), List.take_take, Nat.min_self]
        have ed : (out c i).1.drop i = c.1.drop (i + 1) := by
          show (c.1.eraseIdx i).drop i = _
          rw [List.eraseIdx_eq_take_drop_succ, List.drop_append_of_le_length (by rw [List.length_take]; omega), List.drop_take, Nat.sub_self, List.take_zero, List.nil_append]
        unfold dropC'
        simp only [et, ed, hd, List.filter_cons, hg, Bool.not_true, Bool.false_eq_true, if_false, if_true, List.length_cons]
        congr 2
        by_cases h1 : c.2 ≤ i
        · rw [if_pos h1]
          have e2 : (out c i).2 = if c.2 ≥ c.1.length - 1 then 0 else c.2 := by
            show (if (if c.2 > i then c.2 - 1 else c.2) ≥ (c.1.eraseIdx i).length then 0 else (if c.2 > i then c.2 - 1 else c.2)) = _
            rw [if_neg (by omega : ¬ c.2 > i), List.length_eraseIdx, if_pos hil]
          rw [e2]
          by_cases h2 : c.2 ≥ c.1.length - 1
          · rw [if_pos h2, if_pos (Nat.zero_le _)]
            have e3 : i + 1 = c.1.length := by omega
            have e4 : c.2 = i := by omega
            rw [e3, List.drop_length, List.filter_nil, List.append_nil, List.length_take, e4]
            rw [if_pos (by omega : i ≥ min i c.1.length)]
            split <;> rfl
          · rw [if_neg h2, if_pos h1]
        · rw [if_neg h1]
          have hcl : c.2 < c.1.length := by
            rcases hf with h | ⟨h, h0⟩
            · exact h
            · omega
          have e2 : (out c i).2 = c.2 - 1 := by
            show (if (if c.2 > i then c.2 - 1 else c.2) ≥ (c.1.eraseIdx i).length then 0 else (if c.2 > i then c.2 - 1 else c.2)) = _
            rw [if_pos (by omega : c.2 > i), List.length_eraseIdx, if_pos hil, if_neg (by omega)]
          have e3 : ((out c i).1.take (c.2 - 1)).drop i = (c.1.take c.2).drop (i + 1) := by
            rw [List.drop_take, ed, List.drop_take]
            congr 1; omega
          have e4 : (c.1.take c.2).drop i = s :: (c.1.take c.2).drop (i + 1) := drop_cons (by rw [List.getElem?_take, if_pos (by omega)]; exact hs)
          rw [e2, e4, List.filter_cons, hg]
          simp only [Bool.not_true, Bool.false_eq_true, if_false]
          by_cases h3 : c.2 - 1 ≤ i
          · rw [if_pos h3]
            have e5 : c.2 = i + 1 := by omega
            have e6 : (c.1.take c.2).drop (i + 1) = [] := by rw [List.drop_eq_nil_iff, List.length_take]; omega
            rw [e6, List.filter_nil, List.length_nil, e5, Nat.add_sub_cancel]
            simp only [Nat.add_zero]
          · rw [if_neg h3, e3]
      · rw [if_neg hg, dropL_is f k c (i + 1) hf (by omega) (by omega)]
        have hg' : goes f s = false := by simpa using hg
        unfold dropC'
        have et : c.1.take (i + 1) = c.1.take i ++ [s] := by rw [List.take_add_one, hs]; rfl
        simp only [hd, List.filter_cons, hg', Bool.not_false, Bool.false_eq_true, if_false, if_true, et, List.append_assoc, List.singleton_append]
        congr 2
        by_cases h1 : c.2 ≤ i
        · rw [if_pos h1, if_pos (by omega : c.2 ≤ i + 1)]
        · rw [if_neg h1]
          have e4 : (c.1.take c.2).drop i = s :: (c.1.take c.2).drop (i + 1) := drop_cons (by rw [List.getElem?_take, if_pos (by omega)]; exact hs)
          rw [e4, List.filter_cons, hg']
          simp only [Bool.not_false, if_true, List.length_cons]
          by_cases h2 : c.2 ≤ i + 1
          · rw [if_pos h2]
            have e5 : c.2 = i + 1 := by omega
            have e6 : (c.1.take c.2).drop (i + 1) = [] := by rw [List.drop_eq_nil_iff, List.length_take]; omega
            rw [e6, List.filter_nil, List.length_nil, Nat.zero_add, e5]
          · rw [if_neg h2]
            have : i + ((List.filter (fun s => !goes f s) ((c.1.take c.2).drop (i + 1))).length + 1) = i + 1 + (List.filter (fun s => !goes f s) ((c.1.take c.2).drop (i + 1))).length := by omega
            rw [this]
theorem drop_goes {f : Int} {c : R} {i : Nat} {s : S} (hf : Fine c) (hs : c.1[i]? = some s) (hg : goes f s = true) : dropC' c f i = ((dropC' (out c i) f i).1, (dropC' (out c i) f i).2 + 1) := by
  have hil : i < c.1.length := (List.getElem?_eq_some_iff.mp hs).1
  have hlen : (out c i).1.length = c.1.length - 1 := by show (c.1.eraseIdx i).length = _; rw [List.length_eraseIdx, if_pos hil]
  rw [← dropL_is f (c.1.length + 1) c i hf (by omega) (by omega), ← dropL_is f c.1.length (out c i) i (fine_out _ _) (by omega) (by omega)]
  conv => lhs; unfold dropL
  simp only [hs, hg, if_true]
theorem drop_stays {f : Int} {c : R} {i : Nat} {s : S} (hf : Fine c) (hs : c.1[i]? = some s) (hg : goes f s = false) : dropC' c f i = dropC' c f (i + 1) := by
  have hil : i < c.1.length := (List.getElem?_eq_some_iff.mp hs).1
  rw [← dropL_is f (c.1.length + 1) c i hf (by omega) (by omega), ← dropL_is f c.1.length c (i + 1) hf (by omega) (by omega)]
  conv => lhs; unfold dropL
  simp only [hs, hg, Bool.false_eq_true, if_false]
theorem drop_end {f : Int} {c : R} (hf : Fine c) : dropC' c f c.1.length = (c, 0) := by
  rw [← dropL_is f 0 c c.1.length hf (by omega) (by omega)]; rfl
end Go.Proofs.Ytbeohfmikpbkhaa.Ck
