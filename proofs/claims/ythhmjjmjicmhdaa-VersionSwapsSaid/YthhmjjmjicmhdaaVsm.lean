/- Plain mathematics of VersionSwaps: runs n, n - 1, .. 1; one more; some put together. -/
import Derived.Test.YthhmjjmjicmhdaaVmm
namespace Go.Proofs.Ythhmjjmjicmhdaa.Ve
set_option linter.unusedVariables false
set_option linter.unusedSimpArgs false
open Ed
abbrev ruS (f : Int) (s : Nat) : Ru := ⟨f, 10, 1, [97], [98], s⟩
def rl : Nat → List Ru
  | 0 => []
  | k + 1 => ruS ((k + 1 : Nat) : Int) (k + 1) :: rl k
def vN (k : Nat) : V := ⟨rl k, (k : Int) + 1, 0, k⟩
theorem rl_len : ∀ k, (rl k).length = k
  | 0 => rfl
  | k + 1 => by unfold rl; rw [List.length_cons, rl_len k]
theorem rl_mem : ∀ {k : Nat} {r : Ru}, r ∈ rl k → ∃ i : Nat, 1 ≤ i ∧ i ≤ k ∧ r = ruS (i : Int) i
  | 0, r, h => by cases h
  | k + 1, r, h => by
    rcases List.mem_cons.1 h with rfl | h
    · exact ⟨k + 1, by omega, by omega, rfl⟩
    · obtain ⟨i, h1, h2, h3⟩ := rl_mem h
      exact ⟨i, h1, by omega, h3⟩
theorem rl_at : ∀ {k i : Nat}, i < k → (rl k)[i]? = some (ruS ((k - i : Nat) : Int) (k - i))
  | k + 1, 0, _ => rfl
  | k + 1, i + 1, h => by
    show (rl k)[i]? = _
    rw [rl_at (k := k) (i := i) (by omega)]
    congr 2 <;> omega
/-- Files and numbers fall. -/
def Falls (r s : Ru) : Prop := s.file < r.file ∧ s.seq < r.seq
theorem rl_falls : ∀ k, (rl k).Pairwise Falls
  | 0 => List.Pairwise.nil
  | k + 1 => List.pairwise_cons.2 ⟨fun r hr => by
      obtain ⟨i, h1, h2, rfl⟩ := rl_mem hr
      exact ⟨by show (i : Int) < ((k + 1 : Nat) : Int); omega, by show i < k + 1; omega⟩, rl_falls k⟩
theorem falls_of : ∀ {l : List Ru} {b : Nat}, (∀ r, r ∈ l → r.seq < b) → l.Pairwise (fun r s => s.seq < r.seq) → falls b l = true
  | [], b, _, _ => rfl
  | r :: l, b, h, hp => by
    obtain ⟨h1, h2⟩ := List.pairwise_cons.1 hp
    unfold falls
    rw [Bool.and_eq_true, decide_eq_true_eq]
    exact ⟨h r (List.mem_cons_self ..), falls_of h1 h2⟩
theorem okR_S {f : Int} {s : Nat} (h1 : 1 ≤ f) (h2 : f ≤ 1000) (h3 : 1 ≤ s) (h4 : s ≤ 1000) : okR (ruS f s) = true := by
  unfold okR
  simp only [Bool.and_eq_true, decide_eq_true_eq]
  refine ⟨⟨h1, by omega⟩, ⟨by decide, by decide⟩, ⟨by decide, by decide⟩, ⟨by decide, by decide⟩, ⟨by decide, by decide⟩, by decide, by omega, by omega⟩
theorem rl_files (k : Nat) : ((rl k).map (·.file)).Nodup := by
  unfold List.Nodup
  rw [List.pairwise_map]
  exact (rl_falls k).imp fun h e => by have := h.1; omega
theorem vN_right {k : Nat} (hk : k ≤ 100) : rightV (vN k) = true := by
  refine rightV_mk (by show (rl k).length ≤ 1000; rw [rl_len]; omega) (by show 1 ≤ (k : Int) + 1 ∧ (k : Int) + 1 ≤ 1099511627776; omega) (show okN 0 = true by decide) (by show k ≤ 72057594037927935; omega) (rl_files k) (fun r hr => ?_) (falls_of (fun r hr => ?_) ((rl_falls k).imp fun h => h.2))
  · obtain ⟨i, h1, h2, rfl⟩ := rl_mem (show r ∈ rl k from hr)
    unfold okV
    rw [Bool.and_eq_true, decide_eq_true_eq]
    exact ⟨okR_S (by omega) (by omega) h1 (by omega), by show (i : Int) < (k : Int) + 1; omega⟩
  · obtain ⟨i, h1, h2, rfl⟩ := rl_mem (show r ∈ rl k from hr)
    show i < k + 1
    omega
theorem rl_none {k : Nat} {f : Int} (h : (k : Int) < f) : spot (rl k) f = none := spot_none.2 fun r hr e => by
  obtain ⟨i, h1, h2, rfl⟩ := rl_mem hr
  have : (i : Int) = f := e
  omega
theorem rl_spot {k i : Nat} (h : i < k) : spot (rl k) ((k : Int) - (i : Int)) = some i := by
  refine spot_at (rl_at h) (by show ((k - i : Nat) : Int) = _; omega) fun s hs e => ?_
  obtain ⟨j, hj1, hj2⟩ := List.getElem_of_mem hs
  rw [List.length_take] at hj1
  have h3 := rl_at (k := k) (i := j) (by omega)
  rw [List.getElem_take] at hj2
  rw [List.getElem?_eq_getElem (by rw [rl_len]; omega), hj2] at h3
  injection h3 with h3
  rw [h3] at e
  have : ((k - j : Nat) : Int) = (k : Int) - (i : Int) := e
  omega
/-- One run more. -/
def eA (i : Nat) : E := ⟨[ruS (i : Int) i], [], (i : Int) + 1, 0, i⟩
theorem eA_right {i : Nat} (h1 : 1 ≤ i) (h2 : i ≤ 100) : right (eA i) = true := by
  unfold right eA
  simp only [Bool.and_eq_true, decide_eq_true_eq, List.all_cons, List.all_nil, List.map_cons, List.map_nil]
  refine ⟨by simp, by simp, decide_eq_true (by omega), by decide, by omega, by simp, by simp, ⟨okR_S (by omega) (by omega) h1 (by omega), trivial⟩, trivial⟩
theorem step_add {i : Nat} (h1 : 1 ≤ i) (h2 : i ≤ 100) : applyV (vN (i - 1)) (eA i) = (0, vN i) := by
  have hs : spots (vN (i - 1)).runs (eA i).drop = some [] := rfl
  rw [apply_some (vN_right (by omega)) (eA_right h1 h2) hs]
  have ht : twice (vN (i - 1)) (eA i) = false := twice_false.2 fun r hr hsm => by
    have e : r = ruS (i : Int) i := by simpa [eA] using hr
    subst e
    rw [show (vN (i - 1)).runs = rl (i - 1) from rfl, rl_none (by show ((i - 1 : Nat) : Int) < (i : Int); omega)] at hsm
    cases hsm
  have hj : joinV (vN (i - 1)) (eA i) 0 (-1) = vN i := by
    obtain ⟨k, rfl⟩ : ∃ k, i = k + 1 := ⟨i - 1, by omega⟩
    unfold joinV eA vN
    have e1 : orI (((k + 1 : Nat) : Int) + 1) ((k : Int) + 1) = ((k + 1 : Nat) : Int) + 1 := if_neg (by omega)
    have e2 : orN (k + 1) k = k + 1 := if_neg (by omega)
    simp only [Nat.add_sub_cancel, e1, e2]
    rfl
  have hb : back (vN (i - 1)) (eA i) = false := by
    unfold back eA vN
    simp only [Bool.or_eq_false_iff, decide_eq_false_iff_not]
    refine ⟨by omega, by omega, by omega⟩
  rw [ht, if_neg (by simp), if_neg (by show ¬ 1000 < ((rl (i - 1)).length : Int) - (([] : List Int).length : Int) + (([_] : List Ru).length : Int); rw [rl_len]; simp; omega)]
  have hl : low (vN (i - 1)) (eA i) [] = 0 := rfl
  have hh : high (eA i) [] = -1 := rfl
  rw [hl, hh, if_neg (by show ¬ (-1 - ((0 : Nat) : Int) + 1 ≠ (([] : List Int).length : Int)); simp), hj, hb, vN_right h2, if_neg (by simp)]
/-- Runs put together. -/
def dropsN (n at' j : Nat) : List Int := (List.range j).map fun m : Nat => (n : Int) - ((at' : Int) + (m : Int))
theorem dropsN_succ (n at' j : Nat) : dropsN n at' (j + 1) = dropsN n at' j ++ [(n : Int) - ((at' : Int) + (j : Int))] := by
  unfold dropsN
  rw [List.range_succ, List.map_append]
  rfl
theorem dropsN_len (n at' j : Nat) : (dropsN n at' j).length = j := by unfold dropsN; simp
def eS (n at' c : Nat) : E := ⟨[ruS ((n : Int) + 1) (n - at')], dropsN n at' c, (n : Int) + 2, 0, 0⟩
def vS (n at' c : Nat) : V := ⟨(rl n).take at' ++ (ruS ((n : Int) + 1) (n - at') :: (rl n).drop (at' + c)), (n : Int) + 2, 0, n⟩
section
variable {n at' c : Nat}
theorem eS_right (h1 : at' < n) (h2 : n ≤ 50) (h3 : c ≤ n - at') : right (eS n at' c) = true := by
  unfold right eS
  simp only [Bool.and_eq_true, decide_eq_true_eq, List.all_cons, List.all_nil, List.map_cons, List.map_nil, dropsN_len]
  refine ⟨by simp, by omega, decide_eq_true (by omega), by decide, by decide, by simp, ?_, ⟨okR_S (by omega) (by omega) (by omega) (by omega), trivial⟩, ?_⟩
  · unfold List.Nodup dropsN
    rw [List.pairwise_map]
    exact List.nodup_range.imp fun h e => h (by omega)
  · rw [List.all_eq_true]
    intro z hz
    obtain ⟨m, hm, rfl⟩ := List.mem_map.1 hz
    have := List.mem_range.1 hm
    exact decide_eq_true (by omega)
theorem spots_S : ∀ j, j ≤ c → c ≤ n - at' → at' < n → spots (rl n) (dropsN n at' j) = some ((List.range j).map (at' + ·))
  | 0, _, _, _ => rfl
  | j + 1, h, h2, h3 => by
    rw [dropsN_succ, spots_snoc, spots_S j (by omega) h2 h3]
    have e : (n : Int) - ((at' : Int) + (j : Int)) = (n : Int) - ((at' + j : Nat) : Int) := by omega
    rw [e, rl_spot (by omega)]
    simp [List.range_succ]
theorem lows_S : ∀ j, 1 ≤ j → at' < n → lows ((List.range j).map (at' + ·)) n = at'
  | 1, _, h => by simp [lows]; omega
  | j + 2, _, h => by
    rw [List.range_succ, List.map_append]
    show lows ((List.range (j + 1)).map (at' + ·) ++ [at' + (j + 1)]) n = at'
    rw [lows_snoc, lows_S (j + 1) (by omega) h]
    omega
theorem highs_S : ∀ j, 1 ≤ j → highs ((List.range j).map (at' + ·)) = (at' : Int) + (j : Int) - 1
  | 1, _ => by simp [highs]; omega
  | j + 2, _ => by
    rw [List.range_succ, List.map_append]
    show highs ((List.range (j + 1)).map (at' + ·) ++ [at' + (j + 1)]) = _
    rw [highs_snoc, highs_S (j + 1) (by omega)]
    omega
theorem vS_mem {r : Ru} (h : r ∈ (vS n at' c).runs) : r = ruS ((n : Int) + 1) (n - at') ∨ ∃ i : Nat, 1 ≤ i ∧ i ≤ n ∧ r = ruS (i : Int) i := by
  rcases List.mem_append.1 h with h | h
  · exact .inr (rl_mem (List.mem_of_mem_take h))
  · rcases List.mem_cons.1 h with h | h
    · exact .inl h
    · exact .inr (rl_mem (List.mem_of_mem_drop h))
theorem take_mem_S {r : Ru} (h : r ∈ (rl n).take at') (ha : at' < n) : ∃ i : Nat, n - at' < i ∧ i ≤ n ∧ r = ruS (i : Int) i := by
  obtain ⟨j, hj1, hj2⟩ := List.getElem_of_mem h
  rw [List.length_take] at hj1
  have h3 := rl_at (k := n) (i := j) (by omega)
  rw [List.getElem_take] at hj2
  rw [List.getElem?_eq_getElem (by rw [rl_len]; omega), hj2] at h3
  injection h3 with h3
  exact ⟨n - j, by omega, by omega, h3⟩
theorem drop_mem_S {r : Ru} (h : r ∈ (rl n).drop (at' + c)) : ∃ i : Nat, 1 ≤ i ∧ i + at' + c ≤ n ∧ r = ruS (i : Int) i := by
  obtain ⟨j, hj1, hj2⟩ := List.getElem_of_mem h
  rw [List.length_drop, rl_len] at hj1
  have h3 := rl_at (k := n) (i := at' + c + j) (by omega)
  rw [List.getElem_drop] at hj2
  rw [List.getElem?_eq_getElem (by rw [rl_len]; omega), hj2] at h3
  injection h3 with h3
  exact ⟨n - (at' + c + j), by omega, by omega, h3⟩
theorem vS_right (h1 : at' < n) (h2 : n ≤ 50) (h3 : c ≤ n - at') (h4 : 1 ≤ c) : rightV (vS n at' c) = true := by
  have hlen : (vS n at' c).runs.length ≤ 1000 := by
    show ((rl n).take at' ++ (_ :: (rl n).drop (at' + c))).length ≤ 1000
    rw [List.length_append, List.length_cons, List.length_take, List.length_drop, rl_len]
    omega
  refine rightV_mk hlen (by show 1 ≤ (n : Int) + 2 ∧ (n : Int) + 2 ≤ 1099511627776; omega) (show okN 0 = true by decide) (by show n ≤ 72057594037927935; omega) ?_ (fun r hr => ?_) (falls_of (fun r hr => ?_) ?_)
  · show (((rl n).take at' ++ (ruS ((n : Int) + 1) (n - at') :: (rl n).drop (at' + c))).map (·.file)).Nodup
    unfold List.Nodup
    rw [List.pairwise_map, List.pairwise_append, List.pairwise_cons]
    refine ⟨((rl_falls n).sublist (List.take_sublist _ _)).imp fun h e => by have := h.1; omega, ⟨fun r hr e => ?_, ((rl_falls n).sublist (List.drop_sublist _ _)).imp fun h e => by have := h.1; omega⟩, fun r hr s hs e => ?_⟩
    · obtain ⟨i, _, h6, rfl⟩ := drop_mem_S hr
      have : (n : Int) + 1 = (i : Int) := e
      omega
    · obtain ⟨i, h5, h6, rfl⟩ := take_mem_S hr h1
      rcases List.mem_cons.1 hs with rfl | hs
      · have : (i : Int) = (n : Int) + 1 := e
        omega
      · obtain ⟨j, h7, h8, rfl⟩ := drop_mem_S hs
        have : (i : Int) = (j : Int) := e
        omega
  · unfold okV
    rw [Bool.and_eq_true, decide_eq_true_eq]
    rcases vS_mem hr with rfl | ⟨i, h5, h6, rfl⟩
    · exact ⟨okR_S (by omega) (by omega) (by omega) (by omega), by show (n : Int) + 1 < (n : Int) + 2; omega⟩
    · exact ⟨okR_S (by omega) (by omega) h5 (by omega), by show (i : Int) < (n : Int) + 2; omega⟩
  · show r.seq < n + 1
    rcases vS_mem hr with rfl | ⟨i, h5, h6, rfl⟩
    · show n - at' < n + 1; omega
    · show i < n + 1; omega
  · show ((rl n).take at' ++ (ruS ((n : Int) + 1) (n - at') :: (rl n).drop (at' + c))).Pairwise fun r s => s.seq < r.seq
    rw [List.pairwise_append, List.pairwise_cons]
    refine ⟨((rl_falls n).sublist (List.take_sublist _ _)).imp fun h => h.2, ⟨fun r hr => ?_, ((rl_falls n).sublist (List.drop_sublist _ _)).imp fun h => h.2⟩, fun r hr s hs => ?_⟩
    · obtain ⟨i, _, h6, rfl⟩ := drop_mem_S hr
      show i < n - at'
      omega
    · obtain ⟨i, h5, h6, rfl⟩ := take_mem_S hr h1
      rcases List.mem_cons.1 hs with rfl | hs
      · show n - at' < i; omega
      · obtain ⟨j, h7, h8, rfl⟩ := drop_mem_S hs
        show j < i; omega
theorem step_swap (h1 : at' < n) (h2 : n ≤ 50) (h3 : c ≤ n - at') (h4 : 1 ≤ c) : applyV (vN n) (eS n at' c) = (0, vS n at' c) := by
  have hs : spots (vN n).runs (eS n at' c).drop = some ((List.range c).map (at' + ·)) := spots_S c (Nat.le_refl _) h3 h1
  rw [apply_some (vN_right (by omega)) (eS_right h1 h2 h3) hs]
  have hd : (eS n at' c).drop ≠ [] := fun e => by
    have := congrArg List.length e
    rw [show (eS n at' c).drop = dropsN n at' c from rfl, dropsN_len] at this
    simp at this
    omega
  have ht : twice (vN n) (eS n at' c) = false := twice_false.2 fun r hr hsm => by
    have e : r = ruS ((n : Int) + 1) (n - at') := by simpa [eS] using hr
    subst e
    rw [show (vN n).runs = rl n from rfl, rl_none (by show (n : Int) < (n : Int) + 1; omega)] at hsm
    cases hsm
  have hl : low (vN n) (eS n at' c) ((List.range c).map (at' + ·)) = at' := by
    unfold low
    rw [if_neg hd]
    show lows _ (rl n).length = at'
    rw [rl_len, lows_S c h4 h1]
  have hh : high (eS n at' c) ((List.range c).map (at' + ·)) = (at' : Int) + (c : Int) - 1 := by
    unfold high
    rw [if_neg hd, highs_S c h4]
  have hj : joinV (vN n) (eS n at' c) at' ((at' : Int) + (c : Int) - 1) = vS n at' c := by
    unfold joinV eS vN vS
    have e1 : orI ((n : Int) + 2) ((n : Int) + 1) = (n : Int) + 2 := if_neg (by omega)
    have e2 : orN 0 n = n := if_pos rfl
    have e3 : orI 0 0 = 0 := rfl
    have e4 : max at' (((at' : Int) + (c : Int) - 1) + 1).toNat = at' + c := by omega
    simp only [e1, e2, e3, e4]
    rfl
  have hb : back (vN n) (eS n at' c) = false := by
    unfold back eS vN
    simp only [Bool.or_eq_false_iff, decide_eq_false_iff_not]
    refine ⟨by omega, by omega, by omega⟩
  rw [ht, if_neg (by simp), if_neg (by show ¬ 1000 < ((rl n).length : Int) - ((dropsN n at' c).length : Int) + (([_] : List Ru).length : Int); rw [rl_len, dropsN_len]; simp; omega)]
  rw [hl, hh, if_neg (by rw [show (eS n at' c).drop.length = c from dropsN_len n at' c]; omega), hj, hb, vS_right h1 h2 h3 h4, if_neg (by simp)]
theorem vS_len (h1 : at' < n) (h3 : c ≤ n - at') : (vS n at' c).runs.length = n - c + 1 := by
  show ((rl n).take at' ++ (_ :: (rl n).drop (at' + c))).length = _
  rw [List.length_append, List.length_cons, List.length_take, List.length_drop, rl_len]
  omega
/-- Which file stands where. -/
def want (n at' c i : Nat) : Int := if i = at' then (n : Int) + 1 else if at' < i then (n : Int) - (i : Int) - (c : Int) + 1 else (n : Int) - (i : Int)
theorem vS_at (h1 : at' < n) (h3 : c ≤ n - at') {i : Nat} {r : Ru} (h : (vS n at' c).runs[i]? = some r) : r.file = want n at' c i := by
  have hi := (List.getElem?_eq_some_iff.1 h).1
  rw [vS_len h1 h3] at hi
  have h : ((rl n).take at' ++ (ruS ((n : Int) + 1) (n - at') :: (rl n).drop (at' + c)))[i]? = some r := h
  have hl : ((rl n).take at').length = at' := by rw [List.length_take, rl_len]; omega
  unfold want
  by_cases ha : i < at'
  · rw [List.getElem?_append_left (by omega), List.getElem?_take_of_lt ha, rl_at (by omega)] at h
    injection h with h
    subst h
    rw [if_neg (by omega), if_neg (by omega)]
    show ((n - i : Nat) : Int) = _
    omega
  · rw [List.getElem?_append_right (by omega), hl] at h
    by_cases hb : i = at'
    · subst hb
      rw [Nat.sub_self] at h
      injection h with h
      subst h
      rw [if_pos rfl]
    · obtain ⟨j, hj⟩ : ∃ j, i - at' = j + 1 := ⟨i - at' - 1, by omega⟩
      rw [hj, List.getElem?_cons_succ, List.getElem?_drop, rl_at (by omega)] at h
      injection h with h
      subst h
      rw [if_neg hb, if_pos (by omega)]
      show ((n - (at' + c + j) : Nat) : Int) = _
      omega
theorem insI_new : ∀ {x : Int} {l : List Int}, x ∉ l → (insI x l).length = l.length + 1
  | x, [], _ => rfl
  | x, y :: l, h => by
    unfold insI
    split
    · rfl
    · split
      · rename_i e
        exact absurd (List.mem_cons.2 (.inl e)) h
      · rw [List.length_cons, insI_new fun hx => h (List.mem_cons.2 (.inr hx))]
        rfl
theorem sorted_full : ∀ {l : List Int}, l.Nodup → (l.foldr insI []).length = l.length
  | [], _ => rfl
  | x :: l, h => by
    obtain ⟨h1, h2⟩ := List.nodup_cons.1 h
    rw [List.foldr_cons, insI_new (fun hx => h1 ((sorted_mem x l).1 hx)), sorted_full h2]
    rfl
theorem live_S (h1 : at' < n) (h2 : n ≤ 50) (h3 : c ≤ n - at') (h4 : 1 ≤ c) : (liveV (vS n at' c)).length = n - c + 1 := by
  unfold liveV
  rw [if_pos (show (vS n at' c).log = 0 from rfl), List.append_nil, sorted_full (rightV_parts (vS_right h1 h2 h3 h4)).2.2.2.2.1, List.length_map, vS_len h1 h3]
end
end Go.Proofs.Ythhmjjmjicmhdaa.Ve
