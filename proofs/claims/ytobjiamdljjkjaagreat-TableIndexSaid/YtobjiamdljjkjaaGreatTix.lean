/- Plain mathematics of TableIndex: what the i-th entry of an index tells, and where the block that it speaks of lies. -/
import Derived.Test.YtobjiamdljjkjaaGreatJd
namespace Go.Proofs.YtobjiamdljjkjaaGreat.Tb
set_option linter.unusedVariables false
set_option linter.unusedSimpArgs false
open Go.RowKit Lift Ik Sk Vn Bk Bl Sq
/-- How many bytes and how many entries lie before the i-th part. -/
def atI (every : Nat) (ps : List (List T)) (i : Nat) : Nat := (data every (ps.take i)).length
def kI (ps : List (List T)) (i : Nat) : Nat := (ps.take i).flatten.length
theorem atI_zero (every : Nat) (ps : List (List T)) : atI every ps 0 = 0 := by simp [atI, data]
theorem kI_zero (ps : List (List T)) : kI ps 0 = 0 := by simp [kI]
theorem kI_end (ps : List (List T)) : kI ps ps.length = ps.flatten.length := by unfold kI; rw [List.take_length]
theorem atI_next {every : Nat} {ps : List (List T)} {i : Nat} (h : i < ps.length) : atI every ps (i + 1) = atI every ps i + (blk every ps[i]).length := by
  unfold atI data
  rw [List.take_succ_eq_append_getElem h, List.flatMap_append, List.length_append, List.flatMap_cons, List.flatMap_nil, List.append_nil]
theorem kI_next {ps : List (List T)} {i : Nat} (h : i < ps.length) : kI ps (i + 1) = kI ps i + ps[i].length := by
  unfold kI
  rw [List.take_succ_eq_append_getElem h, List.flatten_append, List.length_append, List.flatten_cons, List.flatten_nil, List.append_nil]
theorem data_split {every : Nat} {ps : List (List T)} {i : Nat} (h : i < ps.length) : data every ps = data every (ps.take i) ++ (blk every ps[i] ++ data every (ps.drop (i + 1))) := by
  have e : ps = ps.take i ++ ps[i] :: ps.drop (i + 1) := by rw [← List.drop_eq_getElem_cons h, List.take_append_drop]
  exact (congrArg (data every) e).trans (by unfold data; rw [List.flatMap_append, List.flatMap_cons])
theorem flat_split {ps : List (List T)} {i : Nat} (h : i < ps.length) : ps.flatten = (ps.take i).flatten ++ (ps[i] ++ (ps.drop (i + 1)).flatten) := by
  have e : ps = ps.take i ++ ps[i] :: ps.drop (i + 1) := by rw [← List.drop_eq_getElem_cons h, List.take_append_drop]
  exact (congrArg List.flatten e).trans (by rw [List.flatten_append, List.flatten_cons])
theorem idx_get {every : Nat} : ∀ (ps : List (List T)) (a i : Nat) (h : i < ps.length), (idx every a ps)[i]? = some (ptr (lastT ps[i]) (a + atI every ps i) (blk every ps[i]).length)
  | p :: ps, a, 0, h => by unfold idx; simp [atI_zero]
  | p :: ps, a, i + 1, h => by
    unfold idx
    rw [List.getElem?_cons_succ, idx_get ps _ i (by simpa using h)]
    have : atI every (p :: ps) (i + 1) = (blk every p).length + atI every ps i := by unfold atI; rw [List.take_succ_cons, data_cons, List.length_append]
    rw [this]
    simp [Nat.add_assoc]
theorem lastT_get {p : List T} (h : p ≠ []) : ∃ h2 : p.length - 1 < p.length, lastT p = p[p.length - 1] := by
  have hp := List.length_pos_iff.2 h
  refine ⟨by omega, ?_⟩
  unfold lastT
  rw [List.getLastD_eq_getLast?, List.getLast?_eq_some_getLast h, Option.getD_some, List.getLast_eq_getElem]
/-- What the index of a built table tells at place i. -/
structure IxAt (every : Nat) (bs : List Nat) (ts X : List T) (at' k : Nat) (x : T) (p : List T) : Prop where
  r1 : ∃ n, Vt.res x.val 0 = (at', n, 0) ∧ ∃ m z, Vt.res x.val (n : Nat) = (m, z, 0) ∧ at' + m ≤ bs.length ∧ allB ((bs.drop at').take m) = (p, 0) ∧ m = (blk every p).length
  some : p ≠ []
  fit : k + p.length ≤ ts.length
  same : (ts.drop k).take p.length = p
  last : ∀ h : p.length - 1 < p.length, x.k.key = p[p.length - 1].k.key ∧ x.k.seq = p[p.length - 1].k.seq
theorem ix_at {size every bits : Int} {ts : List T} (hm : mayT ts = 0) (hn : ts.length ≤ 200) {i : Nat} (hi : i < (parts (clampS size) [] ts).length) :
    ∃ x, (idx (clamp every) 0 (parts (clampS size) [] ts))[i]? = some x ∧
      IxAt (clamp every) (tabB size every bits ts) ts (idx (clamp every) 0 (parts (clampS size) [] ts)) (atI (clamp every) (parts (clampS size) [] ts) i) (kI (parts (clampS size) [] ts) i) x (parts (clampS size) [] ts)[i] := by
  have hl := (tabB_len (size := size) (every := every) (bits := bits) hm hn).2
  have hp : data (clamp every) (parts (clampS size) [] ts) <+: tabB size every bits ts := by
    rw [tabB_ok hm]
    exact ⟨_, rfl⟩
  have hf : (parts (clampS size) [] ts).flatten = ts := by rw [parts_flat, List.nil_append]
  have hne := parts_some (clampS size) ts []
  obtain ⟨hm1, -, -⟩ := mayT_zero hm
  have hmp := part_may (ps := parts (clampS size) [] ts) (by rw [hf]; exact hm1)
  have he := clamp_in every
  generalize tabB size every bits ts = bs at *
  generalize clamp every = ev at *
  generalize parts (clampS size) [] ts = ps at *
  obtain ⟨R, hR⟩ := hp
  rw [data_split hi] at hR
  have hmem : ps[i] ∈ ps := List.getElem_mem hi
  have hp1 := hne _ hmem
  have hx := idx_get (every := ev) ps 0 i hi
  rw [Nat.zero_add] at hx
  have hlen : atI ev ps i + (blk ev ps[i]).length ≤ bs.length := by
    rw [← hR]; simp only [List.length_append]; unfold atI; omega
  have hcut : (bs.drop (atI ev ps i)).take (blk ev ps[i]).length = blk ev ps[i] := by
    unfold atI
    rw [← hR, List.append_assoc, List.append_assoc, List.drop_left' rfl, List.take_left' rfl]
  obtain ⟨q1, q2⟩ := ptr_res (lastT ps[i]) (at' := atI ev ps i) (n := (blk ev ps[i]).length) (by omega) (by omega)
  refine ⟨_, hx, ⟨⟨_, q1, _, _, q2, hlen, ?_, rfl⟩, hp1, ?_, ?_, ?_⟩⟩
  · rw [hcut]
    exact allB_ok ⟨hmp _ hmem, ev, he.1, he.2, rfl⟩
  · rw [← hf, flat_split hi]; simp only [List.length_append]; unfold kI; omega
  · rw [← hf, flat_split hi]; unfold kI
    rw [List.drop_left' rfl, List.take_left' rfl]
  · intro h
    obtain ⟨h2, e⟩ := lastT_get hp1
    exact ⟨by show (lastT ps[i]).k.key = _; rw [e], by show (lastT ps[i]).k.seq = _; rw [e]⟩
end Go.Proofs.YtobjiamdljjkjaaGreat.Tb
