/- Package version's mathematics: versions as lists of runs, right ones, Apply and Live as the document states them, and the project's way to them. -/
import Derived.Test.YthhmjjmjicmhdaaEm
/- Plain mathematics of versions: which are right, what an edit makes of one. -/
namespace Go.Proofs.Ythhmjjmjicmhdaa.Ve
set_option linter.unusedVariables false
set_option linter.unusedSimpArgs false
open Ed
structure V where
  runs : List Ru
  next : Int
  log : Int
  seq : Nat
/-- Each run's number is below the bound, and that of the run before it. -/
def falls : Nat → List Ru → Bool
  | _, [] => true
  | b, r :: l => decide (r.seq < b) && falls r.seq l
def okV (next : Int) (r : Ru) : Bool := okR r && decide (r.file < next)
def rightV (v : V) : Bool :=
  decide (v.runs.length ≤ 1000) && (decide (1 ≤ v.next ∧ v.next ≤ 1099511627776) && (okN v.log && (decide (v.seq ≤ 72057594037927935) && (decide (v.runs.map (·.file)).Nodup && (v.runs.all (okV v.next) && falls (v.seq + 1) v.runs)))))
theorem rightV_parts {v : V} (h : rightV v = true) : v.runs.length ≤ 1000 ∧ (1 ≤ v.next ∧ v.next ≤ 1099511627776) ∧ okN v.log = true ∧ v.seq ≤ 72057594037927935 ∧ (v.runs.map (·.file)).Nodup ∧ (∀ r, r ∈ v.runs → okV v.next r = true) ∧ falls (v.seq + 1) v.runs = true := by
  unfold rightV at h
  simp only [Bool.and_eq_true, decide_eq_true_eq, List.all_eq_true] at h
  exact h
theorem rightV_mk {v : V} (h1 : v.runs.length ≤ 1000) (h2 : 1 ≤ v.next ∧ v.next ≤ 1099511627776) (h3 : okN v.log = true) (h4 : v.seq ≤ 72057594037927935) (h5 : (v.runs.map (·.file)).Nodup) (h6 : ∀ r, r ∈ v.runs → okV v.next r = true) (h7 : falls (v.seq + 1) v.runs = true) : rightV v = true := by
  unfold rightV
  simp only [Bool.and_eq_true, decide_eq_true_eq, List.all_eq_true]
  exact ⟨h1, h2, h3, h4, h5, h6, h7⟩
/-- The bound that the i-th run's number is held against. -/
def bound (v : V) (i : Nat) : Nat := if i = 0 then v.seq + 1 else ((v.runs[i - 1]?).map (·.seq)).getD 0
theorem falls_iff : ∀ (l : List Ru) (b : Nat), falls b l = true ↔ ∀ (i : Nat) (r : Ru), l[i]? = some r → r.seq < (if i = 0 then b else ((l[i - 1]?).map (·.seq)).getD 0)
  | [], b => by simp [falls]
  | r :: l, b => by
    unfold falls
    rw [Bool.and_eq_true, decide_eq_true_eq, falls_iff l r.seq]
    constructor
    · rintro ⟨h1, h2⟩ i s hs
      cases i with
      | zero =>
        have e : r = s := by simpa using hs
        subst e; simpa using h1
      | succ i =>
        have hs2 : l[i]? = some s := by simpa using hs
        have := h2 i s hs2
        cases i with
        | zero => simpa using this
        | succ i => simpa using this
    · intro h
      refine ⟨by have := h 0 r rfl; simpa using this, fun i s hs => ?_⟩
      have := h (i + 1) s (by simpa using hs)
      cases i with
      | zero => simpa using this
      | succ i => simpa using this
theorem falls_bound {v : V} : falls (v.seq + 1) v.runs = true ↔ ∀ (i : Nat) (r : Ru), v.runs[i]? = some r → r.seq < bound v i := falls_iff v.runs (v.seq + 1)
/-- Where a file's run stands. -/
def spot : List Ru → Int → Option Nat
  | [], _ => none
  | r :: l, f => if r.file = f then some 0 else (spot l f).map (· + 1)
def spotI (l : List Ru) (f : Int) : Int := match spot l f with
  | some i => (i : Int)
  | none => -1
theorem spot_lt : ∀ {l : List Ru} {f : Int} {i : Nat}, spot l f = some i → i < l.length ∧ ∃ r, l[i]? = some r ∧ r.file = f
  | r :: l, f, i, h => by
    unfold spot at h
    split at h
    · rename_i h0
      injection h with h
      subst h
      exact ⟨by simp, r, rfl, h0⟩
    · obtain ⟨j, hj, rfl⟩ := Option.map_eq_some_iff.1 h
      obtain ⟨h1, s, h2, h3⟩ := spot_lt hj
      exact ⟨by simp; omega, s, by simpa using h2, h3⟩
theorem spot_none : ∀ {l : List Ru} {f : Int}, spot l f = none ↔ ∀ r, r ∈ l → r.file ≠ f
  | [], f => by simp [spot]
  | r :: l, f => by
    unfold spot
    split
    · rename_i h0
      constructor
      · intro h; cases h
      · intro h; exact absurd h0 (h r (List.mem_cons_self ..))
    · rename_i h0
      rw [Option.map_eq_none_iff, spot_none (l := l)]
      constructor
      · intro h s hs
        rcases List.mem_cons.1 hs with rfl | hs
        · exact h0
        · exact h s hs
      · intro h s hs
        exact h s (List.mem_cons_of_mem _ hs)
/-- The first i runs have another file, the next one this one. -/
theorem spot_at {l : List Ru} {f : Int} {i : Nat} {r : Ru} (hi : l[i]? = some r) (hf : r.file = f) (h : ∀ s, s ∈ l.take i → s.file ≠ f) : spot l f = some i := by
  induction l generalizing i with
  | nil => simp at hi
  | cons a l ih =>
    cases i with
    | zero =>
      have e : a = r := by simpa using hi
      subst e
      unfold spot
      rw [if_pos hf]
    | succ i =>
      unfold spot
      rw [if_neg (h a (by simp)), ih (by simpa using hi) fun s hs => h s (by simp [hs])]
      rfl
/-- The least and the greatest place of what is dropped. -/
def lows (ps : List Nat) (n : Nat) : Nat := ps.foldl min n
def highs (ps : List Nat) : Int := ps.foldl (fun (h : Int) (p : Nat) => max h (p : Int)) (-1)
def orI (x d : Int) : Int := if x = 0 then d else x
def orN (x d : Nat) : Nat := if x = 0 then d else x
/-- What comes out: the first low runs, the new ones, and those behind the place high. -/
def joinV (v : V) (e : E) (low : Nat) (high : Int) : V :=
  ⟨v.runs.take low ++ (e.add ++ v.runs.drop (max low (high + 1).toNat)), orI e.next v.next, orI e.log v.log, orN e.seq v.seq⟩
def noV : V := ⟨[], 0, 0, 0⟩
def back (v : V) (e : E) : Bool := decide (e.next ≠ 0 ∧ e.next < v.next) || (decide (e.log ≠ 0 ∧ e.log < v.log) || decide (e.seq ≠ 0 ∧ e.seq < v.seq))
/-- The places of what is dropped; none where one is no run. -/
def spots (l : List Ru) : List Int → Option (List Nat)
  | [] => some []
  | f :: fs => match spot l f with
    | none => none
    | some p => (spots l fs).map (p :: ·)
def twice (v : V) (e : E) : Bool := e.add.any fun r => (spot v.runs r.file).isSome && !e.drop.contains r.file
def low (v : V) (e : E) (ps : List Nat) : Nat := if e.drop = [] then 0 else lows ps v.runs.length
def high (e : E) (ps : List Nat) : Int := if e.drop = [] then -1 else highs ps
/-- What Apply answers: an error and a version. -/
def applyV (v : V) (e : E) : Nat × V :=
  if rightV v = false ∨ right e = false then (1, noV) else
  match spots v.runs e.drop with
  | none => (8, noV)
  | some ps =>
    if twice v e = true then (9, noV) else
    if 1000 < (v.runs.length : Int) - (e.drop.length : Int) + (e.add.length : Int) then (3, noV) else
    if high e ps - (low v e ps : Int) + 1 ≠ (e.drop.length : Int) then (10, noV) else
    if back v e = true ∨ rightV (joinV v e (low v e ps) (high e ps)) = false then (10, noV) else
    (0, joinV v e (low v e ps) (high e ps))
theorem apply_right {v : V} {e : E} (h : (applyV v e).1 = 0) : rightV (applyV v e).2 = true := by
  unfold applyV at h ⊢
  split at h
  · cases h
  · rename_i h1
    rw [if_neg h1]
    split at h
    · cases h
    · rename_i ps hps
      split at h
      · cases h
      · rename_i h2
        rw [if_neg h2]
        split at h
        · cases h
        · rename_i h3
          rw [if_neg h3]
          split at h
          · cases h
          · rename_i h4
            rw [if_neg h4]
            split at h
            · cases h
            · rename_i h5
              rw [if_neg h5]
              simp only
              cases hr : rightV (joinV v e (low v e ps) (high e ps))
              · exact absurd (.inr hr) h5
              · rfl
/-- The files that a version needs, rising, each once. -/
def insI (x : Int) : List Int → List Int
  | [] => [x]
  | y :: l => if x < y then x :: y :: l else if x = y then y :: l else y :: insI x l
def liveV (v : V) : List Int := (v.runs.map (·.file) ++ (if v.log = 0 then [] else [v.log])).foldr insI []
end Go.Proofs.Ythhmjjmjicmhdaa.Ve

/- Plain mathematics of Apply: its loops. -/
namespace Go.Proofs.Ythhmjjmjicmhdaa.Ve
set_option linter.unusedVariables false
set_option linter.unusedSimpArgs false
open Ed
theorem spots_snoc : ∀ (l : List Ru) (fs : List Int) (f : Int), spots l (fs ++ [f]) = match spots l fs with
    | none => none
    | some ps => (spot l f).map fun p => ps ++ [p]
  | l, [], f => by
    simp only [List.nil_append, spots]
    cases spot l f <;> rfl
  | l, g :: fs, f => by
    simp only [List.cons_append, spots]
    cases h : spot l g with
    | none => rfl
    | some q =>
      simp only
      rw [spots_snoc l fs f]
      cases spots l fs with
      | none => rfl
      | some ps => cases spot l f <;> rfl
theorem spots_none_mono {l : List Ru} {fs gs : List Int} (h : spots l fs = none) : spots l (fs ++ gs) = none := by
  induction fs with
  | nil => cases h
  | cons f fs ih =>
    simp only [List.cons_append, spots] at h ⊢
    cases hq : spot l f with
    | none => rfl
    | some q =>
      rw [hq] at h
      simp only at h ⊢
      have h2 : spots l fs = none := by
        cases hs : spots l fs with
        | none => rfl
        | some ps => rw [hs] at h; cases h
      rw [ih h2]; rfl
theorem spots_len {l : List Ru} : ∀ {fs : List Int} {ps : List Nat}, spots l fs = some ps → ps.length = fs.length ∧ ∀ p, p ∈ ps → p < l.length
  | [], ps, h => by
    simp only [spots] at h
    injection h with h
    subst h
    exact ⟨rfl, fun p hp => by cases hp⟩
  | f :: fs, ps, h => by
    simp only [spots] at h
    cases hq : spot l f with
    | none => rw [hq] at h; cases h
    | some q =>
      rw [hq] at h
      simp only at h
      obtain ⟨qs, h1, h2⟩ := Option.map_eq_some_iff.1 h
      subst h2
      obtain ⟨a, b⟩ := spots_len h1
      refine ⟨by simp [a], fun p hp => ?_⟩
      rcases List.mem_cons.1 hp with rfl | hp
      · exact (spot_lt hq).1
      · exact b p hp
theorem lows_snoc (ps : List Nat) (p n : Nat) : lows (ps ++ [p]) n = min (lows ps n) p := by unfold lows; rw [List.foldl_append]; rfl
theorem highs_snoc (ps : List Nat) (p : Nat) : highs (ps ++ [p]) = max (highs ps) (p : Int) := by unfold highs; rw [List.foldl_append]; rfl
theorem lows_le : ∀ (ps : List Nat) (n : Nat), lows ps n ≤ n
  | [], n => Nat.le_refl n
  | p :: ps, n => by
    have := lows_le ps (min n p)
    unfold lows at this ⊢
    rw [List.foldl_cons]
    omega
theorem highs_from : ∀ (ps : List Nat) (h : Int) (n : Nat), (∀ p, p ∈ ps → p < n) → h < (n : Int) → h ≤ ps.foldl (fun (h : Int) (p : Nat) => max h (p : Int)) h ∧ ps.foldl (fun (h : Int) (p : Nat) => max h (p : Int)) h < (n : Int)
  | [], h, n, _, h2 => ⟨Int.le_refl _, h2⟩
  | p :: ps, h, n, hp, h2 => by
    rw [List.foldl_cons]
    have h3 := hp p (List.mem_cons_self ..)
    obtain ⟨a, b⟩ := highs_from ps (max h (p : Int)) n (fun q hq => hp q (List.mem_cons_of_mem _ hq)) (by omega)
    exact ⟨by omega, b⟩
theorem highs_bounds {ps : List Nat} {n : Nat} (h : ∀ p, p ∈ ps → p < n) : -1 ≤ highs ps ∧ highs ps < (n : Int) := highs_from ps (-1) n h (by omega)
theorem spotI_nat {l : List Ru} {f : Int} {p : Nat} (h : spot l f = some p) : spotI l f = (p : Int) := by unfold spotI; rw [h]
theorem spotI_none {l : List Ru} {f : Int} (h : spot l f = none) : spotI l f = -1 := by unfold spotI; rw [h]
theorem twice_false {v : V} {e : E} : twice v e = false ↔ ∀ r, r ∈ e.add → (spot v.runs r.file).isSome = true → r.file ∈ e.drop := by
  unfold twice
  rw [List.any_eq_false]
  constructor
  · intro h r hr hs
    have := h r hr
    rw [hs] at this
    simp at this
    exact this
  · intro h r hr
    cases hs : (spot v.runs r.file).isSome with
    | false => simp
    | true => simp [h r hr hs]
theorem twice_true {v : V} {e : E} {r : Ru} (hr : r ∈ e.add) (hs : (spot v.runs r.file).isSome = true) (hd : ¬ r.file ∈ e.drop) : twice v e = true := by
  cases h : twice v e with
  | true => rfl
  | false => exact absurd (twice_false.1 h r hr hs) hd
/-! What Apply answers, case by case -/
section
variable {v : V} {e : E} {ps : List Nat}
theorem apply_arg (h : rightV v = false ∨ right e = false) : applyV v e = (1, noV) := by unfold applyV; rw [if_pos h]
theorem apply_none (h1 : rightV v = true) (h2 : right e = true) (h : spots v.runs e.drop = none) : applyV v e = (8, noV) := by
  unfold applyV
  rw [if_neg (by rw [h1, h2]; simp), h]
theorem apply_some (h1 : rightV v = true) (h2 : right e = true) (h : spots v.runs e.drop = some ps) : applyV v e = if twice v e = true then (9, noV) else
    if 1000 < (v.runs.length : Int) - (e.drop.length : Int) + (e.add.length : Int) then (3, noV) else
    if high e ps - (low v e ps : Int) + 1 ≠ (e.drop.length : Int) then (10, noV) else
    if back v e = true ∨ rightV (joinV v e (low v e ps) (high e ps)) = false then (10, noV) else
    (0, joinV v e (low v e ps) (high e ps)) := by
  unfold applyV
  rw [if_neg (by rw [h1, h2]; simp), h]
theorem apply_few (v : V) (e : E) : (applyV v e).2.runs.length ≤ 1000 := by
  by_cases h : (applyV v e).1 = 0
  · exact (rightV_parts (apply_right h)).1
  · have h2 : (applyV v e).2 = noV := by
      unfold applyV at h ⊢
      repeat' split
      all_goals first | rfl | skip
      all_goals simp_all
    rw [h2]; exact Nat.zero_le _
theorem low_le : low v e ps ≤ v.runs.length := by unfold low; split; exact Nat.zero_le _; exact lows_le _ _
theorem high_bounds (h : ∀ p, p ∈ ps → p < v.runs.length) : -1 ≤ high e ps ∧ high e ps < (v.runs.length : Int) ∨ (e.drop = [] ∧ high e ps = -1) := by
  unfold high
  split
  · exact .inr ⟨by assumption, rfl⟩
  · exact .inl (highs_bounds h)
end
end Go.Proofs.Ythhmjjmjicmhdaa.Ve

/- Plain mathematics of Live: rising lists. -/
namespace Go.Proofs.Ythhmjjmjicmhdaa.Ve
set_option linter.unusedVariables false
set_option linter.unusedSimpArgs false
open Ed
def Asc (l : List Int) : Prop := l.Pairwise (· < ·)
theorem insI_mem (x z : Int) : ∀ l : List Int, z ∈ insI x l ↔ z = x ∨ z ∈ l
  | [] => by simp [insI]
  | y :: l => by
    unfold insI
    split
    · simp
    · split
      · rename_i h
        subst h
        simp
      · rw [List.mem_cons, insI_mem x z l, List.mem_cons]
        constructor
        · rintro (h | h | h)
          · exact .inr (.inl h)
          · exact .inl h
          · exact .inr (.inr h)
        · rintro (h | h | h)
          · exact .inr (.inl h)
          · exact .inl h
          · exact .inr (.inr h)
theorem insI_asc {x : Int} : ∀ {l : List Int}, Asc l → Asc (insI x l)
  | [], _ => by simp [insI, Asc]
  | y :: l, h => by
    have h := List.pairwise_cons.1 h
    unfold insI
    split
    · rename_i h0
      exact List.pairwise_cons.2 ⟨fun z hz => by
        rcases List.mem_cons.1 hz with rfl | hz
        · exact h0
        · have := h.1 z hz; omega, List.pairwise_cons.2 h⟩
    · split
      · exact List.pairwise_cons.2 h
      · exact List.pairwise_cons.2 ⟨fun z hz => by
          rcases (insI_mem x z l).1 hz with rfl | hz
          · omega
          · exact h.1 z hz, insI_asc h.2⟩
theorem sorted_mem (z : Int) : ∀ l : List Int, z ∈ l.foldr insI [] ↔ z ∈ l
  | [] => by simp
  | y :: l => by rw [List.foldr_cons, insI_mem, sorted_mem z l, List.mem_cons]
theorem sorted_asc : ∀ l : List Int, Asc (l.foldr insI [])
  | [] => List.Pairwise.nil
  | y :: l => insI_asc (sorted_asc l)
theorem asc_unique : ∀ {a b : List Int}, Asc a → Asc b → (∀ z, z ∈ a ↔ z ∈ b) → a = b
  | [], [], _, _, _ => rfl
  | [], y :: b, _, _, h => absurd ((h y).2 (List.mem_cons_self ..)) (by simp)
  | x :: a, [], _, _, h => absurd ((h x).1 (List.mem_cons_self ..)) (by simp)
  | x :: a, y :: b, ha, hb, h => by
    have ha := List.pairwise_cons.1 ha
    have hb := List.pairwise_cons.1 hb
    have e : x = y := by
      rcases List.mem_cons.1 ((h x).1 (List.mem_cons_self ..)) with h1 | h1
      · exact h1
      · rcases List.mem_cons.1 ((h y).2 (List.mem_cons_self ..)) with h2 | h2
        · exact h2.symm
        · have := hb.1 x h1
          have := ha.1 y h2
          omega
    subst e
    rw [asc_unique ha.2 hb.2 fun z => ?_]
    have hz := h z
    rw [List.mem_cons, List.mem_cons] at hz
    constructor
    · intro h1
      rcases hz.1 (.inr h1) with h2 | h2
      · have := ha.1 z h1; omega
      · exact h2
    · intro h1
      rcases hz.2 (.inr h1) with h2 | h2
      · have := hb.1 z h1; omega
      · exact h2
/-- The files that a version names. -/
def fileL (v : V) : List Int := v.runs.map (·.file) ++ (if v.log = 0 then [] else [v.log])
theorem liveV_iff {v : V} {out : List Int} (h : Asc out) (hm : ∀ z, z ∈ out ↔ z ∈ fileL v) : out = liveV v := by
  have e : liveV v = (fileL v).foldr insI [] := rfl
  rw [e]
  exact asc_unique h (sorted_asc _) fun z => by rw [hm, sorted_mem]
theorem live_mem {v : V} {z : Int} : z ∈ liveV v ↔ z ∈ fileL v := sorted_mem z _
theorem live_asc (v : V) : Asc (liveV v) := sorted_asc _
theorem insI_len (x : Int) : ∀ l : List Int, (insI x l).length ≤ l.length + 1
  | [] => by simp [insI]
  | y :: l => by
    unfold insI
    split
    · simp
    · split
      · simp
      · have := insI_len x l
        simp only [List.length_cons]; omega
theorem sorted_len : ∀ l : List Int, (l.foldr insI []).length ≤ l.length
  | [] => Nat.le_refl _
  | y :: l => by
    have h1 := sorted_len l
    have h2 := insI_len y (l.foldr insI [])
    rw [List.foldr_cons, List.length_cons]; omega
theorem live_len (v : V) : (liveV v).length ≤ (fileL v).length := sorted_len _
theorem asc_snoc {out : List Int} {m : Int} (h : Asc out) (hm : ∀ z, z ∈ out → z ≤ m) (hn : m ∉ out) : Asc (out ++ [m]) :=
  List.pairwise_append.2 ⟨h, List.pairwise_singleton _ _, fun a ha b hb => by
    have e : b = m := by simpa using hb
    have h1 := hm a ha
    have h2 : a ≠ m := fun e2 => hn (e2 ▸ ha)
    omega⟩
/-- What Live's loop keeps: what is out is rising and not above what is left; together they are all. -/
structure Lv (all l out : List Int) : Prop where
  asc : Asc out
  le : ∀ z, z ∈ out → ∀ y, y ∈ l → z ≤ y
  mem : ∀ z, z ∈ out ∨ z ∈ l ↔ z ∈ all
theorem Lv.start (l : List Int) : Lv l l [] := ⟨List.Pairwise.nil, (fun z h => by cases h), fun z => by simp⟩
theorem Lv.stop {v : V} {out : List Int} (h : Lv (fileL v) [] out) : out = liveV v := liveV_iff h.asc fun z => by rw [← h.mem z]; simp
theorem mem_cut {l : List Int} {k : Nat} {m z : Int} (hk : l[k]? = some m) : z ∈ l ↔ z = m ∨ z ∈ l.take k ++ l.drop (k + 1) := by
  have h1 : l = l.take k ++ m :: l.drop (k + 1) := by
    have hlt := (List.getElem?_eq_some_iff.1 hk).1
    have e : m = l[k] := ((List.getElem?_eq_some_iff.1 hk).2).symm
    rw [e, ← List.drop_eq_getElem_cons hlt, List.take_append_drop]
  constructor
  · intro h
    rw [h1] at h
    simp only [List.mem_append, List.mem_cons] at h ⊢
    rcases h with h | h | h
    · exact .inr (.inl h)
    · exact .inl h
    · exact .inr (.inr h)
  · intro h
    rw [h1]
    simp only [List.mem_append, List.mem_cons] at h ⊢
    rcases h with h | h | h
    · exact .inr (.inl h)
    · exact .inl h
    · exact .inr (.inr h)
/-- The least goes out, or was there. -/
theorem Lv.step {all l out : List Int} {k : Nat} {m : Int} (h : Lv all l out) (hk : l[k]? = some m) (hm : ∀ y, y ∈ l → m ≤ y) :
    Lv all (l.take k ++ l.drop (k + 1)) (if m ∈ out then out else out ++ [m]) := by
  have hml := List.mem_of_getElem? hk
  split
  · rename_i hin
    refine ⟨h.asc, fun z hz y hy => h.le z hz y ((mem_cut hk).2 (.inr hy)), fun z => ?_⟩
    rw [← h.mem z, mem_cut hk]
    constructor
    · rintro (a | a)
      · exact .inl a
      · exact .inr (.inr a)
    · rintro (a | rfl | a)
      · exact .inl a
      · exact .inl hin
      · exact .inr a
  · rename_i hin
    refine ⟨asc_snoc h.asc (fun z hz => h.le z hz m hml) hin, fun z hz y hy => ?_, fun z => ?_⟩
    · have hy2 := (mem_cut hk).2 (.inr hy)
      rcases List.mem_append.1 hz with hz | hz
      · exact h.le z hz y hy2
      · have e : z = m := by simpa using hz
        rw [e]; exact hm y hy2
    · rw [← h.mem z, mem_cut hk, List.mem_append, List.mem_singleton]
      constructor
      · rintro ((a | a) | a)
        · exact .inl a
        · exact .inr (.inl a)
        · exact .inr (.inr a)
      · rintro (a | a | a)
        · exact .inl (.inl a)
        · exact .inl (.inr a)
        · exact .inr a
end Go.Proofs.Ythhmjjmjicmhdaa.Ve

/- Plain mathematics of the project's Apply: what is kept, where it is cut, and that this is the document's answer. -/
namespace Go.Proofs.Ythhmjjmjicmhdaa.Ve
set_option linter.unusedVariables false
set_option linter.unusedSimpArgs false
open Ed
/-- A run that an edit drops. -/
def gone (e : E) (r : Ru) : Bool := decide (r.file ∈ e.drop)
def keptR (v : V) (e : E) : List Ru := v.runs.filter fun r => !gone e r
def fromR (v : V) (e : E) : Nat := (v.runs.findIdx? (gone e)).getD 0
theorem sub_len : ∀ {l m : List Int}, l.Nodup → (∀ x, x ∈ l → x ∈ m) → l.length ≤ m.length
  | [], m, _, _ => Nat.zero_le _
  | a :: l, m, hn, hs => by
    obtain ⟨h1, h2⟩ := List.nodup_cons.1 hn
    have ha := hs a (List.mem_cons_self ..)
    have h3 := sub_len (l := l) (m := m.erase a) h2 fun x hx => (List.mem_erase_of_ne fun (e : x = a) => h1 (e ▸ hx)).2 (hs x (List.mem_cons_of_mem _ hx))
    rw [List.length_erase_of_mem ha] at h3
    have h4 := List.length_pos_of_mem ha
    simp only [List.length_cons]
    omega
theorem sub_all {l m : List Int} (h : l.Nodup) (hs : ∀ x, x ∈ l → x ∈ m) (he : m.length ≤ l.length) {x : Int} (hx : x ∈ m) : x ∈ l := by
  by_cases h1 : x ∈ l
  · exact h1
  · have := sub_len (l := x :: l) (m := m) (List.nodup_cons.2 ⟨h1, h⟩) fun y hy => by
      rcases List.mem_cons.1 hy with rfl | hy
      · exact hx
      · exact hs y hy
    simp only [List.length_cons] at this
    omega
theorem part_len (l : List Ru) (p : Ru → Bool) : (l.filter p).length + (l.filter fun r => !p r).length = l.length := by
  induction l with
  | nil => rfl
  | cons a l ih =>
    cases h : p a <;> simp [h] <;> omega
theorem spots_some {l : List Ru} : ∀ {fs : List Int}, (∀ f, f ∈ fs → ∃ r, r ∈ l ∧ r.file = f) → ∃ ps, spots l fs = some ps
  | [], _ => ⟨[], rfl⟩
  | f :: fs, h => by
    obtain ⟨ps, hp⟩ := spots_some (l := l) (fs := fs) fun g hg => h g (List.mem_cons_of_mem _ hg)
    obtain ⟨r, hr, hf⟩ := h f (List.mem_cons_self ..)
    cases hs : spot l f with
    | none => exact absurd hf (spot_none.1 hs r hr)
    | some q => exact ⟨q :: ps, by simp only [spots, hs, hp, Option.map_some]⟩
theorem spots_all {l : List Ru} : ∀ {fs : List Int} {ps : List Nat}, spots l fs = some ps → ∀ q, q ∈ ps ↔ ∃ f, f ∈ fs ∧ spot l f = some q
  | [], ps, h, q => by
    simp only [spots] at h
    injection h with h
    subst h
    simp
  | f :: fs, ps, h, q => by
    simp only [spots] at h
    cases hs : spot l f with
    | none => rw [hs] at h; cases h
    | some s =>
      rw [hs] at h
      simp only at h
      obtain ⟨qs, h1, h2⟩ := Option.map_eq_some_iff.1 h
      subst h2
      have ih := spots_all h1 q
      rw [List.mem_cons, ih]
      constructor
      · rintro (rfl | ⟨g, hg, h3⟩)
        · exact ⟨f, List.mem_cons_self .., hs⟩
        · exact ⟨g, List.mem_cons_of_mem _ hg, h3⟩
      · rintro ⟨g, hg, h3⟩
        rcases List.mem_cons.1 hg with rfl | hg
        · rw [hs] at h3
          injection h3 with h3
          exact .inl h3.symm
        · exact .inr ⟨g, hg, h3⟩
theorem spots_in {l : List Ru} {fs : List Int} {ps : List Nat} (h : spots l fs = some ps) {f : Int} (hf : f ∈ fs) : ∃ r, r ∈ l ∧ r.file = f := by
  induction fs generalizing ps with
  | nil => cases hf
  | cons g fs ih =>
    simp only [spots] at h
    cases hs : spot l g with
    | none => rw [hs] at h; cases h
    | some s =>
      rw [hs] at h
      simp only at h
      obtain ⟨qs, h1, h2⟩ := Option.map_eq_some_iff.1 h
      rcases List.mem_cons.1 hf with rfl | hf
      · obtain ⟨h3, r, h4, h5⟩ := spot_lt hs
        exact ⟨r, List.mem_of_getElem? h4, h5⟩
      · exact ih h1 hf
/-- Files that differ: a run stands where its file's spot is. -/
theorem spot_own {l : List Ru} (hn : (l.map (·.file)).Nodup) {i : Nat} {r : Ru} (h : l[i]? = some r) : spot l r.file = some i := by
  refine spot_at h rfl fun s hs he => ?_
  obtain ⟨j, hj, hjs⟩ := List.mem_take_iff_getElem.1 hs
  have hi := (List.getElem?_eq_some_iff.1 h)
  have h1 : (l.map (·.file))[j]'(by simp; omega) = (l.map (·.file))[i]'(by simp; exact hi.1) := by
    rw [List.getElem_map, List.getElem_map, hjs, he]
    obtain ⟨h2, h3⟩ := hi
    rw [h3]
  have h2 : j < (l.map (·.file)).length := by rw [List.length_map]; omega
  have h3 : i < (l.map (·.file)).length := by rw [List.length_map]; exact hi.1
  exact List.pairwise_iff_getElem.1 hn j i h2 h3 (by omega) h1
section
variable {v : V} {e : E}
theorem gone_iff {r : Ru} : gone e r = true ↔ r.file ∈ e.drop := by unfold gone; exact decide_eq_true_iff
theorem gone_in : ∀ x, x ∈ (v.runs.filter (gone e)).map (·.file) → x ∈ e.drop := by
  intro x hx
  obtain ⟨r, hr, rfl⟩ := List.mem_map.1 hx
  exact gone_iff.1 (List.mem_filter.1 hr).2
theorem gone_nodup (hn : (v.runs.map (·.file)).Nodup) : ((v.runs.filter (gone e)).map (·.file)).Nodup :=
  List.Nodup.sublist ((List.filter_sublist).map _) hn
theorem gone_le (hn : (v.runs.map (·.file)).Nodup) : (v.runs.filter (gone e)).length ≤ e.drop.length := by
  have := sub_len (gone_nodup (e := e) hn) gone_in
  rwa [List.length_map] at this
/-- One of the files is no run, where too much is kept. -/
theorem kept_none (hn : (v.runs.map (·.file)).Nodup) (hd : e.drop.Nodup) : v.runs.length < (keptR v e).length + e.drop.length ↔ spots v.runs e.drop = none := by
  have h1 := part_len v.runs (gone e)
  have h2 := gone_le (e := e) hn
  have h3 : (v.runs.filter fun r => !gone e r).length = (keptR v e).length := rfl
  constructor
  · intro h
    cases hs : spots v.runs e.drop with
    | none => rfl
    | some ps =>
      exfalso
      have h4 := sub_len (l := e.drop) (m := (v.runs.filter (gone e)).map (·.file)) hd fun x hx => by
        obtain ⟨r, hr, rfl⟩ := spots_in hs hx
        exact List.mem_map_of_mem (List.mem_filter.2 ⟨hr, gone_iff.2 hx⟩)
      rw [List.length_map] at h4
      omega
  · intro h
    rcases Nat.lt_or_ge v.runs.length ((keptR v e).length + e.drop.length) with h4 | h4
    · exact h4
    · exfalso
      obtain ⟨ps, hp⟩ := spots_some (l := v.runs) (fs := e.drop) fun f hf => by
        have := sub_all (gone_nodup (e := e) hn) gone_in (by rw [List.length_map]; omega) hf
        obtain ⟨r, hr, hf⟩ := List.mem_map.1 this
        exact ⟨r, (List.mem_filter.1 hr).1, hf⟩
      rw [h] at hp
      cases hp
theorem kept_len {ps : List Nat} (hn : (v.runs.map (·.file)).Nodup) (hd : e.drop.Nodup) (h : spots v.runs e.drop = some ps) : (keptR v e).length + e.drop.length = v.runs.length ∧ (v.runs.filter (gone e)).length = e.drop.length := by
  have h1 := part_len v.runs (gone e)
  have h2 := gone_le (e := e) hn
  have h3 : (v.runs.filter fun r => !gone e r).length = (keptR v e).length := rfl
  have h4 : ¬ v.runs.length < (keptR v e).length + e.drop.length := fun h5 => by
    have := (kept_none hn hd).1 h5
    rw [h] at this
    cases this
  omega
theorem twice_kept : twice v e = (keptR v e).any fun r => decide (r.file ∈ e.add.map (·.file)) := by
  rw [Bool.eq_iff_iff]
  unfold twice
  rw [List.any_eq_true, List.any_eq_true]
  constructor
  · rintro ⟨r, hr, h⟩
    rw [Bool.and_eq_true] at h
    obtain ⟨q, hq⟩ := Option.isSome_iff_exists.1 h.1
    obtain ⟨_, s, hs, hf⟩ := spot_lt hq
    refine ⟨s, List.mem_filter.2 ⟨List.mem_of_getElem? hs, ?_⟩, ?_⟩
    · have h2 := h.2
      unfold gone
      rw [hf]
      simpa using h2
    · rw [decide_eq_true_eq, hf]
      exact List.mem_map_of_mem hr
  · rintro ⟨s, hs, h⟩
    rw [decide_eq_true_eq] at h
    obtain ⟨r, hr, hf⟩ := List.mem_map.1 h
    obtain ⟨h1, h2⟩ := List.mem_filter.1 hs
    refine ⟨r, hr, ?_⟩
    rw [Bool.and_eq_true]
    constructor
    · cases hq : spot v.runs r.file with
      | none => exact absurd hf.symm (spot_none.1 hq s h1)
      | some q => rfl
    · have h2 : (!gone e s) = true := h2
      unfold gone at h2
      rw [hf]
      simpa using h2
theorem lows_mem : ∀ {ps : List Nat} {n : Nat}, lows ps n = n ∨ lows ps n ∈ ps
  | [], n => .inl rfl
  | p :: ps, n => by
    have h := lows_mem (ps := ps) (n := min n p)
    have e : lows (p :: ps) n = lows ps (min n p) := rfl
    rw [e]
    rcases h with h | h
    · rw [h]
      rcases Nat.le_total n p with h2 | h2
      · left; omega
      · right; rw [show min n p = p by omega]; exact List.mem_cons_self ..
    · exact .inr (List.mem_cons_of_mem _ h)
theorem lows_min : ∀ {ps : List Nat} {n q : Nat}, q ∈ ps → lows ps n ≤ q
  | p :: ps, n, q, h => by
    have e : lows (p :: ps) n = lows ps (min n p) := rfl
    rw [e]
    rcases List.mem_cons.1 h with rfl | h
    · have := lows_le ps (min n q); omega
    · exact lows_min h
theorem highs_go : ∀ (ps : List Nat) (h : Int), h ≤ ps.foldl (fun (h : Int) (p : Nat) => max h (p : Int)) h ∧ (∀ q, q ∈ ps → (q : Int) ≤ ps.foldl (fun (h : Int) (p : Nat) => max h (p : Int)) h) ∧ (ps.foldl (fun (h : Int) (p : Nat) => max h (p : Int)) h = h ∨ ∃ q, q ∈ ps ∧ ps.foldl (fun (h : Int) (p : Nat) => max h (p : Int)) h = (q : Int))
  | [], h => ⟨Int.le_refl _, fun q hq => (by cases hq), .inl rfl⟩
  | p :: ps, h => by
    rw [List.foldl_cons]
    obtain ⟨h1, h2, h3⟩ := highs_go ps (max h (p : Int))
    refine ⟨by omega, fun q hq => ?_, ?_⟩
    · rcases List.mem_cons.1 hq with rfl | hq
      · omega
      · exact h2 q hq
    · rcases h3 with h3 | ⟨q, hq, h3⟩
      · rcases Int.le_total h (p : Int) with h4 | h4
        · exact .inr ⟨p, List.mem_cons_self .., by rw [h3]; omega⟩
        · exact .inl (by rw [h3]; omega)
      · exact .inr ⟨q, List.mem_cons_of_mem _ hq, h3⟩
theorem highs_max {ps : List Nat} (h : ps ≠ []) : ∃ q, q ∈ ps ∧ highs ps = (q : Int) ∧ ∀ r, r ∈ ps → r ≤ q := by
  obtain ⟨h1, h2, h3⟩ := highs_go ps (-1)
  rcases h3 with h3 | ⟨q, hq, h3⟩
  · obtain ⟨p, hp⟩ : ∃ p, p ∈ ps := by
      cases ps with
      | nil => exact absurd rfl h
      | cons p ps => exact ⟨p, List.mem_cons_self ..⟩
    have := h2 p hp
    omega
  · refine ⟨q, hq, h3, fun r hr => ?_⟩
    have := h2 r hr
    omega
/-- The places of what is dropped. -/
theorem place_gone {ps : List Nat} (hn : (v.runs.map (·.file)).Nodup) (h : spots v.runs e.drop = some ps) (q : Nat) : q ∈ ps ↔ ∃ r, v.runs[q]? = some r ∧ gone e r = true := by
  rw [spots_all h q]
  constructor
  · rintro ⟨f, hf, hs⟩
    obtain ⟨_, r, h1, h2⟩ := spot_lt hs
    exact ⟨r, h1, gone_iff.2 (by rw [h2]; exact hf)⟩
  · rintro ⟨r, h1, h2⟩
    exact ⟨r.file, gone_iff.1 h2, spot_own hn h1⟩
theorem fil_none {α : Type} {l : List α} {p : α → Bool} (h : ∀ x, x ∈ l → p x = false) : l.filter p = [] := by
  rw [List.filter_eq_nil_iff]
  intro x hx
  rw [h x hx]
  simp
/-- Three parts: ahead of p nothing is dropped, behind it m runs, and the rest. -/
theorem three (l : List Ru) (p m : Nat) : l = l.take p ++ ((l.drop p).take m ++ l.drop (p + m)) := by
  rw [← List.drop_drop, List.take_append_drop, List.take_append_drop]
theorem any_drop {l : List Ru} {f : Ru → Bool} {k : Nat} : (l.drop k).any f = false ↔ ∀ q r, l[q]? = some r → f r = true → q < k := by
  rw [List.any_eq_false]
  constructor
  · intro h q r hq hf
    rcases Nat.lt_or_ge q k with h1 | h1
    · exact h1
    · refine absurd hf (h r (List.mem_of_getElem? (i := q - k) ?_))
      rw [List.getElem?_drop, show k + (q - k) = q by omega, hq]
  · intro h r hr hf
    obtain ⟨i, hi⟩ := List.mem_iff_getElem?.1 hr
    rw [List.getElem?_drop] at hi
    have := h _ r hi hf
    omega
theorem take_free {l : List Ru} {f : Ru → Bool} {p : Nat} (h : ∀ q r, l[q]? = some r → f r = true → p ≤ q) : ∀ x, x ∈ l.take p → f x = false := by
  intro x hx
  obtain ⟨j, hj, hjs⟩ := List.mem_take_iff_getElem.1 hx
  cases hf : f x with
  | false => rfl
  | true =>
    have := h j x (List.getElem?_eq_some_iff.2 ⟨by omega, hjs⟩) hf
    omega
theorem all_of_len {α : Type} {f : α → Bool} : ∀ {l : List α}, (l.filter f).length = l.length → ∀ x, x ∈ l → f x = true := fun h => List.length_filter_eq_length_iff.1 h
/-- Where nothing is dropped behind the first m places from p on, all m of them are; what is kept stands around them. -/
theorem kept_cut {p : Nat} (hm : (v.runs.filter (gone e)).length = e.drop.length) (h1 : ∀ q r, v.runs[q]? = some r → gone e r = true → p ≤ q) (h2 : (v.runs.drop (p + e.drop.length)).any (gone e) = false) :
    keptR v e = v.runs.take p ++ v.runs.drop (p + e.drop.length) := by
  have h3 := three v.runs p e.drop.length
  have f1 := fil_none (take_free h1)
  have f3 : (v.runs.drop (p + e.drop.length)).filter (gone e) = [] := fil_none fun x hx => by
    have := List.any_eq_false.1 h2 x hx
    simpa using this
  have h4 : (v.runs.filter (gone e)) = ((v.runs.drop p).take e.drop.length).filter (gone e) := by
    conv => lhs; rw [h3]
    rw [List.filter_append, List.filter_append, f1, f3, List.nil_append, List.append_nil]
  have h5 : ((v.runs.drop p).take e.drop.length).length ≤ e.drop.length := by rw [List.length_take]; omega
  have h6 := List.length_filter_le (gone e) ((v.runs.drop p).take e.drop.length)
  have h7 := all_of_len (f := gone e) (l := (v.runs.drop p).take e.drop.length) (by rw [← h4]; rw [← h4] at h6; omega)
  unfold keptR
  conv => lhs; rw [h3]
  rw [List.filter_append, List.filter_append, fil_none (l := (v.runs.drop p).take e.drop.length) fun x hx => by rw [h7 x hx]; rfl, List.nil_append]
  congr 1
  · exact List.filter_eq_self.2 fun x hx => by rw [take_free h1 x hx]; rfl
  · exact List.filter_eq_self.2 fun x hx => by
      have := List.any_eq_false.1 h2 x hx
      simpa using this
theorem from_first (h : e.drop ≠ []) {ps : List Nat} (hn : (v.runs.map (·.file)).Nodup) (hs : spots v.runs e.drop = some ps) : fromR v e = lows ps v.runs.length ∧ fromR v e < v.runs.length ∧ (∀ q r, v.runs[q]? = some r → gone e r = true → fromR v e ≤ q) ∧ ps ≠ [] := by
  have hps : ps ≠ [] := by
    intro h0
    have := (spots_len hs).1
    rw [h0] at this
    exact h (List.eq_nil_of_length_eq_zero (by simpa using this.symm))
  obtain ⟨q0, hq0⟩ : ∃ q, q ∈ ps := by
    cases ps with
    | nil => exact absurd rfl hps
    | cons p ps => exact ⟨p, List.mem_cons_self ..⟩
  have hl : lows ps v.runs.length ∈ ps := by
    rcases lows_mem (ps := ps) (n := v.runs.length) with h1 | h1
    · have := lows_min (n := v.runs.length) hq0
      have := (spots_len hs).2 q0 hq0
      omega
    · exact h1
  obtain ⟨r, hr, hg⟩ := (place_gone hn hs _).1 hl
  have hlt := (spots_len hs).2 _ hl
  have hf : v.runs.findIdx? (gone e) = some (lows ps v.runs.length) := by
    rw [List.findIdx?_eq_some_iff_getElem]
    obtain ⟨h1, h2⟩ := List.getElem?_eq_some_iff.1 hr
    refine ⟨h1, by rw [h2]; exact hg, fun j hj hj2 => ?_⟩
    have := lows_min (n := v.runs.length) ((place_gone hn hs j).2 ⟨_, List.getElem?_eq_getElem (by omega), hj2⟩)
    omega
  have hfr : fromR v e = lows ps v.runs.length := by unfold fromR; rw [hf]; rfl
  exact ⟨hfr, by rw [hfr]; exact hlt, fun q r hq hg => by rw [hfr]; exact lows_min ((place_gone hn hs q).2 ⟨r, hq, hg⟩), hps⟩
theorem from_nil (h : e.drop = []) : fromR v e = 0 := by
  unfold fromR
  have : v.runs.findIdx? (gone e) = none := by
    rw [List.findIdx?_eq_none_iff]
    intro x _
    unfold gone
    rw [h]
    simp
  rw [this]
  rfl
/-- Are the dropped runs next to each other? Both ask the same; and then both put the new runs into the same place. -/
theorem near {ps : List Nat} (hn : (v.runs.map (·.file)).Nodup) (hd : e.drop.Nodup) (hs : spots v.runs e.drop = some ps) :
    (high e ps - (low v e ps : Int) + 1 = (e.drop.length : Int) ↔ (v.runs.drop (fromR v e + e.drop.length)).any (gone e) = false) ∧ fromR v e + e.drop.length ≤ v.runs.length ∧
    ((v.runs.drop (fromR v e + e.drop.length)).any (gone e) = false → joinV v e (low v e ps) (high e ps) = ⟨(keptR v e).take (fromR v e) ++ (e.add ++ (keptR v e).drop (fromR v e)), orI e.next v.next, orI e.log v.log, orN e.seq v.seq⟩) ∧ fromR v e ≤ (keptR v e).length := by
  obtain ⟨hk1, hk2⟩ := kept_len hn hd hs
  by_cases h0 : e.drop = []
  · have hf := from_nil (v := v) h0
    have hl : e.drop.length = 0 := by rw [h0]; rfl
    have hg : ∀ r, gone e r = false := fun r => by unfold gone; rw [h0]; simp
    have hk : keptR v e = v.runs := by unfold keptR; exact List.filter_eq_self.2 fun x _ => by rw [hg x]; rfl
    refine ⟨⟨fun _ => ?_, fun _ => ?_⟩, by rw [hf, hl]; omega, fun _ => ?_, by rw [hf]; omega⟩
    · rw [List.any_eq_false]
      intro x _
      rw [hg x]
      simp
    · unfold high low
      rw [if_pos h0, if_pos h0, hl]
      rfl
    · unfold high low joinV
      rw [if_pos h0, if_pos h0, hf, hk]
      rfl
  · obtain ⟨hf, hlt, hmin, hps⟩ := from_first h0 hn hs
    obtain ⟨q, hq, hh, hmax⟩ := highs_max hps
    have hlo : low v e ps = fromR v e := by unfold low; rw [if_neg h0, hf]
    have hhi : high e ps = (q : Int) := by unfold high; rw [if_neg h0, hh]
    obtain ⟨rq, hrq, hgq⟩ := (place_gone hn hs q).1 hq
    have hqn := (List.getElem?_eq_some_iff.1 hrq).1
    have hfq := hmin q rq hrq hgq
    -- all that is dropped stands from p to q
    have hcount : e.drop.length ≤ q - fromR v e + 1 := by
      have h3 := three v.runs (fromR v e) (q - fromR v e + 1)
      have f1 := fil_none (take_free hmin)
      have f3 : (v.runs.drop (fromR v e + (q - fromR v e + 1))).filter (gone e) = [] := fil_none fun x hx => by
        have := List.any_eq_false.1 (any_drop (f := gone e) (k := fromR v e + (q - fromR v e + 1)).2 fun j r hj hg => by
          have := hmax j ((place_gone hn hs j).2 ⟨r, hj, hg⟩)
          omega) x hx
        simpa using this
      rw [← hk2]
      conv => lhs; rw [h3]
      rw [List.filter_append, List.filter_append, f1, f3, List.nil_append, List.append_nil]
      refine Nat.le_trans (List.length_filter_le ..) ?_
      rw [List.length_take]
      omega
    have hle : fromR v e + e.drop.length ≤ v.runs.length := by omega
    have hkl : fromR v e ≤ (keptR v e).length := by
      have h3 : (v.runs.take (fromR v e)).filter (fun r => !gone e r) = v.runs.take (fromR v e) := List.filter_eq_self.2 fun x hx => by rw [take_free hmin x hx]; rfl
      have h4 : keptR v e = (v.runs.take (fromR v e)).filter (fun r => !gone e r) ++ (v.runs.drop (fromR v e)).filter (fun r => !gone e r) := by
        unfold keptR
        rw [← List.filter_append, List.take_append_drop]
      rw [h4, h3, List.length_append, List.length_take]
      omega
    refine ⟨?_, hle, fun h2 => ?_, hkl⟩
    · rw [hlo, hhi, any_drop]
      constructor
      · intro h j r hj hg
        have := hmax j ((place_gone hn hs j).2 ⟨r, hj, hg⟩)
        omega
      · intro h
        have := h q rq hrq hgq
        omega
    · have hlast := any_drop.1 h2 q rq hrq hgq
      have hc := kept_cut hk2 hmin h2
      have e1 : max (low v e ps) (high e ps + 1).toNat = fromR v e + e.drop.length := by rw [hlo, hhi]; omega
      have hl : (v.runs.take (fromR v e)).length = fromR v e := by rw [List.length_take]; omega
      unfold joinV
      rw [e1, hlo, hc, List.take_left' hl, List.drop_left' hl]
theorem back_or : back v e = true ↔ (orI e.next v.next < v.next ∨ orI e.log v.log < v.log ∨ orN e.seq v.seq < v.seq) := by
  unfold back orI orN
  simp only [Bool.or_eq_true, decide_eq_true_eq]
  constructor
  · rintro (⟨h1, h2⟩ | ⟨h1, h2⟩ | ⟨h1, h2⟩)
    · left; rw [if_neg h1]; exact h2
    · right; left; rw [if_neg h1]; exact h2
    · right; right; rw [if_neg h1]; exact h2
  · rintro (h | h | h)
    · split at h
      · omega
      · exact .inl ⟨by assumption, h⟩
    · split at h
      · omega
      · exact .inr (.inl ⟨by assumption, h⟩)
    · split at h
      · omega
      · exact .inr (.inr ⟨by assumption, h⟩)
/-- The version that the project's Apply builds. -/
def newV (v : V) (e : E) : V := ⟨(keptR v e).take (fromR v e) ++ (e.add ++ (keptR v e).drop (fromR v e)), orI e.next v.next, orI e.log v.log, orN e.seq v.seq⟩
theorem right_drop {e : E} (h : right e = true) : e.drop.Nodup ∧ e.add.length ≤ 100 ∧ e.drop.length ≤ 100 := by
  unfold right at h
  simp only [Bool.and_eq_true, decide_eq_true_eq] at h
  grind
theorem papply_none (h1 : rightV v = true) (h2 : right e = true) (h : v.runs.length < (keptR v e).length + e.drop.length) : applyV v e = (8, noV) :=
  apply_none h1 h2 ((kept_none (rightV_parts h1).2.2.2.2.1 (right_drop h2).1).1 h)
theorem papply_some (h1 : rightV v = true) (h2 : right e = true) (h : ¬ v.runs.length < (keptR v e).length + e.drop.length) :
    (applyV v e = if (keptR v e).any (fun r => decide (r.file ∈ e.add.map (·.file))) = true then (9, noV) else
      if 1000 < (keptR v e).length + e.add.length then (3, noV) else
      if (v.runs.drop (fromR v e + e.drop.length)).any (gone e) = true ∨ (orI e.next v.next < v.next ∨ orI e.log v.log < v.log ∨ orN e.seq v.seq < v.seq) ∨ rightV (newV v e) = false then (10, noV) else (0, newV v e)) ∧
    fromR v e + e.drop.length ≤ v.runs.length ∧ fromR v e ≤ (keptR v e).length := by
  have hn := (rightV_parts h1).2.2.2.2.1
  have hd := (right_drop h2).1
  cases hs : spots v.runs e.drop with
  | none => exact absurd ((kept_none hn hd).2 hs) h
  | some ps =>
    obtain ⟨g1, g2, g3, g4⟩ := near hn hd hs
    obtain ⟨k1, _⟩ := kept_len hn hd hs
    refine ⟨?_, g2, g4⟩
    rw [apply_some h1 h2 hs, twice_kept]
    split
    · rfl
    · by_cases h3 : 1000 < (keptR v e).length + e.add.length
      · rw [if_pos h3, if_pos (by omega)]
      · rw [if_neg h3, if_neg (by omega)]
        by_cases h4 : (v.runs.drop (fromR v e + e.drop.length)).any (gone e) = false
        · have h5 : ¬ (v.runs.drop (fromR v e + e.drop.length)).any (gone e) = true := by rw [h4]; simp
          have g5 : joinV v e (low v e ps) (high e ps) = newV v e := g3 h4
          rw [if_neg (not_not_intro (g1.2 h4)), g5]
          by_cases h6 : back v e = true ∨ rightV (newV v e) = false
          · rw [if_pos h6, if_pos (.inr (h6.imp back_or.1 id))]
          · rw [if_neg h6, if_neg (fun h7 => h7.elim h5 fun h8 => h6 (h8.imp back_or.2 id))]
        · rw [if_pos (fun h5 => h4 (g1.1 h5)), if_pos (.inl (by simpa using h4))]
end
end Go.Proofs.Ythhmjjmjicmhdaa.Ve
