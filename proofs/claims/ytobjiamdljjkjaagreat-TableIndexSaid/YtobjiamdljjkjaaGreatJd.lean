/- Tables: mathematics, the document's Table, where the project's answer is the document's. -/
import Derived.Test.YtobjiamdljjkjaaGreatBko
import Derived.Test.YtobjiamdljjkjaaGreatBbld
import Derived.Test.YtobjiamdljjkjaaGreatJc
import Derived.Test.YtobjiamdljjkjaaGreatJb
import Derived.Deep.RegionHeld3
import Derived.Deep.QuietTactic
import Derived.BigQuiet
import Derived.LoopTactic
/- Plain mathematics of tables: how entries are parted into blocks, what an index holds, which bytes are a table. -/
namespace Go.Proofs.YtobjiamdljjkjaaGreat.Tb
set_option linter.unusedVariables false
set_option linter.unusedSimpArgs false
open Ik Sk Vn Vt Bk Bl

/-- What an entry counts for a block's size. -/
def wgt (t : T) : Nat := t.k.key.length + 8 + t.val.length
def weigh (ts : List T) : Nat := (ts.map wgt).sum
theorem weigh_snoc (ts : List T) (t : T) : weigh (ts ++ [t]) = weigh ts + wgt t := by unfold weigh; simp
theorem weigh_cons (ts : List T) (t : T) : weigh (t :: ts) = wgt t + weigh ts := by unfold weigh; simp
theorem weigh_append (a b : List T) : weigh (a ++ b) = weigh a + weigh b := by unfold weigh; simp
/-- Entries, parted into blocks; cur: the block that is being filled. -/
def parts (size : Nat) : List T → List T → List (List T)
  | cur, [] => if cur = [] then [] else [cur]
  | cur, t :: ts => if cur ≠ [] ∧ size ≤ weigh cur then cur :: parts size [t] ts else parts size (cur ++ [t]) ts
theorem parts_flat (size : Nat) : ∀ (ts cur : List T), (parts size cur ts).flatten = cur ++ ts
  | [], cur => by
    unfold parts
    split
    · rename_i h; simp [h]
    · simp
  | t :: ts, cur => by
    unfold parts
    split
    · rw [List.flatten_cons, parts_flat size ts [t]]; simp
    · rw [parts_flat size ts (cur ++ [t])]; simp
theorem parts_some (size : Nat) : ∀ (ts cur : List T), ∀ p, p ∈ parts size cur ts → p ≠ []
  | [], cur => by
    intro p hp
    unfold parts at hp
    split at hp
    · simp at hp
    · rename_i h
      simp at hp
      rw [hp]; exact h
  | t :: ts, cur => by
    intro p hp
    unfold parts at hp
    split at hp
    · rename_i h
      rcases List.mem_cons.1 hp with rfl | h2
      · exact h.1
      · exact parts_some size ts [t] p h2
    · exact parts_some size ts _ p hp
/-- What parts by a size are: no part is full before its last entry, each but the last one is. -/
def fits (size : Nat) : List (List T) → Prop
  | [] => True
  | [p] => p ≠ [] ∧ weigh p.dropLast < size
  | p :: ps => p ≠ [] ∧ weigh p.dropLast < size ∧ size ≤ weigh p ∧ fits size ps
theorem fits_cons {size : Nat} {p q : List T} {ps : List (List T)} : fits size (p :: q :: ps) ↔ p ≠ [] ∧ weigh p.dropLast < size ∧ size ≤ weigh p ∧ fits size (q :: ps) := Iff.rfl
/-- Filling goes on until a block is full. -/
theorem parts_fill {size : Nat} : ∀ (r cur ts : List T), (∀ i, i < r.length → cur ++ r.take i = [] ∨ weigh (cur ++ r.take i) < size) → parts size cur (r ++ ts) = parts size (cur ++ r) ts
  | [], cur, ts, _ => by simp
  | t :: r, cur, ts, h => by
    have h0 := h 0 (by simp)
    simp only [List.take_zero, List.append_nil] at h0
    rw [List.cons_append]
    conv => lhs; unfold parts
    rw [if_neg (by rintro ⟨h1, h2⟩; rcases h0 with h3 | h3; exact h1 h3; omega), parts_fill r (cur ++ [t]) ts (fun i hi => by
      have := h (i + 1) (by rw [List.length_cons]; omega)
      rw [List.take_succ_cons] at this
      simpa using this)]
    simp
theorem weigh_take {p : List T} {i : Nat} (hi : i < p.length) : weigh (p.take i) ≤ weigh p.dropLast := by
  rw [List.dropLast_eq_take]
  have e : p.take (p.length - 1) = p.take i ++ (p.drop i).take (p.length - 1 - i) := by
    rw [← List.take_add]; congr 1; omega
  rw [e, weigh_append]
  omega
theorem fits_parts {size : Nat} (h1 : 1 ≤ size) : ∀ ps : List (List T), fits size ps → parts size [] ps.flatten = ps
  | [], _ => by simp [parts]
  | [p], h => by
    obtain ⟨ha, hb⟩ : p ≠ [] ∧ weigh p.dropLast < size := h
    have := parts_fill (size := size) p [] [] (fun i hi => by
      right
      rw [List.nil_append]
      have := weigh_take hi
      omega)
    rw [List.flatten_cons, List.flatten_nil, this]
    unfold parts
    simp [ha]
  | p :: q :: ps, h => by
    obtain ⟨ha, hb, hc, hd⟩ := fits_cons.1 h
    have ih := fits_parts h1 (q :: ps) hd
    have hq : q ≠ [] := by cases ps with
      | nil => exact hd.1
      | cons r rs => exact hd.1
    have := parts_fill (size := size) p [] ((q :: ps).flatten) (fun i hi => by
      right
      rw [List.nil_append]
      have := weigh_take hi
      omega)
    rw [List.flatten_cons, this, List.nil_append]
    cases hq' : q with
    | nil => exact absurd hq' hq
    | cons t q' =>
      subst hq'
      rw [List.flatten_cons, List.cons_append] at ih ⊢
      unfold parts at ih ⊢
      rw [if_neg (by simp)] at ih
      rw [if_pos ⟨ha, hc⟩]
      rw [List.nil_append] at ih
      rw [ih]
theorem parts_head {size : Nat} (h1 : 1 ≤ size) : ∀ (ts cur : List T), cur ≠ [] → weigh cur.dropLast < size → fits size (parts size cur ts)
  | [], cur, hc, hw => by
    unfold parts
    rw [if_neg hc]
    exact ⟨hc, hw⟩
  | t :: ts, cur, hc, hw => by
    unfold parts
    split
    · rename_i h
      have ih := parts_head h1 ts [t] (by simp) (by simp [weigh]; omega)
      cases hp : parts size [t] ts with
      | nil => have := parts_flat size ts [t]; rw [hp] at this; simp at this
      | cons q qs => rw [hp] at ih; exact ⟨hc, hw, h.2, ih⟩
    · rename_i h
      refine parts_head h1 ts (cur ++ [t]) (by simp) ?_
      rw [List.dropLast_concat]
      have : ¬ size ≤ weigh cur := fun hh => h ⟨hc, hh⟩
      omega
theorem parts_fits {size : Nat} (h1 : 1 ≤ size) (ts : List T) : fits size (parts size [] ts) := by
  cases ts with
  | nil => simp [parts, fits]
  | cons t ts =>
    unfold parts
    rw [if_neg (by simp), List.nil_append]
    exact parts_head h1 ts [t] (by simp) (by simp [weigh]; omega)

/-- The last entry of a part. -/
def lastT (p : List T) : T := p.getLastD ⟨⟨[], 0, 0⟩, []⟩
/-- An entry of the index. -/
def ptr (t : T) (at' n : Nat) : T := ⟨⟨t.k.key, t.k.seq, 1⟩, enc at' ++ enc n⟩
/-- The index of blocks, one behind the other. -/
def idx (every : Nat) : Nat → List (List T) → List T
  | _, [] => []
  | at', p :: ps => ptr (lastT p) at' (blk every p).length :: idx every (at' + (blk every p).length) ps
def data (every : Nat) (ps : List (List T)) : List Nat := ps.flatMap (blk every)
/-- The user keys, each once. -/
def users : Option (List Nat) → List T → List (List Nat)
  | _, [] => []
  | last, t :: ts => (if last = some t.k.key then [] else [t.k.key]) ++ users (some t.k.key) ts
/-- Are there two of one user key and number? -/
def twins : List T → Bool
  | a :: b :: l => (decide (a.k.key = b.k.key) && decide (a.k.seq = b.k.seq)) || twins (b :: l)
  | _ => false
/-- May entries be a table? -/
def mayT (ts : List T) : Nat := if may ts ≠ 0 then may ts else if twins ts = true then 10 else if ts = [] then 1 else 0
theorem mayT_zero {ts : List T} (h : mayT ts = 0) : may ts = 0 ∧ twins ts = false ∧ ts ≠ [] := by
  unfold mayT at h
  split at h
  · contradiction
  · rename_i h1
    split at h
    · cases h
    · rename_i h2
      split at h
      · cases h
      · rename_i h3
        exact ⟨by omega, by simpa using h2, h3⟩
/-- The numbers at the end. -/
def tail5 (a b c d e : Nat) : List Nat := low a 4 ++ (low b 4 ++ (low c 4 ++ (low d 4 ++ low e 4)))
def tabP (every bits : Nat) (ps : List (List T)) : List Nat :=
  let d := data every ps
  let f := bloomB (users none ps.flatten) bits
  let x := blk 1 (idx every 0 ps)
  let e := tail5 d.length f.length (d.length + f.length) x.length ps.flatten.length
  d ++ (f ++ (x ++ (e ++ sum4 e)))
/-- A table. -/
def tab (size every bits : Nat) (ts : List T) : List Nat := tabP every bits (parts size [] ts)
/-- Bytes are a table. -/
def IsT (bs : List Nat) (ts : List T) : Prop := mayT ts = 0 ∧ ∃ size every bits, 1 ≤ size ∧ size ≤ 1048576 ∧ 1 ≤ every ∧ every ≤ 100 ∧ 1 ≤ bits ∧ bits ≤ 40 ∧ tab size every bits ts = bs
/-- A number of the footer. -/
def ft (bs : List Nat) (i : Nat) : Nat := num ((bs.drop (bs.length - 24 + i)).take 4)
def inner (e : Nat) : Nat := if e = 5 then 5 else 2
open Classical in
/-- The blocks that an index tells of: an error, or their entries. -/
noncomputable def walk (bs : List Nat) (fp : Nat) : Nat → List T → Except Nat (List (List T))
  | at', [] => .ok []
  | at', t :: ts =>
    if (res t.val 0).2.2 ≠ 0 then .error 2 else
    if (res t.val ((res t.val 0).2.1 : Nat)).2.2 ≠ 0 ∨ (res t.val ((res t.val 0).2.1 : Nat)).2.1 ≠ t.val.length ∨ (res t.val 0).1 ≠ at' ∨ fp - at' < (res t.val ((res t.val 0).2.1 : Nat)).1 then .error 2 else
    let n := (res t.val ((res t.val 0).2.1 : Nat)).1
    if (allB ((bs.drop at').take n)).2 ≠ 0 then .error (inner (allB ((bs.drop at').take n)).2) else
    if (allB ((bs.drop at').take n)).1 = [] ∨ t ≠ ptr (lastT (allB ((bs.drop at').take n)).1) at' n then .error 2 else
    (walk bs fp (at' + n) ts).map ((allB ((bs.drop at').take n)).1 :: ·)
/-- The bytes of the index block. -/
def ixb (bs : List Nat) : List Nat := (bs.drop (ft bs 8)).take (ft bs 12)
open Classical in
/-- The answer to bytes: entries, the index, an error. -/
noncomputable def tallB (bs : List Nat) : List T × List T × Nat :=
  if bs.length < 24 then ([], [], 4) else if bs.drop (bs.length - 4) ≠ sum4 ((bs.drop (bs.length - 24)).take 20) then ([], [], 5) else
  if ft bs 0 + ft bs 4 ≠ ft bs 8 ∨ ft bs 8 + ft bs 12 ≠ bs.length - 24 then ([], [], 2) else
  if (allB (ixb bs)).2 ≠ 0 then ([], [], inner (allB (ixb bs)).2) else
  if (allB (ixb bs)).1 = [] ∨ blk 1 (allB (ixb bs)).1 ≠ ixb bs then ([], [], 2) else
  match walk bs (ft bs 0) 0 (allB (ixb bs)).1 with
  | .error e => ([], [], e)
  | .ok ps => if IsT bs ps.flatten then (ps.flatten, (allB (ixb bs)).1, 0) else ([], [], 2)
end Go.Proofs.YtobjiamdljjkjaaGreat.Tb

/- Plain mathematics of tables: what is built is read back; bytes that pass every test were built. -/
namespace Go.Proofs.YtobjiamdljjkjaaGreat.Tb
set_option linter.unusedVariables false
set_option linter.unusedSimpArgs false
open Ik Sk Vn Vt Bk Bl

theorem allB_is {bs : List Nat} (h : (allB bs).2 = 0) : IsB bs (allB bs).1 := by
  by_cases h1 : bs.length < 8
  · rw [allB_short h1] at h; cases h
  · by_cases h2 : bs.drop (bs.length - 4) = sum4 (bs.take (bs.length - 4))
    · by_cases h3 : ∃ ts, IsB bs ts
      · obtain ⟨ts, h4⟩ := h3
        rw [allB_ok h4]; exact h4
      · rw [allB_bad h1 h2 h3] at h; cases h
    · rw [allB_sum h1 h2] at h; cases h

/-! ### One list of entries has one block as the beginning of given bytes -/
theorem body_same (a b : Nat) : ∀ (ts : List T) (i : Nat) (last R1 R2 : List Nat), (∀ t, t ∈ ts → okT t = true) → body a i last ts ++ R1 = body b i last ts ++ R2 → body a i last ts = body b i last ts ∧ R1 = R2
  | [], i, last, R1, R2, _, h => ⟨rfl, by simpa [body] using h⟩
  | t :: ts, i, last, R1, R2, hok, h => by
    unfold body at h ⊢
    rw [List.append_assoc, List.append_assoc] at h
    have s1 := step_one (r := body a (i + 1) (bytesK t.k) ts ++ R1) (p := []) (hok t (List.mem_cons_self ..)) (pre_le a i last (bytesK t.k))
    have s2 := step_one (r := body b (i + 1) (bytesK t.k) ts ++ R2) (p := []) (hok t (List.mem_cons_self ..)) (pre_le b i last (bytesK t.k))
    rw [List.nil_append] at s1 s2
    rw [h, s2] at s1
    simp at s1
    have hl := s1
    have e1 : one (pre a i last (bytesK t.k)) t = one (pre b i last (bytesK t.k)) t := by
      have := congrArg (List.take (one (pre a i last (bytesK t.k)) t).length) h
      rw [List.take_left, ← hl, List.take_left] at this
      exact this
    rw [e1] at h ⊢
    have h' := List.append_cancel_left h
    obtain ⟨r1, r2⟩ := body_same a b ts (i + 1) (bytesK t.k) R1 R2 (fun u hu => hok u (List.mem_cons_of_mem _ hu)) h'
    exact ⟨by rw [r1], r2⟩
theorem ends_far (every : Nat) : ∀ (ts : List T) (i : Nat) (last : List Nat) (o j x : Nat), (ends every i last o ts)[j]? = some x → o + 3 * j ≤ x
  | [], i, last, o, j, x, h => by simp [ends] at h
  | t :: ts, i, last, o, j, x, h => by
    have h1 := one_len (pre every i last (bytesK t.k)) t
    unfold ends at h
    by_cases hi : i % every = 0
    · rw [if_pos hi] at h
      cases j with
      | zero => simp at h; omega
      | succ j =>
        rw [List.singleton_append, List.getElem?_cons_succ] at h
        have := ends_far every ts _ _ _ j x h
        omega
    · rw [if_neg hi, List.nil_append] at h
      have := ends_far every ts _ _ _ j x h
      omega
theorem flat_same : ∀ (E F : List Nat) (k : Nat) (S1 S2 : List Nat), (∀ j x, E[j]? = some x → k + j < x ∧ x < 4294967296) → (∀ j x, F[j]? = some x → k + j < x ∧ x < 4294967296) → k + E.length < 4294967296 → k + F.length < 4294967296 →
    (E.flatMap fun e => low e 4) ++ (low (k + E.length) 4 ++ S1) = (F.flatMap fun e => low e 4) ++ (low (k + F.length) 4 ++ S2) → E = F
  | [], [], _, _, _, _, _, _, _, _ => rfl
  | [], y :: F, k, S1, S2, _, h2, hk, _, h => by
    exfalso
    have h3 := h2 0 y rfl
    have := congrArg (List.take 4) h
    simp only [List.flatMap_nil, List.nil_append, List.flatMap_cons, List.append_assoc] at this
    rw [List.take_left' (low_length _ _), List.take_left' (low_length _ _)] at this
    have := congrArg num this
    rw [num_low _ _ (by simpa using hk), num_low _ _ h3.2] at this
    simp at this
    omega
  | x :: E, [], k, S1, S2, h1, _, _, hk, h => by
    exfalso
    have h3 := h1 0 x rfl
    have := congrArg (List.take 4) h
    simp only [List.flatMap_nil, List.nil_append, List.flatMap_cons, List.append_assoc] at this
    rw [List.take_left' (low_length _ _), List.take_left' (low_length _ _)] at this
    have := congrArg num this
    rw [num_low _ _ h3.2, num_low _ _ (by simpa using hk)] at this
    simp at this
    omega
  | x :: E, y :: F, k, S1, S2, h1, h2, hE, hF, h => by
    have h3 := h1 0 x rfl
    have h4 := h2 0 y rfl
    simp only [List.flatMap_cons, List.append_assoc, List.length_cons] at h hE hF
    have e := congrArg (List.take 4) h
    rw [List.take_left' (low_length _ _), List.take_left' (low_length _ _)] at e
    have e' := congrArg num e
    rw [num_low _ _ h3.2, num_low _ _ h4.2] at e'
    subst e'
    have h' := List.append_cancel_left h
    rw [show k + (E.length + 1) = (k + 1) + E.length from by omega, show k + (F.length + 1) = (k + 1) + F.length from by omega] at h'
    rw [flat_same E F (k + 1) S1 S2 (fun j z hj => by have := h1 (j + 1) z hj; omega) (fun j z hj => by have := h2 (j + 1) z hj; omega) (by omega) (by omega) h']
theorem blk_same {a b : Nat} {ts : List T} (hok : ∀ t, t ∈ ts → okT t = true) (hn : ts.length ≤ 10000) {Z : List Nat} (h1 : blk a ts <+: Z) (h2 : blk b ts <+: Z) : blk a ts = blk b ts := by
  by_cases hne : ts = []
  · subst hne; rfl
  obtain ⟨R1, e1⟩ := h1
  obtain ⟨R2, e2⟩ := h2
  have e : blk a ts ++ R1 = blk b ts ++ R2 := e1.trans e2.symm
  unfold blk bare foot at e
  simp only [List.append_assoc] at e
  obtain ⟨hb, hr⟩ := body_same a b ts 0 [] _ _ hok e
  have ha0 := ends_first a hne
  have hb0 := ends_first b hne
  have bd : ∀ ev, ∀ j x, (ends ev 0 [] 0 ts)[j]? = some x → x < 4294967296 := fun ev j x hj => by
    have h3 := (ends_at ev ts 0 [] [] [] x (List.mem_of_getElem? hj)).2.1
    have h4 := body_max ev ts 0 [] hok
    simp at h3
    omega
  have le : ∀ ev, (ends ev 0 [] 0 ts).length ≤ 10000 := fun ev => Nat.le_trans (ends_le ev ts 0 [] 0) hn
  have hE : ends a 0 [] 0 ts = ends b 0 [] 0 ts := by
    have fa := ends_far a ts 0 [] 0
    have fb := ends_far b ts 0 [] 0
    have ba := bd a
    have bb := bd b
    have la := le a
    have lb := le b
    revert hr ha0 hb0 fa fb ba bb la lb
    generalize ends a 0 [] 0 ts = E
    generalize ends b 0 [] 0 ts = F
    intro hr ha0 hb0 fa fb ba bb la lb
    cases E with
    | nil => simp at ha0
    | cons x E =>
      cases F with
      | nil => simp at hb0
      | cons y F =>
        simp at ha0 hb0
        subst ha0; subst hb0
        simp only [List.flatMap_cons, List.append_assoc, List.length_cons] at hr la lb
        have hr' := List.append_cancel_left hr
        rw [Nat.add_comm E.length 1, Nat.add_comm F.length 1] at hr'
        rw [flat_same E F 1 _ _ (fun j z hj => ⟨by have := fa (j + 1) z hj; omega, ba (j + 1) z hj⟩) (fun j z hj => ⟨by have := fb (j + 1) z hj; omega, bb (j + 1) z hj⟩) (by omega) (by omega) hr']
  unfold blk bare
  rw [hb, hE]

/-! ### Sizes -/
def lowS : List (List T) → Nat → Nat
  | [], m => m
  | p :: ps, m => lowS ps (max m (weigh p.dropLast + 1))
def highS : List (List T) → Nat → Nat
  | [], m => m
  | [_], m => m
  | p :: q :: ps, m => highS (q :: ps) (min m (weigh p))
theorem lowS_le : ∀ (ps : List (List T)) (m s : Nat), lowS ps m ≤ s ↔ m ≤ s ∧ ∀ p, p ∈ ps → weigh p.dropLast < s
  | [], m, s => by simp [lowS]
  | p :: ps, m, s => by
    unfold lowS
    rw [lowS_le ps]
    constructor
    · rintro ⟨h1, h2⟩
      exact ⟨by omega, fun q hq => (List.mem_cons.1 hq).elim (fun e => by rw [e]; omega) (h2 q)⟩
    · rintro ⟨h1, h2⟩
      exact ⟨by have := h2 p (List.mem_cons_self ..); omega, fun q hq => h2 q (List.mem_cons_of_mem _ hq)⟩
theorem highS_ge : ∀ (ps : List (List T)) (m s : Nat), s ≤ highS ps m ↔ s ≤ m ∧ ∀ p, p ∈ ps.dropLast → s ≤ weigh p
  | [], m, s => by simp [highS]
  | [p], m, s => by simp [highS]
  | p :: q :: ps, m, s => by
    unfold highS
    rw [highS_ge (q :: ps), List.dropLast_cons_cons]
    constructor
    · rintro ⟨h1, h2⟩
      exact ⟨by omega, fun r hr => (List.mem_cons.1 hr).elim (fun e => by rw [e]; omega) (h2 r)⟩
    · rintro ⟨h1, h2⟩
      exact ⟨by have := h2 p (List.mem_cons_self ..); omega, fun r hr => h2 r (List.mem_cons_of_mem _ hr)⟩
theorem fits_iff (s : Nat) : ∀ ps : List (List T), fits s ps ↔ (∀ p, p ∈ ps → p ≠ [] ∧ weigh p.dropLast < s) ∧ ∀ p, p ∈ ps.dropLast → s ≤ weigh p
  | [] => by simp [fits]
  | [p] => by simp [fits]
  | p :: q :: ps => by
    rw [fits_cons, fits_iff s (q :: ps), List.dropLast_cons_cons]
    constructor
    · rintro ⟨h1, h2, h3, h4, h5⟩
      exact ⟨fun r hr => (List.mem_cons.1 hr).elim (fun e => by rw [e]; exact ⟨h1, h2⟩) (h4 r), fun r hr => (List.mem_cons.1 hr).elim (fun e => by rw [e]; exact h3) (h5 r)⟩
    · rintro ⟨h1, h2⟩
      exact ⟨(h1 p (List.mem_cons_self ..)).1, (h1 p (List.mem_cons_self ..)).2, h2 p (List.mem_cons_self ..), fun r hr => h1 r (List.mem_cons_of_mem _ hr), fun r hr => h2 r (List.mem_cons_of_mem _ hr)⟩
theorem sized_iff {ps : List (List T)} (hne : ∀ p, p ∈ ps → p ≠ []) : lowS ps 1 ≤ highS ps 1048576 ↔ ∃ s, 1 ≤ s ∧ s ≤ 1048576 ∧ fits s ps := by
  constructor
  · intro h
    have h1 := (lowS_le ps 1 (lowS ps 1)).1 (Nat.le_refl _)
    have h2 := (highS_ge ps 1048576 (lowS ps 1)).1 h
    exact ⟨lowS ps 1, h1.1, h2.1, (fits_iff _ _).2 ⟨fun p hp => ⟨hne p hp, h1.2 p hp⟩, h2.2⟩⟩
  · rintro ⟨s, h1, h2, h3⟩
    obtain ⟨h4, h5⟩ := (fits_iff _ _).1 h3
    exact Nat.le_trans ((lowS_le ps 1 s).2 ⟨h1, fun p hp => (h4 p hp).2⟩) ((highS_ge ps 1048576 s).2 ⟨h2, h5⟩)
end Go.Proofs.YtobjiamdljjkjaaGreat.Tb

/- Plain mathematics of tables: the walk over an index, at what was built and at whatever bytes. -/
namespace Go.Proofs.YtobjiamdljjkjaaGreat.Tb
set_option linter.unusedVariables false
set_option linter.unusedSimpArgs false
open Ik Sk Vn Vt Bk Bl

theorem blk_le {every : Nat} {ts : List T} (hok : ∀ t, t ∈ ts → okT t = true) : (blk every ts).length ≤ 4404 * ts.length + 8 := by
  have h1 := body_max every ts 0 [] hok
  have h2 := ends_le every ts 0 [] 0
  rw [blk_len]
  omega
/-- The walk, a step. -/
theorem walk_ok {bs : List Nat} {fp at' : Nat} {t : T} {X : List T} {ps : List (List T)} (h : walk bs fp at' (t :: X) = .ok ps) :
    ∃ n p ps', n = (res t.val ((res t.val 0).2.1 : Nat)).1 ∧ ps = p :: ps' ∧ n ≤ fp - at' ∧ (allB ((bs.drop at').take n)).2 = 0 ∧ (allB ((bs.drop at').take n)).1 = p ∧ p ≠ [] ∧ t = ptr (lastT p) at' n ∧ walk bs fp (at' + n) X = .ok ps' := by
  unfold walk at h
  split at h
  · cases h
  · split at h
    · cases h
    · rename_i h2
      dsimp only at h
      split at h
      · cases h
      · rename_i h3
        split at h
        · cases h
        · rename_i h4
          cases hw : walk bs fp (at' + (res t.val ((res t.val 0).2.1 : Nat)).1) X with
          | error e => rw [hw] at h; cases h
          | ok ps' =>
            rw [hw] at h
            injection h with h
            exact ⟨_, _, ps', rfl, h.symm, by omega, by omega, rfl, fun e => h4 (.inl e), Classical.not_not.1 fun e => h4 (.inr e), hw⟩
/-- Where the blocks end. -/
def fin : Nat → List T → Nat
  | at', [] => at'
  | at', t :: X => fin (at' + (res t.val ((res t.val 0).2.1 : Nat)).1) X
theorem fin_ge : ∀ (X : List T) (at' : Nat), at' ≤ fin at' X
  | [], _ => Nat.le_refl _
  | t :: X, at' => Nat.le_trans (Nat.le_add_right _ _) (fin_ge X _)
theorem walk_some {bs : List Nat} {fp : Nat} : ∀ (X : List T) (at' : Nat) (ps : List (List T)), walk bs fp at' X = .ok ps → ∀ p, p ∈ ps → p ≠ []
  | [], at', ps, h => by
    unfold walk at h
    injection h with h
    subst h
    intro p hp
    cases hp
  | t :: X, at', ps, h => by
    obtain ⟨n, p, ps', -, rfl, -, -, -, h6, -, h8⟩ := walk_ok h
    intro q hq
    rcases List.mem_cons.1 hq with rfl | h9
    · exact h6
    · exact walk_some X _ _ h8 q h9
theorem walk_len {bs : List Nat} {fp : Nat} : ∀ (X : List T) (at' : Nat) (ps : List (List T)), walk bs fp at' X = .ok ps → ps.length = X.length
  | [], at', ps, h => by
    unfold walk at h
    injection h with h
    subst h
    rfl
  | t :: X, at', ps, h => by
    obtain ⟨n, p, ps', -, rfl, -, -, -, -, -, h8⟩ := walk_ok h
    rw [List.length_cons, List.length_cons, walk_len X _ _ h8]
theorem data_cons (every : Nat) (p : List T) (ps : List (List T)) : data every (p :: ps) = blk every p ++ data every ps := by unfold data; rw [List.flatMap_cons]
/-- Blocks that are all built by one interval, as the bytes begin. -/
theorem walk_data {bs : List Nat} {fp every : Nat} : ∀ (X : List T) (at' : Nat) (ps : List (List T)), walk bs fp at' X = .ok ps → at' ≤ fp → fp ≤ bs.length → data every ps <+: bs.drop at' →
    X = idx every at' ps ∧ fin at' X = at' + (data every ps).length ∧ fin at' X ≤ fp
  | [], at', ps, h, h1, h2, h3 => by
    unfold walk at h
    injection h with h
    subst h
    exact ⟨rfl, rfl, h1⟩
  | t :: X, at', ps, h, h1, h2, h3 => by
    obtain ⟨n, p, ps', hn, rfl, hle, he, hp, hne, ht, hw⟩ := walk_ok h
    have hB := allB_is he
    rw [hp] at hB
    obtain ⟨hm, ev, -, -, hev⟩ := hB
    obtain ⟨hok, -, hlen⟩ := may_zero hm
    rw [data_cons] at h3
    have hs : blk ev p = blk every p := blk_same (Z := bs.drop at') hok hlen (by rw [hev]; exact List.take_prefix _ _) ((List.prefix_append _ _).trans h3)
    have hnl : (blk every p).length = n := by rw [← hs, hev, List.length_take, List.length_drop]; omega
    obtain ⟨R, hR⟩ := h3
    have h4 : data every ps' <+: bs.drop (at' + n) := ⟨R, by
      have := congrArg (List.drop n) hR
      rw [List.drop_drop, List.append_assoc, List.drop_left' hnl] at this
      exact this⟩
    obtain ⟨i1, i2, i3⟩ := walk_data X (at' + n) ps' hw (by omega) h2 h4
    have hf : fin at' (t :: X) = fin (at' + n) X := by
      show fin (at' + (res t.val ((res t.val 0).2.1 : Nat)).1) X = _
      rw [← hn]
    refine ⟨?_, by rw [hf, i2, data_cons, List.length_append, hnl]; omega, by rw [hf]; exact i3⟩
    unfold idx
    rw [hnl, ← ht, ← i1]
theorem ptr_res (t : T) {at' n : Nat} (h1 : at' < 18446744073709551616) (h2 : n < 18446744073709551616) : res (ptr t at' n).val 0 = (at', (enc at').length, 0) ∧ res (ptr t at' n).val ((enc at').length : Nat) = (n, (ptr t at' n).val.length, 0) := by
  have e1 := res_mid [] (enc n) at' h1
  have e2 := res_mid (enc at') [] n h2
  simp only [List.nil_append, List.length_nil, List.append_nil, Nat.zero_add] at e1 e2
  refine ⟨by simpa [ptr] using e1, ?_⟩
  show res (enc at' ++ enc n) _ = _
  rw [e2]
  simp [ptr]
/-- What was built is read back. -/
theorem walk_built {bs R : List Nat} {fp every : Nat} (he : 1 ≤ every ∧ every ≤ 100) : ∀ (ps : List (List T)) (at' : Nat), (∀ p, p ∈ ps → p ≠ [] ∧ may p = 0) → bs.drop at' = data every ps ++ R → fp = at' + (data every ps).length → fp < 4294967296 →
    walk bs fp at' (idx every at' ps) = .ok ps
  | [], at', _, _, _, _ => by unfold idx walk; rfl
  | p :: ps, at', hp, hd, hf, hs => by
    obtain ⟨hne, hm⟩ := hp p (List.mem_cons_self ..)
    rw [data_cons] at hd hf
    rw [List.length_append] at hf
    obtain ⟨r1, r2⟩ := ptr_res (lastT p) (at' := at') (n := (blk every p).length) (by omega) (by omega)
    unfold idx walk
    have q1 : (res (ptr (lastT p) at' (blk every p).length).val 0).2.1 = (enc at').length := by rw [r1]
    have q2 : (res (ptr (lastT p) at' (blk every p).length).val 0).2.2 = 0 := by rw [r1]
    have q3 : (res (ptr (lastT p) at' (blk every p).length).val 0).1 = at' := by rw [r1]
    have q4 : (res (ptr (lastT p) at' (blk every p).length).val ((enc at').length : Nat)).1 = (blk every p).length := by rw [r2]
    have q5 : (res (ptr (lastT p) at' (blk every p).length).val ((enc at').length : Nat)).2.1 = (ptr (lastT p) at' (blk every p).length).val.length := by rw [r2]
    have q6 : (res (ptr (lastT p) at' (blk every p).length).val ((enc at').length : Nat)).2.2 = 0 := by rw [r2]
    have hsl : (bs.drop at').take (blk every p).length = blk every p := by rw [hd, List.append_assoc, List.take_left]
    have hall : allB (blk every p) = (p, 0) := allB_ok ⟨hm, every, he.1, he.2, rfl⟩
    have ih := walk_built he ps (at' + (blk every p).length) (fun q hq => hp q (List.mem_cons_of_mem _ hq)) (by
      have := congrArg (List.drop (blk every p).length) hd
      rw [List.drop_drop, List.append_assoc, List.drop_left] at this
      exact this) (by omega) hs
    rw [q1, q2, q3, q4, q5, q6]
    rw [if_neg (by simp), if_neg (by rintro (h | h | h | h) <;> first | exact h rfl | omega)]
    dsimp only
    rw [hsl, hall]
    rw [if_neg (by simp), if_neg (by rintro (h | h); exact hne h; exact h rfl), ih]
    rfl

/-! ### The order of the index -/
def k1 (k : K) : K := ⟨k.key, k.seq, 1⟩
theorem k1_lt {a b : K} (h : cmpK a b < 0) (hn : ¬ (a.key = b.key ∧ a.seq = b.seq)) : cmpK (k1 a) (k1 b) < 0 := by
  have h1 : cmpK a b = -1 := by rcases cmpK_one a b with h2 | h2 | h2 <;> omega
  have : cmpK (k1 a) (k1 b) = -1 := by
    rw [cmpK_lt] at h1 ⊢
    rcases h1 with h2 | ⟨h2, h3 | ⟨h3, h4⟩⟩
    · exact .inl h2
    · exact .inr ⟨h2, .inl h3⟩
    · exact absurd ⟨h2, h3⟩ hn
  omega
theorem pair2 : ∀ ts : List T, rises ts = true → twins ts = false → ts.Pairwise fun a b => cmpK (k1 a.k) (k1 b.k) < 0
  | [], _, _ => List.Pairwise.nil
  | [a], _, _ => by simp
  | a :: b :: l, h1, h2 => by
    have h1' : decide (cmpK a.k b.k < 0) = true ∧ rises (b :: l) = true := by
      have : (decide (cmpK a.k b.k < 0) && rises (b :: l)) = true := h1
      simpa using this
    have h2' : ¬ (a.k.key = b.k.key ∧ a.k.seq = b.k.seq) ∧ twins (b :: l) = false := by
      have : ((decide (a.k.key = b.k.key) && decide (a.k.seq = b.k.seq)) || twins (b :: l)) = false := h2
      rw [Bool.or_eq_false_iff] at this
      refine ⟨fun h => ?_, this.2⟩
      have := this.1
      simp [h.1, h.2] at this
    have ih := pair2 (b :: l) h1'.2 h2'.2
    have hab := k1_lt (of_decide_eq_true h1'.1) h2'.1
    refine List.Pairwise.cons (fun x hx => ?_) ih
    rcases List.mem_cons.1 hx with rfl | hx
    · exact hab
    · exact lt_trans hab ((List.pairwise_cons.1 ih).1 x hx)
theorem lastT_mem {p : List T} (h : p ≠ []) : lastT p ∈ p := by
  unfold lastT
  cases p with
  | nil => exact absurd rfl h
  | cons t p =>
    rw [List.getLastD_cons]
    cases p with
    | nil => simp
    | cons u p =>
      rw [List.getLastD_eq_getLast?, List.getLast?_eq_some_getLast (by simp)]
      exact List.mem_cons_of_mem _ (List.getLast_mem _)
theorem idx_len (every : Nat) : ∀ (ps : List (List T)) (at' : Nat), (idx every at' ps).length = ps.length
  | [], _ => rfl
  | p :: ps, at' => by unfold idx; rw [List.length_cons, List.length_cons, idx_len every ps]
theorem idx_rises (every : Nat) : ∀ (ps : List (List T)) (at' : Nat), (∀ p, p ∈ ps → p ≠ []) → ps.flatten.Pairwise (fun a b => cmpK (k1 a.k) (k1 b.k) < 0) → rises (idx every at' ps) = true
  | [], _, _, _ => rfl
  | [p], _, _, _ => rfl
  | p :: q :: ps, at', hne, hp => by
    rw [List.flatten_cons] at hp
    obtain ⟨-, h2, h3⟩ := List.pairwise_append.1 hp
    have ih := idx_rises every (q :: ps) (at' + (blk every p).length) (fun r hr => hne r (List.mem_cons_of_mem _ hr)) h2
    have h4 := h3 _ (lastT_mem (hne p (List.mem_cons_self ..))) (lastT q) (by rw [List.flatten_cons]; exact List.mem_append_left _ (lastT_mem (hne q (by simp))))
    have e : idx every at' (p :: q :: ps) = ptr (lastT p) at' (blk every p).length :: ptr (lastT q) (at' + (blk every p).length) (blk every q).length :: idx every (at' + (blk every p).length + (blk every q).length) ps := rfl
    rw [e]
    show (decide (cmpK (k1 (lastT p).k) (k1 (lastT q).k) < 0) && rises _) = true
    rw [decide_eq_true h4, Bool.true_and]
    exact ih
theorem ptr_okT {t : T} {at' n : Nat} (h : okT t = true) : okT (ptr t at' n) = true := by
  have h1 := okT_key h
  have a1 := (enc_len at').2
  have a2 := (enc_len n).2
  unfold okT okB at *
  simp at h1
  simp [ptr]
  omega
theorem idx_mem {every : Nat} : ∀ (ps : List (List T)) (at' : Nat), ∀ x, x ∈ idx every at' ps → ∃ p a n, p ∈ ps ∧ x = ptr (lastT p) a n
  | [], _ => fun x h => by cases h
  | p :: ps, at' => fun x h => by
    unfold idx at h
    rcases List.mem_cons.1 h with rfl | h2
    · exact ⟨p, _, _, List.mem_cons_self .., rfl⟩
    · obtain ⟨q, a, n, h3, h4⟩ := idx_mem ps _ x h2
      exact ⟨q, a, n, List.mem_cons_of_mem _ h3, h4⟩
theorem flat_len : ∀ ps : List (List T), (∀ p, p ∈ ps → p ≠ []) → ps.length ≤ ps.flatten.length
  | [], _ => Nat.le_refl _
  | p :: ps, h => by
    have h1 := flat_len ps fun q hq => h q (List.mem_cons_of_mem _ hq)
    have h2 := List.length_pos_iff.2 (h p (List.mem_cons_self ..))
    rw [List.flatten_cons, List.length_append, List.length_cons]
    omega
theorem idx_may {every : Nat} {ps : List (List T)} (at' : Nat) (hne : ∀ p, p ∈ ps → p ≠ []) (hm : may ps.flatten = 0) (ht : twins ps.flatten = false) : may (idx every at' ps) = 0 := by
  obtain ⟨hok, hr, hn⟩ := may_zero hm
  have h1 : (idx every at' ps).all okT = true := List.all_eq_true.2 fun x hx => by
    obtain ⟨p, a, n, h2, rfl⟩ := idx_mem ps at' x hx
    exact ptr_okT (hok _ (List.mem_flatten.2 ⟨p, h2, lastT_mem (hne p h2)⟩))
  unfold may
  rw [if_neg (by rw [h1]; decide), if_neg (by rw [idx_rises every ps at' hne (pair2 _ hr ht)]; decide), if_neg (by rw [idx_len]; have := flat_len ps hne; omega)]
theorem rises_part {a b c : List T} (h : rises (a ++ (b ++ c)) = true) : rises b = true := by
  rw [rises_iff] at h ⊢
  intro i x y hx hy
  have h1 := (List.getElem?_eq_some_iff.1 hx).1
  have h2 := (List.getElem?_eq_some_iff.1 hy).1
  refine h (a.length + i) x y ?_ ?_
  · rw [List.getElem?_append_right (Nat.le_add_right _ _), Nat.add_sub_cancel_left, List.getElem?_append_left h1]; exact hx
  · rw [Nat.add_assoc, List.getElem?_append_right (Nat.le_add_right _ _), Nat.add_sub_cancel_left, List.getElem?_append_left h2]; exact hy
theorem part_may {ps : List (List T)} (hm : may ps.flatten = 0) : ∀ p, p ∈ ps → may p = 0 := by
  intro p hp
  obtain ⟨hok, hr, hn⟩ := may_zero hm
  obtain ⟨a, c, rfl⟩ := List.append_of_mem hp
  rw [List.flatten_append, List.flatten_cons] at hok hr hn
  have h1 : p.all okT = true := List.all_eq_true.2 fun x hx => hok x (List.mem_append_right _ (List.mem_append_left _ hx))
  unfold may
  rw [if_neg (by rw [h1]; decide), if_neg (by rw [rises_part hr]; decide), if_neg (by rw [List.length_append, List.length_append] at hn; omega)]
theorem data_le {every : Nat} : ∀ ps : List (List T), (∀ p, p ∈ ps → p ≠ []) → (∀ t, t ∈ ps.flatten → okT t = true) → (data every ps).length ≤ 4412 * ps.flatten.length
  | [], _, _ => by simp [data]
  | p :: ps, hne, hok => by
    have h1 := data_le (every := every) ps (fun q hq => hne q (List.mem_cons_of_mem _ hq)) (fun t ht => hok t (by rw [List.flatten_cons]; exact List.mem_append_right _ ht))
    have h2 := List.length_pos_iff.2 (hne p (List.mem_cons_self ..))
    have h3 := blk_le (every := every) (ts := p) (fun t ht => hok t (by rw [List.flatten_cons]; exact List.mem_append_left _ ht))
    rw [data_cons, List.length_append, List.flatten_cons, List.length_append]
    omega
theorem users_len : ∀ (ts : List T) (last : Option (List Nat)), (users last ts).length ≤ ts.length
  | [], _ => Nat.le_refl _
  | t :: ts, last => by
    have h := users_len ts (some t.k.key)
    unfold users
    split
    · rw [List.nil_append, List.length_cons]; omega
    · rw [List.length_append, List.length_singleton, List.length_cons]; omega
end Go.Proofs.YtobjiamdljjkjaaGreat.Tb

/- Plain mathematics of tables: which bytes are a table, test by test. -/
namespace Go.Proofs.YtobjiamdljjkjaaGreat.Tb
set_option linter.unusedVariables false
set_option linter.unusedSimpArgs false
open Ik Sk Vn Vt Bk Bl

theorem tail5_app (a b c d e : Nat) (S : List Nat) : tail5 a b c d e ++ S = low a 4 ++ (low b 4 ++ (low c 4 ++ (low d 4 ++ (low e 4 ++ S)))) := by simp [tail5]
theorem tail5_len (a b c d e : Nat) : (tail5 a b c d e).length = 20 := by
  unfold tail5
  rw [List.length_append, List.length_append, List.length_append, List.length_append, low_length, low_length, low_length, low_length, low_length]
theorem tail5_at (a b c d e : Nat) (S : List Nat) : (tail5 a b c d e ++ S).take 4 = low a 4 ∧ ((tail5 a b c d e ++ S).drop 4).take 4 = low b 4 ∧ ((tail5 a b c d e ++ S).drop 8).take 4 = low c 4 ∧ ((tail5 a b c d e ++ S).drop 12).take 4 = low d 4 ∧ ((tail5 a b c d e ++ S).drop 16).take 4 = low e 4 := by
  rw [tail5_app]
  have l : ∀ x, (low x 4).length = 4 := fun x => low_length x 4
  have t : ∀ (x : Nat) (R : List Nat), (low x 4 ++ R).take 4 = low x 4 := fun x R => List.take_left' (l x)
  have dd : ∀ (x n : Nat) (R : List Nat), (low x 4 ++ R).drop (4 + n) = R.drop n := fun x n R => by rw [← List.drop_drop, List.drop_left' (l x)]
  refine ⟨t _ _, ?_, ?_, ?_, ?_⟩
  · rw [List.drop_left' (l a), t]
  · rw [show (8 : Nat) = 4 + 4 from rfl, dd, List.drop_left' (l b), t]
  · rw [show (12 : Nat) = 4 + (4 + 4) from rfl, dd, dd, List.drop_left' (l c), t]
  · rw [show (16 : Nat) = 4 + (4 + (4 + 4)) from rfl, dd, dd, dd, List.drop_left' (l d), t]
/-- The parts of what was built. -/
theorem tab_parts {every bits : Nat} {ps : List (List T)} (hb : bits ≤ 40) (hne : ∀ p, p ∈ ps → p ≠ []) (hm : may ps.flatten = 0) :
    (tabP every bits ps).length = (data every ps).length + (bloomB (users none ps.flatten) bits).length + (blk 1 (idx every 0 ps)).length + 24 ∧
    (tabP every bits ps).drop ((tabP every bits ps).length - 4) = sum4 (((tabP every bits ps).drop ((tabP every bits ps).length - 24)).take 20) ∧
    (ft (tabP every bits ps) 0 = (data every ps).length ∧ ft (tabP every bits ps) 4 = (bloomB (users none ps.flatten) bits).length ∧ ft (tabP every bits ps) 8 = (data every ps).length + (bloomB (users none ps.flatten) bits).length ∧
      ft (tabP every bits ps) 12 = (blk 1 (idx every 0 ps)).length ∧ ft (tabP every bits ps) 16 = ps.flatten.length) ∧
    data every ps <+: tabP every bits ps ∧ ((tabP every bits ps).drop (data every ps).length).take (bloomB (users none ps.flatten) bits).length = bloomB (users none ps.flatten) bits ∧
    ((tabP every bits ps).drop ((data every ps).length + (bloomB (users none ps.flatten) bits).length)).take (blk 1 (idx every 0 ps)).length = blk 1 (idx every 0 ps) ∧
    (tabP every bits ps).length ≤ 200000000 := by
  obtain ⟨hok, hr, hn⟩ := may_zero hm
  have l1 := data_le (every := every) ps hne hok
  have l2 : (bloomB (users none ps.flatten) bits).length ≤ 60000 := by
    rw [bloomB_len]
    have h1 := users_len ps.flatten none
    have h2 : (users none ps.flatten).length * bits ≤ 10000 * 40 := Nat.mul_le_mul (by omega) hb
    unfold mOf
    omega
  have hxo : ∀ t, t ∈ idx every 0 ps → okT t = true := fun x hx => by
    obtain ⟨p, a, n, h2, rfl⟩ := idx_mem ps 0 x hx
    exact ptr_okT (hok _ (List.mem_flatten.2 ⟨p, h2, lastT_mem (hne p h2)⟩))
  have l3 := blk_le (every := 1) hxo
  rw [idx_len] at l3
  have l4 := flat_len ps hne
  unfold tabP
  dsimp only
  revert l1 l2 l3
  generalize data every ps = D
  generalize bloomB (users none ps.flatten) bits = F
  generalize blk 1 (idx every 0 ps) = X
  intro l1 l2 l3
  have hT := tail5_len D.length F.length (D.length + F.length) X.length ps.flatten.length
  have hA := tail5_at D.length F.length (D.length + F.length) X.length ps.flatten.length
  generalize hS : sum4 (tail5 D.length F.length (D.length + F.length) X.length ps.flatten.length) = S
  have hSl : S.length = 4 := by rw [← hS]; exact sum4_len _
  have hA' := hA S
  generalize tail5 D.length F.length (D.length + F.length) X.length ps.flatten.length = E at hT hS hA' ⊢
  have hlen : (D ++ (F ++ (X ++ (E ++ S)))).length = D.length + F.length + X.length + 24 := by
    simp only [List.length_append, hT, hSl]; omega
  have hz : (D ++ (F ++ (X ++ (E ++ S)))).drop ((D ++ (F ++ (X ++ (E ++ S)))).length - 24) = E ++ S := by
    rw [hlen, show D ++ (F ++ (X ++ (E ++ S))) = (D ++ F ++ X) ++ (E ++ S) from by simp only [List.append_assoc]]
    exact List.drop_left' (by rw [List.length_append, List.length_append]; omega)
  have hft : ∀ i, ft (D ++ (F ++ (X ++ (E ++ S)))) i = num (((E ++ S).drop i).take 4) := fun i => by
    unfold ft
    rw [← List.drop_drop, hz]
  obtain ⟨a0, a4, a8, a12, a16⟩ := hA'
  refine ⟨hlen, ?_, ⟨?_, ?_, ?_, ?_, ?_⟩, List.prefix_append _ _, ?_, ?_, by omega⟩
  · rw [hz, List.take_left' hT, hS, hlen, show D ++ (F ++ (X ++ (E ++ S))) = (D ++ F ++ X ++ E) ++ S from by simp only [List.append_assoc]]
    exact List.drop_left' (by simp only [List.length_append, hT]; omega)
  · rw [hft, List.drop_zero, a0, num_low _ _ (by omega)]
  · rw [hft, a4, num_low _ _ (by omega)]
  · rw [hft, a8, num_low _ _ (by omega)]
  · rw [hft, a12, num_low _ _ (by omega)]
  · rw [hft, a16, num_low _ _ (by omega)]
  · rw [List.drop_left, List.take_left]
  · rw [← List.append_assoc, List.drop_left' (by rw [List.length_append]), List.take_left]
/-- The tests that bytes have passed before everything else is looked at. -/
structure Ctx (bs : List Nat) (X : List T) (ps : List (List T)) : Prop where
  h24 : ¬ bs.length < 24
  sum : bs.drop (bs.length - 4) = sum4 ((bs.drop (bs.length - 24)).take 20)
  f1 : ft bs 0 + ft bs 4 = ft bs 8
  f2 : ft bs 8 + ft bs 12 = bs.length - 24
  ix : allB (ixb bs) = (X, 0)
  ne : X ≠ []
  one : blk 1 X = ixb bs
  walk : walk bs (ft bs 0) 0 X = .ok ps
/-- Everything else. -/
def Rest (bs : List Nat) (X : List T) (ps : List (List T)) : Prop := fin 0 X = ft bs 0 ∧ may ps.flatten = 0 ∧ twins ps.flatten = false ∧ ft bs 16 = ps.flatten.length ∧ lowS ps 1 ≤ highS ps 1048576 ∧
  (∃ every, 1 ≤ every ∧ every ≤ 100 ∧ data every ps <+: bs) ∧ ∃ bits, 1 ≤ bits ∧ bits ≤ 40 ∧ bloomB (users none ps.flatten) bits = (bs.drop (ft bs 0)).take (ft bs 4)
/-- What was built passes all tests. -/
theorem isT_ctx {bs : List Nat} {ts : List T} (h : IsT bs ts) : ∃ ps every size, Ctx bs (idx every 0 ps) ps ∧ ps = parts size [] ts ∧ Rest bs (idx every 0 ps) ps ∧ ps.flatten = ts ∧ bs.length ≤ 200000000 ∧ 1 ≤ every ∧ every ≤ 100 := by
  obtain ⟨hmt, size, every, bits, s1, s2, e1, e2, b1, b2, rfl⟩ := h
  obtain ⟨hm, ht, hne0⟩ := mayT_zero hmt
  have hfl : (parts size [] ts).flatten = ts := by rw [parts_flat, List.nil_append]
  have hne := parts_some size ts []
  have hfit := parts_fits s1 ts
  have hpn : parts size [] ts ≠ [] := fun h => by rw [h] at hfl; exact hne0 hfl.symm
  unfold tab
  rw [← hfl] at hm ht
  generalize parts size [] ts = ps at *
  obtain ⟨p1, p2, ⟨p30, p34, p38, p312, p316⟩, p4, p5, p6, p7⟩ := tab_parts (every := every) b2 hne hm
  have hix : ixb (tabP every bits ps) = blk 1 (idx every 0 ps) := by unfold ixb; rw [p38, p312, p6]
  have hmi := idx_may (every := every) 0 hne hm ht
  obtain ⟨R, hR⟩ := p4
  have hw := walk_built (bs := tabP every bits ps) (R := R) (fp := (data every ps).length) ⟨e1, e2⟩ ps 0 (fun p hp => ⟨hne p hp, part_may hm p hp⟩) (by rw [List.drop_zero, hR]) (by rw [Nat.zero_add]) (by omega)
  have hfin := walk_data _ 0 ps hw (Nat.zero_le _) (by omega) (by rw [List.drop_zero]; exact ⟨R, hR⟩)
  refine ⟨ps, every, size, ⟨by omega, p2, by omega, by omega, ?_, ?_, hix.symm, by rw [p30]; exact hw⟩, ?_, ⟨?_, hm, ht, p316, (sized_iff hne).2 ⟨size, s1, s2, hfit⟩, ⟨every, e1, e2, ⟨R, hR⟩⟩, bits, b1, b2, ?_⟩, hfl, p7, e1, e2⟩
  · rw [hix]
    exact allB_ok ⟨hmi, 1, Nat.le_refl _, by omega, rfl⟩
  · intro h
    have := idx_len every ps 0
    rw [h] at this
    exact hpn (List.length_eq_zero_iff.1 this.symm)
  · have := fits_parts s1 ps hfit
    rw [hfl] at this
    exact this.symm
  · rw [p30, hfin.2.1, Nat.zero_add]
  · rw [p30, p34, p5]
theorem chunks (l : List Nat) : l.take 20 = l.take 4 ++ ((l.drop 4).take 4 ++ ((l.drop 8).take 4 ++ ((l.drop 12).take 4 ++ (l.drop 16).take 4))) := by
  have e : ∀ n k, (l.drop n).take (4 + k) = (l.drop n).take 4 ++ (l.drop (n + 4)).take k := fun n k => by rw [List.take_add, List.drop_drop]
  have e0 := e 0 16
  have e4 := e 4 12
  have e8 := e 8 8
  have e12 := e 12 4
  simp only [List.drop_zero, Nat.reduceAdd] at e0 e4 e8 e12
  rw [e0, e4, e8, e12]
/-- Bytes that pass every test were built. -/
theorem rest_isT {bs : List Nat} {X : List T} {ps : List (List T)} (h8 : ∀ x, x ∈ bs → x < 256) (c : Ctx bs X ps) (h : Rest bs X ps) : IsT bs ps.flatten := by
  obtain ⟨q1, q2, q3, q4, q5, ⟨every, e1, e2, q6⟩, bits, b1, b2, q7⟩ := h
  have hne := walk_some X 0 ps c.walk
  obtain ⟨size, s1, s2, hfit⟩ := (sized_iff hne).1 q5
  have hpl := walk_len X 0 ps c.walk
  have hpn : ps ≠ [] := fun h => by rw [h] at hpl; exact c.ne (List.length_eq_zero_iff.1 hpl.symm)
  have hfn : ps.flatten ≠ [] := fun h => by
    have := flat_len ps hne
    rw [h] at this
    exact hpn (List.length_eq_zero_iff.1 (Nat.le_zero.1 this))
  have f1 := c.f1
  have f2 := c.f2
  obtain ⟨d1, d2, d3⟩ := walk_data (every := every) X 0 ps c.walk (Nat.zero_le _) (by omega) (by rw [List.drop_zero]; exact q6)
  rw [q1, Nat.zero_add] at d2
  have hm : mayT ps.flatten = 0 := by
    unfold mayT
    rw [if_neg (by omega), if_neg (by rw [q3]; decide), if_neg hfn]
  refine ⟨hm, size, every, bits, s1, s2, e1, e2, b1, b2, ?_⟩
  unfold tab
  rw [fits_parts s1 ps hfit]
  have hz : (bs.drop (bs.length - 24)).length = 24 := by rw [List.length_drop]; have := c.h24; omega
  have hlow : ∀ i, i ≤ 20 → low (ft bs i) 4 = ((bs.drop (bs.length - 24)).drop i).take 4 := fun i hi => by
    unfold ft
    rw [← List.drop_drop]
    have h4 : (((bs.drop (bs.length - 24)).drop i).take 4).length = 4 := by rw [List.length_take, List.length_drop, hz]; omega
    have := low_num (((bs.drop (bs.length - 24)).drop i).take 4) (fun x hx => h8 x (List.mem_of_mem_drop (List.mem_of_mem_drop (List.mem_of_mem_take hx))))
    rw [h4] at this
    exact this
  have hE : tail5 (ft bs 0) (ft bs 4) (ft bs 8) (ft bs 12) (ft bs 16) = (bs.drop (bs.length - 24)).take 20 := by
    rw [chunks]
    unfold tail5
    rw [hlow 0 (by omega), hlow 4 (by omega), hlow 8 (by omega), hlow 12 (by omega), hlow 16 (by omega), List.drop_zero]
  have hS := c.sum
  unfold tabP
  dsimp only
  rw [q7, ← d1, c.one]
  have hl1 : ((bs.drop (ft bs 0)).take (ft bs 4)).length = ft bs 4 := by rw [List.length_take, List.length_drop]; omega
  have hl2 : (ixb bs).length = ft bs 12 := by unfold ixb; rw [List.length_take, List.length_drop]; omega
  rw [← d2, hl1, hl2, f1, ← q4, hE, ← hS]
  obtain ⟨R, hR⟩ := q6
  have hD : data every ps = bs.take (ft bs 0) := by
    have := congrArg (List.take (data every ps).length) hR
    rw [List.take_left] at this
    rw [d2]
    exact this
  rw [hD]
  unfold ixb
  have a1 : (bs.drop (bs.length - 24)).take 20 ++ bs.drop (bs.length - 4) = bs.drop (bs.length - 24) := by
    conv => rhs; rw [← List.take_append_drop 20 (bs.drop (bs.length - 24)), List.drop_drop]
    rw [show bs.length - 24 + 20 = bs.length - 4 from by have := c.h24; omega]
  have a2 : (bs.drop (ft bs 8)).take (ft bs 12) ++ bs.drop (bs.length - 24) = bs.drop (ft bs 8) := by
    rw [← f2, ← List.drop_drop, List.take_append_drop]
  have a3 : (bs.drop (ft bs 0)).take (ft bs 4) ++ bs.drop (ft bs 8) = bs.drop (ft bs 0) := by
    rw [← f1, ← List.drop_drop, List.take_append_drop]
  rw [a1, a2, a3, List.take_append_drop]
theorem ctx_unique {bs : List Nat} {X Y : List T} {ps qs : List (List T)} (c : Ctx bs X ps) (d : Ctx bs Y qs) : X = Y ∧ ps = qs := by
  have h1 := c.ix
  rw [d.ix] at h1
  have h2 : Y = X := congrArg Prod.fst h1
  subst h2
  have h3 := c.walk
  rw [d.walk] at h3
  injection h3 with h3
  exact ⟨rfl, h3.symm⟩
theorem rest_iff {bs : List Nat} {X : List T} {ps : List (List T)} (h8 : ∀ x, x ∈ bs → x < 256) (c : Ctx bs X ps) : Rest bs X ps ↔ IsT bs ps.flatten :=
  ⟨rest_isT h8 c, fun h => by
    obtain ⟨qs, every, size, d, -, r, -, -⟩ := isT_ctx h
    obtain ⟨rfl, rfl⟩ := ctx_unique c d
    exact r⟩
/-! ### What is answered -/
theorem tallB_short {bs : List Nat} (h : bs.length < 24) : tallB bs = ([], [], 4) := by unfold tallB; rw [if_pos h]
theorem tallB_sum {bs : List Nat} (h : ¬ bs.length < 24) (h2 : bs.drop (bs.length - 4) ≠ sum4 ((bs.drop (bs.length - 24)).take 20)) : tallB bs = ([], [], 5) := by unfold tallB; rw [if_neg h, if_pos h2]
theorem tallB_foot {bs : List Nat} (h : ¬ bs.length < 24) (h2 : bs.drop (bs.length - 4) = sum4 ((bs.drop (bs.length - 24)).take 20)) (h3 : ft bs 0 + ft bs 4 ≠ ft bs 8 ∨ ft bs 8 + ft bs 12 ≠ bs.length - 24) : tallB bs = ([], [], 2) := by
  unfold tallB; rw [if_neg h, if_neg (Classical.not_not.2 h2), if_pos h3]
theorem tallB_ix {bs : List Nat} (h : ¬ bs.length < 24) (h2 : bs.drop (bs.length - 4) = sum4 ((bs.drop (bs.length - 24)).take 20)) (h3 : ft bs 0 + ft bs 4 = ft bs 8) (h4 : ft bs 8 + ft bs 12 = bs.length - 24) (h5 : (allB (ixb bs)).2 ≠ 0) :
    tallB bs = ([], [], inner (allB (ixb bs)).2) := by
  unfold tallB; rw [if_neg h, if_neg (Classical.not_not.2 h2), if_neg (by omega), if_pos h5]
theorem tallB_one {bs : List Nat} (h : ¬ bs.length < 24) (h2 : bs.drop (bs.length - 4) = sum4 ((bs.drop (bs.length - 24)).take 20)) (h3 : ft bs 0 + ft bs 4 = ft bs 8) (h4 : ft bs 8 + ft bs 12 = bs.length - 24) (h5 : (allB (ixb bs)).2 = 0)
    (h6 : (allB (ixb bs)).1 = [] ∨ blk 1 (allB (ixb bs)).1 ≠ ixb bs) : tallB bs = ([], [], 2) := by
  unfold tallB; rw [if_neg h, if_neg (Classical.not_not.2 h2), if_neg (by omega), if_neg (by omega), if_pos h6]
theorem tallB_walk {bs : List Nat} (h : ¬ bs.length < 24) (h2 : bs.drop (bs.length - 4) = sum4 ((bs.drop (bs.length - 24)).take 20)) (h3 : ft bs 0 + ft bs 4 = ft bs 8) (h4 : ft bs 8 + ft bs 12 = bs.length - 24) (h5 : (allB (ixb bs)).2 = 0)
    (h6 : (allB (ixb bs)).1 ≠ []) (h7 : blk 1 (allB (ixb bs)).1 = ixb bs) {e : Nat} (h9 : walk bs (ft bs 0) 0 (allB (ixb bs)).1 = .error e) : tallB bs = ([], [], e) := by
  unfold tallB; rw [if_neg h, if_neg (Classical.not_not.2 h2), if_neg (by omega), if_neg (by omega), if_neg (by rintro (a | a); exact h6 a; exact a h7), h9]
theorem tallB_rest {bs : List Nat} {X : List T} {ps : List (List T)} (c : Ctx bs X ps) (h : ¬ IsT bs ps.flatten) : tallB bs = ([], [], 2) := by
  have hix := c.ix
  unfold tallB
  rw [if_neg c.h24, if_neg (Classical.not_not.2 c.sum), if_neg (by have := c.f1; have := c.f2; omega), hix, if_neg (by simp), if_neg (by rintro (a | a); exact c.ne a; exact a c.one)]
  dsimp only
  rw [c.walk]
  dsimp only
  rw [if_neg h]
theorem tallB_ctx {bs : List Nat} {X : List T} {ps : List (List T)} (c : Ctx bs X ps) (h : IsT bs ps.flatten) : tallB bs = (ps.flatten, X, 0) := by
  have hix := c.ix
  unfold tallB
  rw [if_neg c.h24, if_neg (Classical.not_not.2 c.sum), if_neg (by have := c.f1; have := c.f2; omega), hix, if_neg (by simp), if_neg (by rintro (a | a); exact c.ne a; exact a c.one)]
  dsimp only
  rw [c.walk]
  dsimp only
  rw [if_pos h]
theorem tallB_ok {bs : List Nat} {ts : List T} (h : IsT bs ts) : ∃ every size, 1 ≤ every ∧ every ≤ 100 ∧ tallB bs = (ts, idx every 0 (parts size [] ts), 0) ∧ Ctx bs (idx every 0 (parts size [] ts)) (parts size [] ts) ∧ Rest bs (idx every 0 (parts size [] ts)) (parts size [] ts) := by
  obtain ⟨ps, every, size, c, rfl, r, hf, -, e1, e2⟩ := isT_ctx h
  refine ⟨every, size, e1, e2, ?_, c, r⟩
  rw [tallB_ctx c (by rw [hf]; exact h), hf]
end Go.Proofs.YtobjiamdljjkjaaGreat.Tb

/- The document's tables: what entries count, whether two are alike, the user keys. -/
namespace Go.Proofs.YtobjiamdljjkjaaGreat.Tb
set_option linter.unusedVariables false
set_option linter.unusedSimpArgs false
open Go.RowKit Lift Ik Sk Vn Bk Bl Sq
theorem inner_any (n : Nat) (w : World) : Calls Tryz.prog 40 #[.int .i64 (n : Int)] w fun e w' => e = .returned (.int .i64 (inner n : Nat)) ∧ w = w' := by
  by_cases h : n = 5
  · subst h
    go_enter Tryz.func40, Tryz.ntmps40
    go_wp2_with fail
    go_ret
    exact ⟨rfl, rfl⟩
  · have d1 : ((n : Int) == 5) = false := by rw [beq_eq_false_iff_ne]; omega
    have E := Lib.hid (show inner n = 2 by unfold inner; rw [if_neg h])
    clear h
    go_enter Tryz.func40, Tryz.ntmps40
    go_wp2_with fail
    go_ret
    exact ⟨by rw [E.out]; rfl, rfl⟩
theorem take_next {α : Type} {l : List α} {j : Nat} {x : α} (h : l[j]? = some x) : l.take (j + 1) = l.take j ++ [x] := by
  rw [List.take_add_one, h]; rfl
set_option maxRecDepth 100000 in
set_option maxHeartbeats 1600000 in
theorem weigh_any (A : Option Addr) (c : Nat) (L : List D) (w : World) (h1 : Ents w (· < w.heap.size) A c L) (hn : L.length ≤ 10000) (ho : ∀ d, d ∈ L → d.k.key.length ≤ 300 ∧ d.val.length ≤ 5000) :
    Calls Tryz.prog 70 #[.slice A L.length c] w fun e w' => e = .returned (.int .i64 (weigh (L.map D.t) : Nat)) ∧ Below w.heap.size w w' := by
  have H1 := Lib.hid h1
  have HO := Lib.hid ho
  have hc1 := h1.len
  have hm1 := h1.cap
  unfold maxLen at hm1
  clear h1 ho
  go_enter Tryz.func70, Tryz.ntmps70
  go_wp2_with fail
  go_loopw [3, 4] (fun s i wr => ∃ j n : Nat, j ≤ L.length ∧ i = .int .i64 (j : Int) ∧ s = .int .i64 (n : Int) ∧ n ≤ 6000 * j ∧ Hid (n = weigh ((L.map D.t).take j)) ∧ Hid (Below w.heap.size w wr)) (fun _ i _ => L.length + 1 - (intOf i).toNat)
  case atStart => exact ⟨0, 0, Nat.zero_le _, rfl, rfl, Nat.zero_le _, Lib.hid rfl, Lib.hid (Below.refl _ _)⟩
  case round =>
    obtain ⟨j, n, hj, rfl, rfl, hn6, hwt, hb⟩ := hrel
    by_cases hlt : j < L.length
    · obtain ⟨d, hd⟩ : ∃ d, L[j]? = some d := ⟨_, List.getElem?_eq_getElem hlt⟩
      obtain ⟨ad, p, hA, hpb, hp, q0, q1, q2, q3⟩ := (H1.out.below hb.out).place hd
      subst hA
      obtain ⟨o1, o2⟩ := HO.out d (List.mem_of_getElem? hd)
      have HN : Hid (n + (d.k.key.length + 8 + d.val.length) = weigh ((L.map D.t).take (j + 1))) := Lib.hid (by
        rw [take_next (show (L.map D.t)[j]? = some d.t by rw [List.getElem?_map, hd]; rfl), weigh_snoc, ← hwt.out]; rfl)
      clear hd
      go_wp2_with fail
      go_quiet (fail)
      go_wp2_with fail
      go_roundw
      case rel => exact ⟨j + 1, n + (d.k.key.length + 8 + d.val.length), by omega, by go_num, by go_num, by omega, HN, Lib.hid (hb.out.trans (Joins.below_draws _ _ _))⟩
      case measure => simp [intOf]; omega
    · obtain rfl : j = L.length := by omega
      have HN : Hid (n = weigh (L.map D.t)) := Lib.hid (by rw [hwt.out]; congr 1; exact List.take_of_length_le (by rw [List.length_map]; exact Nat.le_refl _))
      go_wp2_with fail
      go_ret
      exact ⟨by rw [← HN.out]; rfl, hb.out⟩
theorem runs {w : World} {B c : Nat} {A : Option Addr} {bs : List Nat} (hl : Lies w B A (bs.map vb)) : Sem.run Tryz.prog (convert 25 9 (.slice A bs.length c)) w = .ok (.string (str bs)) w :=
  run_string_lies (P := Tryz.prog) (c := c) _ _ 5 Tryz.underlying25 Tryz.underlying5 Tryz.underlying9 hl
theorem twins_iff : ∀ ts : List T, twins ts = true ↔ ∃ i a b, ts[i]? = some a ∧ ts[i + 1]? = some b ∧ a.k.key = b.k.key ∧ a.k.seq = b.k.seq
  | [] => by simp [twins]
  | [a] => by
    constructor
    · intro h; cases h
    · rintro ⟨i, x, y, -, h, -⟩; simp at h
  | a :: b :: l => by
    have e : twins (a :: b :: l) = ((decide (a.k.key = b.k.key) && decide (a.k.seq = b.k.seq)) || twins (b :: l)) := rfl
    rw [e, Bool.or_eq_true, twins_iff (b :: l)]
    constructor
    · rintro (h | ⟨i, x, y, h1, h2, h3⟩)
      · simp at h
        exact ⟨0, a, b, rfl, rfl, h.1, h.2⟩
      · exact ⟨i + 1, x, y, h1, h2, h3⟩
    · rintro ⟨i, x, y, h1, h2, h3, h4⟩
      cases i with
      | zero =>
        simp at h1 h2
        subst h1; subst h2
        left; simp [h3, h4]
      | succ i => exact .inr ⟨i, x, y, h1, h2, h3, h4⟩
set_option maxRecDepth 100000 in
set_option maxHeartbeats 1600000 in
theorem twins_any (A : Option Addr) (c : Nat) (L : List D) (w : World) (h1 : Ents w (· < w.heap.size) A c L) (hn : L.length ≤ 10000) :
    Calls Tryz.prog 26 #[.slice A L.length c] w fun e w' => e = .returned (.bool (twins (L.map D.t))) ∧ Below w.heap.size w w' := by
  have H1 := Lib.hid h1
  have hc1 := h1.len
  have hm1 := h1.cap
  unfold maxLen at hm1
  clear h1
  go_enter Tryz.func26, Tryz.ntmps26
  go_wp2_with fail
  go_loopw [3] (fun i wr => ∃ j : Nat, (j < L.length ∨ j = 0) ∧ i = .int .i64 ((j : Int) + 1) ∧ Hid (∀ i a b, i < j → (L.map D.t)[i]? = some a → (L.map D.t)[i + 1]? = some b → ¬ (a.k.key = b.k.key ∧ a.k.seq = b.k.seq)) ∧ Hid (Below w.heap.size w wr)) (fun i _ => L.length + 2 - (intOf i).toNat)
  case atStart => exact ⟨0, .inr rfl, rfl, Lib.hid (fun i a b h => by omega), Lib.hid (Below.refl _ _)⟩
  case round =>
    obtain ⟨j, hj, rfl, hno, hb⟩ := hrel
    by_cases hlt : j + 1 < L.length
    · obtain ⟨d, hd⟩ : ∃ d, L[j]? = some d := ⟨_, List.getElem?_eq_getElem (by omega)⟩
      obtain ⟨e, he⟩ : ∃ e, L[j + 1]? = some e := ⟨_, List.getElem?_eq_getElem hlt⟩
      obtain ⟨ad, p, hA, hpb, hp, q0, q1, q2, q3⟩ := (H1.out.below hb.out).place hd
      obtain ⟨ad2, p2, hA2, hpb2, hp2, x0, x1, x2, x3⟩ := (H1.out.below hb.out).place he
      subst hA
      injection hA2 with hA2
      subst hA2
      have okd := (H1.out.below hb.out).ok d (List.mem_of_getElem? hd)
      have oke := (H1.out.below hb.out).ok e (List.mem_of_getElem? he)
      have r1 : ∀ n, Sem.run Tryz.prog (convert 25 9 (.slice d.ka d.k.key.length d.kc)) (wr.drewN n) = .ok (.string (str d.k.key)) (wr.drewN n) := fun n => runs ((okd.kl.lies fun k hk => hk).below (Joins.below_draws _ _ _))
      have r2 : ∀ n, Sem.run Tryz.prog (convert 25 9 (.slice e.ka e.k.key.length e.kc)) (wr.drewN n) = .ok (.string (str e.k.key)) (wr.drewN n) := fun n => runs ((oke.kl.lies fun k hk => hk).below (Joins.below_draws _ _ _))
      have hse := str_eq okd.ok.1 oke.ok.1
      have dl : decide ((j : Int) + 1 < (L.length : Int)) = true := decide_eq_true (by omega)
      have hst : (d.k.key = e.k.key ∧ d.k.seq = e.k.seq) → twins (L.map D.t) = true := fun h => (twins_iff _).2 ⟨j, d.t, e.t, by rw [List.getElem?_map, hd]; rfl, by rw [List.getElem?_map, he]; rfl, h.1, h.2⟩
      have hnx : ¬ (d.k.key = e.k.key ∧ d.k.seq = e.k.seq) → ∀ i a b, i < j + 1 → (L.map D.t)[i]? = some a → (L.map D.t)[i + 1]? = some b → ¬ (a.k.key = b.k.key ∧ a.k.seq = b.k.seq) := fun h i a b hi ha hb' => by
        by_cases hij : i = j
        · subst hij
          rw [List.getElem?_map, hd] at ha
          rw [List.getElem?_map, he] at hb'
          injection ha with ha
          injection hb' with hb'
          rw [← ha, ← hb']
          exact h
        · exact hno.out i a b (by omega) ha hb'
      have HST := Lib.hid hst
      have HNX := Lib.hid hnx
      clear hd he okd oke hst hnx
      by_cases k1 : d.k.key = e.k.key
      · rw [decide_eq_true k1] at hse
        by_cases k2 : d.k.seq = e.k.seq
        · have HE := Lib.hid (HST.out ⟨k1, k2⟩)
          have d2 : ((d.k.seq : Int) == (e.k.seq : Int)) = true := by rw [beq_iff_eq]; omega
          have d3 : (d.k.seq == e.k.seq) = true := by rw [beq_iff_eq]; exact k2
          clear k1 k2 HST HNX
          go_wp2_with fail
          go_quiet (fail)
          go_wp2_with fail
          go_ret
          exact ⟨by rw [HE.out]; rfl, hb.out.trans (Joins.below_draws _ _ _)⟩
        · have HN := Lib.hid (HNX.out fun h => k2 h.2)
          have d2 : ((d.k.seq : Int) == (e.k.seq : Int)) = false := by rw [beq_eq_false_iff_ne]; omega
          have d3 : (d.k.seq == e.k.seq) = false := by rw [beq_eq_false_iff_ne]; exact k2
          clear k1 k2 HST HNX
          go_wp2_with fail
          go_quiet (fail)
          go_wp2_with fail
          go_roundw
          case rel => exact ⟨j + 1, .inl hlt, by go_num, HN, Lib.hid (hb.out.trans (Joins.below_draws _ _ _))⟩
          case measure => simp [intOf]; omega
      · rw [decide_eq_false k1] at hse
        have HN := Lib.hid (HNX.out fun h => k1 h.1)
        clear k1 HST HNX
        go_wp2_with fail
        go_quiet (fail)
        go_wp2_with fail
        go_roundw
        case rel => exact ⟨j + 1, .inl hlt, by go_num, HN, Lib.hid (hb.out.trans (Joins.below_draws _ _ _))⟩
        case measure => simp [intOf]; omega
    · have dl : decide ((j : Int) + 1 < (L.length : Int)) = false := decide_eq_false (by omega)
      have HE : Hid (twins (L.map D.t) = false) := Lib.hid (by
        rw [← Bool.not_eq_true, twins_iff]
        rintro ⟨i, a, b, ha, hb', hk⟩
        have := (List.getElem?_eq_some_iff.1 hb').1
        rw [List.length_map] at this
        exact hno.out i a b (by omega) ha hb' hk)
      go_wp2_with fail
      go_ret
      exact ⟨by rw [HE.out]; rfl, hb.out⟩
theorem users_take : ∀ (ts : List T) (j : Nat) (t : T) (last : Option (List Nat)), ts[j]? = some t → users last (ts.take (j + 1)) = users last (ts.take j) ++ (if (if j = 0 then last else (ts[j - 1]?).map fun u => u.k.key) = some t.k.key then [] else [t.k.key])
  | [], j, t, last, h => by simp at h
  | a :: ts, 0, t, last, h => by
    simp at h
    subst h
    simp [users]
  | a :: ts, j + 1, t, last, h => by
    have ih := users_take ts j t (some a.k.key) h
    rw [List.take_succ_cons, List.take_succ_cons]
    unfold users
    rw [ih, List.append_assoc]
    congr 2
    cases j with
    | zero => simp
    | succ j => simp
/-- Slices of bytes, told. -/
def Users (w : World) (U : List (List Nat)) (e : Ending) (w' : World) : Prop := ∃ (A : Option Addr) (c : Nat) (Es : List E), e = .returned (.slice A Es.length c) ∧ Es.map E.bs = U ∧ Seqs w' w'.heap.size A c Es ∧ Below w.heap.size w w'
set_option maxRecDepth 100000 in
set_option maxHeartbeats 1600000 in
theorem users_any (A : Option Addr) (c : Nat) (L : List D) (w : World) (h1 : Ents w (· < w.heap.size) A c L) (hn : L.length ≤ 10000) :
    Calls Tryz.prog 31 #[.slice A L.length c] w (Users w (users none (L.map D.t))) := by
  have H1 := Lib.hid h1
  have hc1 := h1.len
  have hm1 := h1.cap
  unfold maxLen at hm1
  clear h1
  go_enter Tryz.func31, Tryz.ntmps31
  go_wp2_with fail
  go_loopw [3, 4] (fun v i wr => ∃ (j : Nat) (Es : List E), j ≤ L.length ∧ i = .int .i64 (j : Int) ∧ Hid (wr.ownsRow w.heap.size 25 1 v Es.length (Es.map E.v)) ∧ Es.length ≤ j ∧ Hid (Es.map E.bs = users none ((L.map D.t).take j)) ∧
    Hid (∀ e, e ∈ Es → e.Ok w w.heap.size) ∧ Hid (Below w.heap.size w wr)) (fun _ i _ => L.length + 1 - (intOf i).toNat)
  case atStart => exact ⟨0, [], Nat.zero_le _, rfl, Lib.hid (World.ownsRow_nil _ _ _ _), Nat.le_refl _, Lib.hid rfl, Lib.hid (fun e he => by cases he), Lib.hid (Below.refl _ _)⟩
  case round =>
    obtain ⟨j, Es, hj, rfl, hown, hel, hus, hoks, hb⟩ := hrel
    by_cases hlt : j < L.length
    · obtain ⟨d, hd⟩ : ∃ d, L[j]? = some d := ⟨_, List.getElem?_eq_getElem hlt⟩
      obtain ⟨ad, p, hA, hpb, hp, q0, q1, q2, q3⟩ := (H1.out.below hb.out).place hd
      subst hA
      have okd := (H1.out.below hb.out).ok d (List.mem_of_getElem? hd)
      have okd0 := H1.out.ok d (List.mem_of_getElem? hd)
      have HD := Lib.hid hd
      have HNX := Lib.hid (users_take (L.map D.t) j d.t none (by rw [List.getElem?_map, hd]; rfl))
      have HOK : Hid (∀ e, e ∈ Es ++ [(⟨d.ka, d.kc, d.k.key⟩ : E)] → e.Ok w w.heap.size) := Lib.hid fun e he => by
        rcases List.mem_append.1 he with h | h
        · exact hoks.out e h
        · simp at h
          subst h
          exact ⟨okd0.kl.lies fun k hk => hk, okd0.kc, okd0.km, okd0.ok.1⟩
      have r2 : ∀ n, Sem.run Tryz.prog (convert 25 9 (.slice d.ka d.k.key.length d.kc)) (wr.drewN n) = .ok (.string (str d.k.key)) (wr.drewN n) := fun n => runs ((okd.kl.lies fun k hk => hk).below (Joins.below_draws _ _ _))
      by_cases h0 : j = 0
      · subst h0
        have HN : Hid ((Es ++ [(⟨d.ka, d.kc, d.k.key⟩ : E)]).map E.bs = users none ((L.map D.t).take (0 + 1))) := Lib.hid (by
          rw [HNX.out, List.map_append, hus.out]; simp; rfl)
        clear hd okd okd0 HNX
        go_wp2_with fail
        go_quiet (fail)
        have HBW := Lib.hid (hb.out.trans (Joins.below_draws w.heap.size wr nq))
        have hownW := own_later hown.out (Joins.below_draws wr.heap.size wr nq)
        generalize wr.drewN nq = W2 at HBW hownW ⊢
        clear q0 q1 q2 q3 r2 hp hpb
        obtain ⟨ad2, p2, hA2, hpb2, hp2, q0, q1, q2, q3⟩ := (H1.out.below HBW.out).place HD.out
        injection hA2 with hA2
        subst hA2
        obtain ⟨v', w1, hrun, hown1, hb1, hs1⟩ := run_append_one (P := Tryz.prog) (u := .slice d.ka d.k.key.length d.kc) 57 57 25 (.slice none 0 0) 24 Tryz.underlying57 (by kernel_rfl) rfl rfl hownW (by unfold maxLen; omega) (by omega) HBW.out.size
        have HR := Lib.hid hrun
        have hown2 : w1.ownsRow w.heap.size 25 1 v' (Es ++ [(⟨d.ka, d.kc, d.k.key⟩ : E)]).length ((Es ++ [(⟨d.ka, d.kc, d.k.key⟩ : E)]).map E.v) := by
          rw [List.map_append, List.length_append]; exact hown1
        have HO := Lib.hid hown2
        have HB1 := Lib.hid (HBW.out.trans hb1)
        clear hrun hown1 hown2 hb1 hs1 hownW
        go_wp2_with (at_builtin; refine wpList_append_run rfl _ _ 57 rfl rfl rfl HR.out ?_)
        go_roundw
        case rel => exact ⟨0 + 1, Es ++ [(⟨d.ka, d.kc, d.k.key⟩ : E)], Nat.succ_le_of_lt hlt, by go_num, HO, by rw [List.length_append, List.length_singleton]; omega, HN, HOK, HB1⟩
        case measure => simp [intOf] <;> omega
      · obtain ⟨m, rfl⟩ : ∃ m, j = m + 1 := ⟨j - 1, by omega⟩
        obtain ⟨e, he⟩ : ∃ e, L[m]? = some e := ⟨_, List.getElem?_eq_getElem (by omega)⟩
        obtain ⟨ad3, p3, hA3, hpb3, hp3, x0, x1, x2, x3⟩ := (H1.out.below hb.out).place he
        injection hA3 with hA3
        subst hA3
        have oke := (H1.out.below hb.out).ok e (List.mem_of_getElem? he)
        have r1 : ∀ n, Sem.run Tryz.prog (convert 25 9 (.slice e.ka e.k.key.length e.kc)) (wr.drewN n) = .ok (.string (str e.k.key)) (wr.drewN n) := fun n => runs ((oke.kl.lies fun k hk => hk).below (Joins.below_draws _ _ _))
        have hse := str_eq oke.ok.1 okd.ok.1
        have em : ((m + 1 : Nat) : Int) - 1 = (m : Int) := by omega
        have d0 : (((m + 1 : Nat) : Int) == 0) = false := by rw [beq_eq_false_iff_ne]; omega
        have d0' : ((m : Int) + 1 == 0) = false := by rw [beq_eq_false_iff_ne]; omega
        have d0'' : (m + 1 == 0) = false := by rw [beq_eq_false_iff_ne]; omega
        have hnx := HNX.out
        rw [if_neg h0, Nat.add_sub_cancel, List.getElem?_map, he] at hnx
        have HNY := Lib.hid hnx
        by_cases k1 : e.k.key = d.k.key
        · rw [decide_eq_true k1] at hse
          have hse2 : ((str e.k.key).toList != (str d.k.key).toList) = false := by unfold bne; rw [hse]; rfl
          have HN : Hid (Es.map E.bs = users none ((L.map D.t).take (m + 1 + 1))) := Lib.hid (by
            rw [HNY.out, hus.out]
            simp [D.t, k1])
          clear hd okd okd0 HNX HNY he oke hnx k1
          go_wp2_with fail
          go_quiet (fail)
          go_wp2_with fail
          go_roundw
          case rel => exact ⟨m + 1 + 1, Es, Nat.succ_le_of_lt hlt, by go_num, Lib.hid (own_later hown.out (Joins.below_draws wr.heap.size wr nq)), by omega, HN, hoks, Lib.hid (hb.out.trans (Joins.below_draws _ _ _))⟩
          case measure => simp [intOf]; omega
        · rw [decide_eq_false k1] at hse
          have hse2 : ((str e.k.key).toList != (str d.k.key).toList) = true := by unfold bne; rw [hse]; rfl
          have HN : Hid ((Es ++ [(⟨d.ka, d.kc, d.k.key⟩ : E)]).map E.bs = users none ((L.map D.t).take (m + 1 + 1))) := Lib.hid (by
            rw [HNY.out, List.map_append, hus.out]
            simp [D.t, k1])
          clear hd okd okd0 HNX HNY he oke hnx k1
          go_wp2_with fail
          go_quiet (fail)
          clear x0 x1 x2 x3 r1 hp3 hpb3
          have HBW := Lib.hid (hb.out.trans (Joins.below_draws w.heap.size wr nq))
          have hownW := own_later hown.out (Joins.below_draws wr.heap.size wr nq)
          generalize wr.drewN nq = W2 at HBW hownW ⊢
          clear q0 q1 q2 q3 r2 hp hpb
          obtain ⟨ad2, p2, hA2, hpb2, hp2, q0, q1, q2, q3⟩ := (H1.out.below HBW.out).place HD.out
          injection hA2 with hA2
          subst hA2
          obtain ⟨v', w1, hrun, hown1, hb1, hs1⟩ := run_append_one (P := Tryz.prog) (u := .slice d.ka d.k.key.length d.kc) 57 57 25 (.slice none 0 0) 24 Tryz.underlying57 (by kernel_rfl) rfl rfl hownW (by unfold maxLen; omega) (by omega) HBW.out.size
          have HR := Lib.hid hrun
          have hown2 : w1.ownsRow w.heap.size 25 1 v' (Es ++ [(⟨d.ka, d.kc, d.k.key⟩ : E)]).length ((Es ++ [(⟨d.ka, d.kc, d.k.key⟩ : E)]).map E.v) := by
            rw [List.map_append, List.length_append]; exact hown1
          have HO := Lib.hid hown2
          have HB1 := Lib.hid (HBW.out.trans hb1)
          clear hrun hown1 hown2 hb1 hs1 hownW
          go_wp2_with (at_builtin; refine wpList_append_run rfl _ _ 57 rfl rfl rfl HR.out ?_)
          go_roundw
          case rel => exact ⟨m + 1 + 1, Es ++ [(⟨d.ka, d.kc, d.k.key⟩ : E)], Nat.succ_le_of_lt hlt, by go_num, HO, by rw [List.length_append, List.length_singleton]; omega, HN, HOK, HB1⟩
          case measure => simp [intOf]; omega
    · have hjl : j = L.length := by omega
      subst hjl
      have hown' := hown.out
      obtain ⟨A9, c9, hv9, k1, k2, k3⟩ := own_parts hown'
      subst hv9
      have HU : Hid (Es.map E.bs = users none (L.map D.t)) := Lib.hid (by rw [hus.out]; congr 1; exact List.take_of_length_le (by rw [List.length_map]; exact Nat.le_refl _))
      have HS : Hid (Seqs wr wr.heap.size A9 c9 Es) := Lib.hid ⟨k3, k1, k2, fun e he => ⟨((hoks.out e he).lies.below hb.out).up hb.out.size, (hoks.out e he).cap, (hoks.out e he).max, (hoks.out e he).byte⟩⟩
      clear hown' k1 k2 k3
      go_wp2_with fail
      go_ret
      exact ⟨A9, c9, Es, rfl, HU.out, HS.out, hb.out⟩
end Go.Proofs.YtobjiamdljjkjaaGreat.Tb

/- The document's tables: an entry of the index. -/
namespace Go.Proofs.YtobjiamdljjkjaaGreat.Tb
set_option linter.unusedVariables false
set_option linter.unusedSimpArgs false
open Go.RowKit Lift Ik Sk Vn Bk Bl Sq
theorem held_row {P : Program} {w : World} {ops : Array Oper} {o : Oper} {a : Act} {K' : Act → World → Prop} {Q : Exit → Act → World → Prop} (hw : Region.wanted o (yielded ops a.tmps) = true) (ty : TypeId) (x y : Operand)
    (ho : o.op = .store ty x y) (g : Nat) (cells : Array Value) (hx : a.eval x = .pointer (some ⟨g, 0, none⟩)) (hy : a.eval y = .agg cells) (t : TypeId) (old : Array Value) (hg : w.heap[g]? = some (.cells old t (0, 0)))
    (hi : (P.info? ty).map (·.size) = some cells.size) (hold : old.size = cells.size) (h1 : cells.all (·.oneCell') = true) (h : K' (a.put o.dst undef) (w.setRow g cells)) :
    if Region.wanted o (yielded ops a.tmps) = true then Oper.wp P o a w K' Q else K' (a.put o.dst undef) w := by
  rw [if_pos hw]
  exact wp_store_row ty x y ho g cells hx hy t old hg hi hold h1 h
/-- A slice of bytes of the call's own lies outside of a box of another type. -/
theorem own_apart3 {w : World} {base n X c : Nat} {A : Option Addr} {bs : List Nat} {us : List Value} (h : w.ownsRow base 5 1 (.slice A n c) n (bs.map vb)) (hx : Lift.Box w X 41 us) : LiesP w (fun k => Fresh base w k ∧ k ≠ X) A (bs.map vb) := by
  refine LiesP.later (LiesP.of_own h) (fun _ _ => rfl) fun k hk => ?_
  obtain ⟨hk0, hk1, cs, fr, hk2⟩ := hk
  refine ⟨⟨hk0, hk1, cs, fr, hk2⟩, fun e => ?_⟩
  subst e
  unfold Lift.Box at hx
  rw [hk2] at hx
  injection hx with hx
  injection hx with _ h2
  exact absurd h2 (by decide)
/-- An entry that is told. -/
def Ptr (B : Nat) (w : World) (t : T) (e : Ending) (w' : World) : Prop := ∃ d : D, e = .returned d.v ∧ d.t = t ∧ d.Ok w' (fun k => k < B ∨ Fresh w.heap.size w' k) ∧ Below w.heap.size w w'
set_option maxRecDepth 100000 in
set_option maxHeartbeats 1600000 in
theorem pointer_any (d : D) (a n B : Nat) (w : World) (h : d.Ok w (· < B)) (hB : B ≤ w.heap.size) (ha : a < 9223372036854775808) (hn : n < 9223372036854775808) :
    Calls Tryz.prog 29 #[key d.ka d.kc d.k, .int .i64 (a : Int), .int .i64 (n : Int)] w (Ptr B w (ptr d.t a n)) := by
  have HD := Lib.hid h
  obtain ⟨W1, hW1⟩ : ∃ W1, W1 = (w.alloc (.cells #[.slice d.ka d.k.key.length d.kc, .int .u64 (d.k.seq : Int), .int .i64 1] 39)).alloc zbox := ⟨_, rfl⟩
  have hbx : Lift.Box W1 w.heap.size 39 [.slice d.ka d.k.key.length d.kc, .int .u64 (d.k.seq : Int), .int .i64 1] := by
    rw [hW1]; exact (Lift.Box.new w _ [.slice d.ka d.k.key.length d.kc, .int .u64 (d.k.seq : Int), .int .i64 1]).alloc _
  have hbz : Bx W1 (w.heap.size + 1) dz := by
    rw [hW1]
    have := Bx.new (w.alloc (.cells #[.slice d.ka d.k.key.length d.kc, .int .u64 (d.k.seq : Int), .int .i64 1] 39)) dz
    rw [World.size_alloc] at this
    exact this
  have hb1 : Below w.heap.size w W1 := by rw [hW1]; exact ((Below.refl _ w).alloc (Nat.le_refl _) _).alloc (by simp) _
  have HBX := Lib.hid hbx
  have HBZ := Lib.hid hbz
  have HB1 := Lib.hid hb1
  have ea : IntKind.u64.wrap (a : Int) = (a : Int) := IntWalk.u64_in _ (by omega)
  have en : IntKind.u64.wrap (n : Int) = (n : Int) := IntWalk.u64_in _ (by omega)
  clear hbx hbz hb1 h
  go_enter Tryz.func29, Tryz.ntmps29
  go_upto_region 2 with fail
  rw [← hW1]
  clear hW1
  refine wp_region_held_drew (S := fun w' => Hid (Keep (· = w.heap.size + 1) W1 w')) (by kernel_rfl) (Lib.hid (Keep.refl _ _).drew) (fun hS => ?_)
  refine wpAnyH_take (i := 0) (v := ?_) rfl (by kernel_rfl) (by kernel_rfl) (by kernel_rfl) (fun _ _ _ h => h) (Or.inl ⟨by rfl, ?_⟩) hS ?_
  rotate_left
  · intro wi hw
    have hbb := (HBX.out.keep hw.out (by simp)).facts3
    obtain ⟨f0, f1, f2, -, -, -⟩ := hbb
    have hld := KD.load (d := ⟨d.ka, d.kc, ⟨d.k.key, d.k.seq, 1⟩⟩) (p := ⟨w.heap.size, 0, none⟩) f0 f1 f2
    go_simp
    try with_reducible rfl
  try simp only [Act.put, List.getElem_toArray, List.getElem_cons_succ, List.getElem_cons_zero, List.setIfInBounds_toArray, List.set_cons_zero, List.set_cons_succ]
  refine wpAnyH_take (i := 1) (v := ?_) rfl (by kernel_rfl) (by kernel_rfl) (by kernel_rfl) (fun _ _ _ h => h) (Or.inl ⟨by rfl, ?_⟩) hS ?_
  rotate_left
  · intro wi hw
    go_simp
    try with_reducible rfl
  try simp only [Act.put, List.getElem_toArray, List.getElem_cons_succ, List.getElem_cons_zero, List.setIfInBounds_toArray, List.set_cons_zero, List.set_cons_succ]
  refine wpAnyH_take (i := 2) (v := ?_) rfl (by kernel_rfl) (by kernel_rfl) (by kernel_rfl) (fun _ _ _ h => h) (Or.inl ⟨by rfl, ?_⟩) hS ?_
  rotate_left
  · intro wi hw
    have ea : IntKind.u64.wrap (a : Int) = (a : Int) := IntWalk.u64_in _ (by omega)
    go_simp
    try with_reducible rfl
  try simp only [Act.put, List.getElem_toArray, List.getElem_cons_succ, List.getElem_cons_zero, List.setIfInBounds_toArray, List.set_cons_zero, List.set_cons_succ]
  refine wpAnyH_take (i := 4) (v := ?_) rfl (by kernel_rfl) (by kernel_rfl) (by kernel_rfl) (fun _ _ _ h => h) (Or.inl ⟨by rfl, ?_⟩) hS ?_
  rotate_left
  · intro wi hw
    go_simp
    try with_reducible rfl
  try simp only [Act.put, List.getElem_toArray, List.getElem_cons_succ, List.getElem_cons_zero, List.setIfInBounds_toArray, List.set_cons_zero, List.set_cons_succ]
  refine wpAnyH_take (i := 5) (v := ?_) rfl (by kernel_rfl) (by kernel_rfl) (by kernel_rfl) (fun _ _ _ h => h) (Or.inl ⟨by rfl, ?_⟩) hS ?_
  rotate_left
  · intro wi hw
    have en : IntKind.u64.wrap (n : Int) = (n : Int) := IntWalk.u64_in _ (by omega)
    go_simp
    try with_reducible rfl
  try simp only [Act.put, List.getElem_toArray, List.getElem_cons_succ, List.getElem_cons_zero, List.setIfInBounds_toArray, List.set_cons_zero, List.set_cons_succ]
  refine wpAnyH_ready (rs := [3]) (by kernel_rfl) (by simp) ?_
  refine AllReadyH.cons rfl (fun K hK => ?_) AllReadyH.nil
  go_simp
  have hk := hS.out
  refine (Vt.putv_calls none 0 a [] _ (.inl rfl) (by simp) (by omega)).mono ?_
  intro e W2 hmade
  obtain ⟨v2, rfl, -, ⟨A2, c2, hv2, m1, m2, m3⟩, hb2⟩ := made_byts hmade
  subst hv2
  rw [List.nil_append] at *
  have HK2 : Hid (Keep (· = w.heap.size + 1) W1 W2) := Lib.hid (hk.trans (below_keep (S := (· = w.heap.size + 1)) hb2) (fun i _ h => h))
  have HL2 := Lib.hid m3
  have HS2 : Hid (w.heap.size ≤ W2.heap.size) := Lib.hid (Nat.le_trans HB1.out.size (Nat.le_trans hk.size hb2.size))
  have HZ2 : Hid (Bx W2 (w.heap.size + 1) dz) := Lib.hid (Lift.Box.below (show Bx W1.drew (w.heap.size + 1) dz from HBZ.out) hb2 HBZ.out.lt)
  clear hmade m3 hb2 hk
  go_wp2_with fail
  refine hK.out _ _ HK2 (fun hS => ?_)
  clear hK K
  try simp only [Act.put, List.getElem_toArray, List.getElem_cons_succ, List.getElem_cons_zero, List.setIfInBounds_toArray, List.set_cons_zero, List.set_cons_succ]
  refine wpAnyH_ready (rs := [6]) (by kernel_rfl) (by simp) ?_
  refine AllReadyH.cons rfl (fun K hK => ?_) AllReadyH.nil
  go_simp
  have la := (enc_len a).2
  have ln := (enc_len n).2
  refine (Vt.putv_calls A2 c2 n (enc a) _ HL2.out (by omega) (by omega)).mono ?_
  intro e W3 hmade
  obtain ⟨v3, rfl, hown3, ⟨A3, c3, hv3, n1, n2, n3⟩, hb3⟩ := made_byts hmade
  subst hv3
  have HK3 : Hid (Keep (· = w.heap.size + 1) W1 W3) := Lib.hid (HK2.out.trans (below_keep (S := (· = w.heap.size + 1)) hb3) (fun i _ h => h))
  have HZ3 : Hid (Bx W3 (w.heap.size + 1) dz) := Lib.hid (HZ2.out.below hb3 HZ2.out.lt)
  have HL3 : Hid (LiesP W3 (fun k => Fresh W2.heap.size W3 k ∧ k ≠ w.heap.size + 1) A3 ((enc a ++ enc n).map vb)) := Lib.hid (own_apart3 hown3 HZ3.out)
  have hl9 : (enc a ++ enc n).length ≤ 20 := by rw [List.length_append]; omega
  have HL9 := Lib.hid hl9
  clear hmade n3 hb3 la ln hl9
  go_wp2_with fail
  refine hK.out _ _ HK3 (fun hS => ?_)
  clear hK K
  try simp only [Act.put, List.getElem_toArray, List.getElem_cons_succ, List.getElem_cons_zero, List.setIfInBounds_toArray, List.set_cons_zero, List.set_cons_succ]
  refine wpAnyH_take (i := 7) (v := ?_) rfl (by kernel_rfl) (by kernel_rfl) (by kernel_rfl) (fun _ _ _ h => h) (Or.inl ⟨by rfl, ?_⟩) hS ?_
  rotate_left
  · intro wi hw
    go_simp
    try with_reducible rfl
  try simp only [Act.put, List.getElem_toArray, List.getElem_cons_succ, List.getElem_cons_zero, List.setIfInBounds_toArray, List.set_cons_zero, List.set_cons_succ]
  refine wpAnyH_ready (rs := [8]) (by kernel_rfl) (by simp) ?_
  refine AllReadyH.cons rfl (fun K hK => ?_) AllReadyH.nil
  refine held_row rfl _ _ _ rfl (w.heap.size + 1) #[.slice d.ka d.k.key.length d.kc, .int .u64 (d.k.seq : Int), .int .i64 1, .slice A3 (enc a ++ enc n).length c3] rfl (by rw [List.length_append]; rfl) _ dz.cells.toArray HZ3.out (by kernel_rfl) rfl (by kernel_rfl) ?_
  refine hK.out _ _ (Lib.hid (keep_setRow (S := (· = w.heap.size + 1)) HK3.out (.inr rfl) _)) (fun hS => ?_)
  clear hK K
  try simp only [Act.put, List.getElem_toArray, List.getElem_cons_succ, List.getElem_cons_zero, List.setIfInBounds_toArray, List.set_cons_zero, List.set_cons_succ]
  refine wpAnyH_done (by kernel_rfl) ?_ _
  have hres : Lift.Box (W3.setRow (w.heap.size + 1) #[.slice d.ka d.k.key.length d.kc, .int .u64 (d.k.seq : Int), .int .i64 1, .slice A3 (enc a ++ enc n).length c3]) (w.heap.size + 1) 41 [.slice d.ka d.k.key.length d.kc, .int .u64 (d.k.seq : Int), .int .i64 1, .slice A3 (enc a ++ enc n).length c3] := setRow_heap _ _ _ _ _ _ HZ3.out
  have hk9 := hS.out
  have hoff : ∀ k, k ≠ w.heap.size + 1 → (W3.setRow (w.heap.size + 1) #[.slice d.ka d.k.key.length d.kc, .int .u64 (d.k.seq : Int), .int .i64 1, .slice A3 (enc a ++ enc n).length c3]).heap[k]? = W3.heap[k]? := fun k hk => setRow_other W3 (w.heap.size + 1) k _ hk
  have hsz : (W3.setRow (w.heap.size + 1) #[.slice d.ka d.k.key.length d.kc, .int .u64 (d.k.seq : Int), .int .i64 1, .slice A3 (enc a ++ enc n).length c3]).heap.size = W3.heap.size := size_setRow ..
  generalize W3.setRow (w.heap.size + 1) #[.slice d.ka d.k.key.length d.kc, .int .u64 (d.k.seq : Int), .int .i64 1, .slice A3 (enc a ++ enc n).length c3] = W9 at hres hk9 hoff hsz ⊢
  clear hS
  go_wp2_with fail
  refine bodyPost_ret (results_one rfl Tryz.underlying41 rfl (by kernel_rfl) _ rfl hres) rfl ?_
  have hb9 : Below w.heap.size w W9 := HB1.out.trans (hk9.below HB1.out.size (fun k hk => by rw [hk]; exact Nat.le_succ _))
  have hlt : w.heap.size + 1 < W3.heap.size := HZ3.out.lt
  have hb8 : ∀ k, k < w.heap.size → W9.heap[k]? = w.heap[k]? := fun k hk => hb9.block k hk
  refine ⟨⟨d.ka, d.kc, ⟨d.k.key, d.k.seq, 1⟩, A3, c3, enc a ++ enc n⟩, rfl, rfl, ?_, hb9⟩
  have hd9 := HD.out.later (w' := W9) (R' := fun k => k < B ∨ Fresh w.heap.size W9 k) (fun k hk => hb8 k (Nat.lt_of_lt_of_le hk hB)) (fun k hk => .inl hk)
  refine ⟨hd9.kl, hd9.kc, hd9.km, ⟨hd9.ok.1, hd9.ok.2.1, by show (-9223372036854775808 : Int) ≤ 1; decide, by show (1 : Int) ≤ 9223372036854775807; decide⟩, ?_, n1, n2, ?_⟩
  · refine LiesP.later (R := fun k => Fresh W2.heap.size W3 k ∧ k ≠ w.heap.size + 1) HL3.out (fun k hk => hoff k hk.2) (fun k hk => .inr ⟨Nat.le_trans HS2.out hk.1.1, by rw [hsz]; exact hk.1.2.1, by obtain ⟨cs, fr, h⟩ := hk.1.2.2; exact ⟨cs, fr, (hoff k hk.2).trans h⟩⟩)
  · intro x hx
    rcases List.mem_append.1 hx with h | h
    · exact enc_byte a (by omega) x h
    · exact enc_byte n (by omega) x h
end Go.Proofs.YtobjiamdljjkjaaGreat.Tb

/- The document's tables: whether parts could be, whether blocks and a filter are alike. -/
namespace Go.Proofs.YtobjiamdljjkjaaGreat.Tb
set_option linter.unusedVariables false
set_option linter.unusedSimpArgs false
open Go.RowKit Lift Ik Sk Vn Bk Bl Sq
/-- A part, as it lies. -/
structure P where
  a : Option Addr
  c : Nat
  L : List D
abbrev P.v (p : P) : Value := .slice p.a p.L.length p.c
abbrev P.ts (p : P) : List T := p.L.map D.t
/-- Parts, as they lie. -/
structure Pts (w : World) (A : Option Addr) (c : Nat) (Ps : List P) : Prop where
  lies : Lies w w.heap.size A (Ps.map P.v)
  len : Ps.length ≤ c
  cap : c ≤ maxLen
  ok : ∀ p, p ∈ Ps → Ents w (· < w.heap.size) p.a p.c p.L
theorem Pts.next {w w' : World} {A : Option Addr} {c : Nat} {Ps : List P} (h : Pts w A c Ps) (hb : Below w.heap.size w w') : Pts w' A c Ps := ⟨(h.lies.below hb).up hb.size, h.len, h.cap, fun p hp => (h.ok p hp).next hb⟩
theorem Pts.place {w : World} {A : Option Addr} {c : Nat} {Ps : List P} (h : Pts w A c Ps) {i : Nat} {p : P} (he : Ps[i]? = some p) : ∃ ad : Addr, A = some ad ∧ ad.block < w.heap.size ∧ w.cell? (ad.add i) = some (.slice p.a p.L.length p.c) := by
  have hl := (List.getElem?_eq_some_iff.1 he).1
  obtain ⟨ad, ha, hb, hc⟩ := h.lies.place (by rw [List.length_map]; omega)
  exact ⟨ad, ha, hb, hc i _ (by rw [List.getElem?_map, he]; rfl)⟩
theorem cut_ents (A : Option Addr) (n c k : Nat) (h : k ≤ c) (hc : n ≤ c) (hm : c ≤ maxLen) (W : World) : Sem.run Tryz.prog (Instr.slice 22 (.slice A n c) none (some (.int .i64 (k : Int))) none) W = .ok (.slice A k c) W := by
  unfold maxLen at hm
  go_simp
theorem ents_front {w : World} {R : Nat → Prop} {A : Option Addr} {c : Nat} {L : List D} (h : Ents w R A c L) (n : Nat) : Ents w R A c (L.take n) := by
  refine ⟨?_, by rw [List.length_take]; exact Nat.le_trans (Nat.min_le_right _ _) h.len, h.cap, fun d hd => h.ok d (List.mem_of_mem_take hd)⟩
  rcases h.lies with h0 | ⟨ad, ha, hb, hc⟩
  · left
    have := cellsL_length L
    rw [h0] at this
    have : L = [] := List.length_eq_zero_iff.1 (by simp at this; omega)
    subst this
    simp [cellsL]
  · refine .inr ⟨ad, ha, hb, fun j u hu => hc j u ?_⟩
    have e : cellsL L = cellsL (L.take n) ++ cellsL (L.drop n) := by rw [← cellsL_append, List.take_append_drop]
    rw [e, List.getElem?_append_left (List.getElem?_eq_some_iff.1 hu).1]
    exact hu
def minS : List (List T) → Nat → Nat
  | [], m => m
  | p :: ps, m => minS ps (min m (weigh p))
theorem highS_min : ∀ (ps : List (List T)) (m : Nat), highS ps m = minS ps.dropLast m
  | [], m => rfl
  | [p], m => rfl
  | p :: q :: ps, m => by
    rw [List.dropLast_cons_cons]
    show highS (q :: ps) (min m (weigh p)) = minS (q :: ps).dropLast (min m (weigh p))
    exact highS_min (q :: ps) _
theorem minS_snoc : ∀ (ps : List (List T)) (p : List T) (m : Nat), minS (ps ++ [p]) m = min (minS ps m) (weigh p)
  | [], p, m => rfl
  | q :: ps, p, m => by
    show minS (ps ++ [p]) (min m (weigh q)) = _
    rw [minS_snoc ps]; rfl
theorem lowS_snoc : ∀ (ps : List (List T)) (p : List T) (m : Nat), lowS (ps ++ [p]) m = max (lowS ps m) (weigh p.dropLast + 1)
  | [], p, m => rfl
  | q :: ps, p, m => by
    show lowS (ps ++ [p]) (max m (weigh q.dropLast + 1)) = _
    rw [lowS_snoc ps]; rfl
theorem minS_le : ∀ (ps : List (List T)) (m : Nat), minS ps m ≤ m
  | [], m => Nat.le_refl _
  | q :: ps, m => Nat.le_trans (minS_le ps _) (Nat.min_le_left _ _)
/-- How far parts may go. -/
structure Fine (p : P) : Prop where
  ne : p.L ≠ []
  len : p.L.length ≤ 10000
  ok : ∀ d, d ∈ p.L → okT d.t = true
theorem okT_len {d : D} (h : okT d.t = true) : d.k.key.length ≤ 300 ∧ d.val.length ≤ 5000 := by
  have h1 := okT_key h
  have h2 := okT_val h
  have h3 := of_decide_eq_true h1
  have h4 : d.k.key.length ≤ 256 := h3.2.1
  have h5 : d.val.length ≤ 4096 := h2
  omega
theorem weigh_max : ∀ ts : List T, (∀ t, t ∈ ts → t.k.key.length ≤ 300 ∧ t.val.length ≤ 5000) → weigh ts ≤ 5400 * ts.length
  | [], _ => by simp [weigh]
  | t :: ts, h => by
    have h1 := weigh_max ts fun u hu => h u (List.mem_cons_of_mem _ hu)
    have h2 := h t (List.mem_cons_self ..)
    rw [weigh_cons, List.length_cons]
    unfold wgt
    omega
theorem fine_weigh {p : P} (h : Fine p) (n : Nat) : weigh ((p.L.take n).map D.t) ≤ 54000000 := by
  have h1 := weigh_max ((p.L.take n).map D.t) fun t ht => by
    obtain ⟨d, hd, rfl⟩ := List.mem_map.1 ht
    exact okT_len (h.ok d (List.mem_of_mem_take hd))
  rw [List.length_map, List.length_take] at h1
  have := h.len
  omega
set_option maxRecDepth 100000 in
set_option maxHeartbeats 3200000 in
theorem sized_any (A : Option Addr) (c : Nat) (Ps : List P) (w : World) (h1 : Pts w A c Ps) (hf : ∀ p, p ∈ Ps → Fine p) (hn : Ps.length ≤ 10000) :
    Calls Tryz.prog 41 #[.slice A Ps.length c] w fun e w' => e = .returned (.bool (decide (lowS (Ps.map P.ts) 1 ≤ highS (Ps.map P.ts) 1048576))) ∧ Below w.heap.size w w' := by
  have H1 := Lib.hid h1
  have HF := Lib.hid hf
  have hc1 := h1.len
  have hm1 := h1.cap
  unfold maxLen at hm1
  rw [highS_min]
  clear h1 hf
  --STOP0
  go_enter Tryz.func41, Tryz.ntmps41
  go_wp2_with fail
  go_loopw [3, 4, 5] (fun l h i wr => ∃ j lo hi : Nat, j ≤ Ps.length ∧ i = .int .i64 (j : Int) ∧ l = .int .i64 (lo : Int) ∧ h = .int .i64 (hi : Int) ∧ lo ≤ 60000000 ∧ hi ≤ 1048576 ∧ Hid (lo = lowS ((Ps.map P.ts).take j) 1) ∧ Hid (hi = minS ((Ps.map P.ts).dropLast.take j) 1048576) ∧
    Hid (Below w.heap.size w wr)) (fun _ _ i _ => Ps.length + 1 - (intOf i).toNat)
  case atStart => exact ⟨0, 1, 1048576, Nat.zero_le _, rfl, rfl, rfl, by omega, Nat.le_refl _, Lib.hid rfl, Lib.hid rfl, Lib.hid (Below.refl _ _)⟩
  case round =>
    obtain ⟨j, lo, hi, hj, rfl, rfl, rfl, hlo, hhi, hlow, hhigh, hb⟩ := hrel
    by_cases hlt : j < Ps.length
    · obtain ⟨p, hp⟩ : ∃ p, Ps[j]? = some p := ⟨_, List.getElem?_eq_getElem hlt⟩
      obtain ⟨ad, hA, hab, q0⟩ := (H1.out.next hb.out).place hp
      have hmem := List.mem_of_getElem? hp
      have hen := (H1.out.next hb.out).ok p hmem
      subst hA
      have hfp := HF.out p hmem
      have HFP := Lib.hid hfp
      obtain ⟨m, hm⟩ : ∃ m, p.L.length = m + 1 := ⟨p.L.length - 1, by have := List.length_pos_iff.2 hfp.ne; omega⟩
      have hen2 := hen
      have hw1 := fine_weigh hfp m
      have hw2 := fine_weigh hfp (m + 1)
      have HW1 : Hid (∀ W : World, Below wr.heap.size wr W → Calls Tryz.prog 70 #[.slice p.a m p.c] W fun e w' => e = .returned (.int .i64 (weigh ((p.L.take m).map D.t) : Nat)) ∧ Below W.heap.size W w') := Lib.hid fun W hW => by
        have := weigh_any p.a p.c (p.L.take m) W (ents_front (hen.next hW) m) (by rw [List.length_take]; have := HFP.out.len; omega) (fun d hd => okT_len (HFP.out.ok d (List.mem_of_mem_take hd)))
        rwa [List.length_take, hm, Nat.min_eq_left (Nat.le_succ m)] at this
      have HW2 : Hid (∀ W : World, Below wr.heap.size wr W → Calls Tryz.prog 70 #[.slice p.a p.L.length p.c] W fun e w' => e = .returned (.int .i64 (weigh p.ts : Nat)) ∧ Below W.heap.size W w') := Lib.hid fun W hW =>
        weigh_any p.a p.c p.L W (hen.next hW) HFP.out.len (fun d hd => okT_len (HFP.out.ok d hd))
      rw [List.take_of_length_le (by omega)] at hw2
      have hdl : p.ts.dropLast = (p.L.take m).map D.t := by
        show (p.L.map D.t).dropLast = _
        rw [← List.map_dropLast, List.dropLast_eq_take, hm, Nat.add_sub_cancel]
      have HLOW : Hid (max lo (weigh ((p.L.take m).map D.t) + 1) = lowS ((Ps.map P.ts).take (j + 1)) 1) := Lib.hid (by
        rw [take_next (show (Ps.map P.ts)[j]? = some p.ts by rw [List.getElem?_map, hp]; rfl), lowS_snoc, ← hlow.out, hdl])
      have hcut : ∀ W : World, Sem.run Tryz.prog (Instr.slice 22 (.slice p.a p.L.length p.c) none (some (.int .i64 (m : Int))) none) W = .ok (.slice p.a m p.c) W := cut_ents p.a p.L.length p.c m (by have := hen.len; omega) hen.len hen.cap
      have HCUT := Lib.hid hcut
      have HQ := Lib.hid q0
      have HEN := Lib.hid hen
      have HPJ := Lib.hid hp
      have hpl1 := hen.len
      have hpl2 := hen.cap
      unfold maxLen at hpl2
      have em : (p.L.length : Int) - 1 = (m : Int) := by omega
      have HEM := Lib.hid em
      have dl : decide ((j : Int) < (Ps.length : Int)) = true := decide_eq_true (by omega)
      clear hp hmem hen hen2 hfp hdl hcut q0 hm em
      generalize weigh ((p.L.take m).map D.t) = X at *
      go_upto_region 6 with fail
      refine wp_region_held_drew (S := fun w' => Hid (Below wr.heap.size wr w')) (by kernel_rfl) (Lib.hid (Below.refl _ _).drew) (fun hS => ?_)
      refine wpAnyH_take (i := 0) (v := ?_) rfl (by kernel_rfl) (by kernel_rfl) (by kernel_rfl) (fun _ _ _ h => h) (Or.inl ⟨by rfl, ?_⟩) hS ?_
      rotate_left
      · intro wi hw
        go_simp
        try with_reducible rfl
      try simp only [Act.put, List.getElem_toArray, List.getElem_cons_succ, List.getElem_cons_zero, List.setIfInBounds_toArray, List.set_cons_zero, List.set_cons_succ]
      refine wpAnyH_take (i := 1) (v := ?_) rfl (by kernel_rfl) (by kernel_rfl) (by kernel_rfl) (fun _ _ _ h => h) (Or.inl ⟨by rfl, ?_⟩) hS ?_
      rotate_left
      · intro wi hw
        go_simp
        try with_reducible rfl
      try simp only [Act.put, List.getElem_toArray, List.getElem_cons_succ, List.getElem_cons_zero, List.setIfInBounds_toArray, List.set_cons_zero, List.set_cons_succ]
      refine wpAnyH_take (i := 2) (v := ?_) rfl (by kernel_rfl) (by kernel_rfl) (by kernel_rfl) (fun _ _ _ h => h) (Or.inl ⟨by rfl, ?_⟩) hS ?_
      rotate_left
      · intro wi hw
        go_simp
        try with_reducible rfl
      try simp only [Act.put, List.getElem_toArray, List.getElem_cons_succ, List.getElem_cons_zero, List.setIfInBounds_toArray, List.set_cons_zero, List.set_cons_succ]
      refine wpAnyH_take (i := 3) (v := ?_) rfl (by kernel_rfl) (by kernel_rfl) (by kernel_rfl) (fun _ _ _ h => h) (Or.inl ⟨by rfl, ?_⟩) hS ?_
      rotate_left
      · intro wi hw
        have q0 := (hw.out.cell (p := ad.add j) (by rw [add_block]; exact hab)).trans HQ.out
        go_simp
        try with_reducible rfl
      try simp only [Act.put, List.getElem_toArray, List.getElem_cons_succ, List.getElem_cons_zero, List.setIfInBounds_toArray, List.set_cons_zero, List.set_cons_succ]
      refine wpAnyH_take (i := 4) (v := ?_) rfl (by kernel_rfl) (by kernel_rfl) (by kernel_rfl) (fun _ _ _ h => h) (Or.inl ⟨by rfl, ?_⟩) hS ?_
      rotate_left
      · intro wi hw
        go_simp
        try with_reducible rfl
      try simp only [Act.put, List.getElem_toArray, List.getElem_cons_succ, List.getElem_cons_zero, List.setIfInBounds_toArray, List.set_cons_zero, List.set_cons_succ]
      refine wpAnyH_take (i := 5) (v := ?_) rfl (by kernel_rfl) (by kernel_rfl) (by kernel_rfl) (fun _ _ _ h => h) (Or.inl ⟨by rfl, ?_⟩) hS ?_
      rotate_left
      · intro wi hw
        go_simp
        try with_reducible rfl
      try simp only [Act.put, List.getElem_toArray, List.getElem_cons_succ, List.getElem_cons_zero, List.setIfInBounds_toArray, List.set_cons_zero, List.set_cons_succ]
      refine wpAnyH_take (i := 6) (v := ?_) rfl (by kernel_rfl) (by kernel_rfl) (by kernel_rfl) (fun _ _ _ h => h) (Or.inl ⟨by rfl, ?_⟩) hS ?_
      rotate_left
      · intro wi hw
        go_simp
        try with_reducible rfl
      try simp only [Act.put, List.getElem_toArray, List.getElem_cons_succ, List.getElem_cons_zero, List.setIfInBounds_toArray, List.set_cons_zero, List.set_cons_succ]
      refine wpAnyH_take (i := 7) (v := ?_) rfl (by kernel_rfl) (by kernel_rfl) (by kernel_rfl) (fun _ _ _ h => h) (Or.inl ⟨by rfl, ?_⟩) hS ?_
      rotate_left
      · intro wi hw
        have q0 := (hw.out.cell (p := ad.add j) (by rw [add_block]; exact hab)).trans HQ.out
        go_simp
        try with_reducible rfl
      try simp only [Act.put, List.getElem_toArray, List.getElem_cons_succ, List.getElem_cons_zero, List.setIfInBounds_toArray, List.set_cons_zero, List.set_cons_succ]
      refine wpAnyH_take (i := 8) (v := ?_) rfl (by kernel_rfl) (by kernel_rfl) (by kernel_rfl) (fun _ _ _ h => h) (Or.inl ⟨by rfl, ?_⟩) hS ?_
      rotate_left
      · intro wi hw
        go_simp
        try with_reducible rfl
      try simp only [Act.put, List.getElem_toArray, List.getElem_cons_succ, List.getElem_cons_zero, List.setIfInBounds_toArray, List.set_cons_zero, List.set_cons_succ]
      refine wpAnyH_take (i := 9) (v := ?_) rfl (by kernel_rfl) (by kernel_rfl) (by kernel_rfl) (fun _ _ _ h => h) (Or.inl ⟨by rfl, ?_⟩) hS ?_
      rotate_left
      · intro wi hw
        have em := HEM.out
        have ew : IntKind.i64.wrap (m : Int) = (m : Int) := IntWalk.i64_in _ (by omega)
        go_simp
        try with_reducible rfl
      try simp only [Act.put, List.getElem_toArray, List.getElem_cons_succ, List.getElem_cons_zero, List.setIfInBounds_toArray, List.set_cons_zero, List.set_cons_succ]
      refine wpAnyH_take (i := 10) (v := ?_) rfl (by kernel_rfl) (by kernel_rfl) (by kernel_rfl) (fun _ _ _ h => h) (Or.inl ⟨by rfl, ?_⟩) hS ?_
      rotate_left
      · intro wi hw
        have hcut := HCUT.out
        go_simp
        try with_reducible rfl
      try simp only [Act.put, List.getElem_toArray, List.getElem_cons_succ, List.getElem_cons_zero, List.setIfInBounds_toArray, List.set_cons_zero, List.set_cons_succ]
      refine wpAnyH_ready (rs := [11]) (by kernel_rfl) (by simp) ?_
      refine AllReadyH.cons rfl (fun K hK => ?_) AllReadyH.nil
      go_simp
      have hb7 := hS.out
      refine (HW1.out _ hb7).mono ?_
      rintro e W2 ⟨rfl, hb2⟩
      have HB2 := Lib.hid (hb7.trans (hb2.mono hb7.size))
      clear hb2 hb7
      go_wp2_with fail
      refine hK.out _ _ HB2 (fun hS => ?_)
      clear hK K
      try simp only [Act.put, List.getElem_toArray, List.getElem_cons_succ, List.getElem_cons_zero, List.setIfInBounds_toArray, List.set_cons_zero, List.set_cons_succ]
      refine wpAnyH_take (i := 12) (v := ?_) rfl (by kernel_rfl) (by kernel_rfl) (by kernel_rfl) (fun _ _ _ h => h) (Or.inl ⟨by rfl, ?_⟩) hS ?_
      rotate_left
      · intro wi hw
        go_simp
        try with_reducible rfl
      try simp only [Act.put, List.getElem_toArray, List.getElem_cons_succ, List.getElem_cons_zero, List.setIfInBounds_toArray, List.set_cons_zero, List.set_cons_succ]
      refine wpAnyH_done (by kernel_rfl) ?_ _
      have q0 := (HB2.out.cell (p := ad.add j) (by rw [add_block]; exact hab)).trans HQ.out
      have dl2 : ((Ps.length : Int) - 1) = (((Ps.length - 1 : Nat) : Nat) : Int) := by omega
      have hbw2 := Lib.hid (hb.out.trans (HB2.out.mono hb.out.size))
      clear hS dl
      obtain ⟨last, hlast⟩ : ∃ last, last = Ps.length - 1 := ⟨_, rfl⟩
      rw [← hlast] at dl2
      have hla : last ≤ 10000 := by omega
      have HHI : Hid (j < last → min hi (weigh p.ts) = minS ((Ps.map P.ts).dropLast.take (j + 1)) 1048576) := Lib.hid fun hj2 => by
        rw [take_next (show (Ps.map P.ts).dropLast[j]? = some p.ts by
          rw [List.dropLast_eq_take, List.getElem?_take_of_lt (by rw [List.length_map]; omega), List.getElem?_map, HPJ.out]; rfl), minS_snoc, ← hhigh.out]
      have HHJ : Hid (¬ j < last → hi = minS ((Ps.map P.ts).dropLast.take (j + 1)) 1048576) := Lib.hid fun hj2 => by
        rw [hhigh.out, List.take_of_length_le (by rw [List.length_dropLast, List.length_map]; omega), List.take_of_length_le (by rw [List.length_dropLast, List.length_map]; omega)]
      have HLA := Lib.hid hlast
      clear hlast
      have HLO : Hid (max lo (X + 1) = lowS ((Ps.map P.ts).take (j + 1)) 1) := HLOW
      have HQ2 := HQ
      clear HLOW HQ HEM
      generalize weigh p.ts = Y at *
      by_cases klo : lo < X + 1
      · have k1 : decide ((lo : Int) < (X : Int) + 1) = true := decide_eq_true (by omega)
        have k2 : decide (lo < X + 1) = true := decide_eq_true klo
        have HL2 : Hid (X + 1 = lowS ((Ps.map P.ts).take (j + 1)) 1) := Lib.hid (by rw [← HLO.out]; omega)
        clear klo HLO
        by_cases kj : j < last
        · have k3 : decide ((j : Int) < (last : Int)) = true := decide_eq_true (by omega)
          have k4 : decide (j < last) = true := decide_eq_true kj
          by_cases kh : Y < hi
          · have k5 : decide ((Y : Int) < (hi : Int)) = true := decide_eq_true (by omega)
            have k6 : decide (Y < hi) = true := decide_eq_true kh
            have HH2 : Hid (Y = minS ((Ps.map P.ts).dropLast.take (j + 1)) 1048576) := Lib.hid (by rw [← HHI.out kj]; omega)
            have hy : Y ≤ 1048576 := by omega
            clear kh kj
            go_wp2_with fail
            refine (HW2.out _ HB2.out).mono ?_
            rintro e W3 ⟨rfl, hb3⟩
            have HB3 := Lib.hid (HB2.out.trans (hb3.mono HB2.out.size))
            clear hb3
            have q0 := (HB3.out.cell (p := ad.add j) (by rw [add_block]; exact hab)).trans HQ2.out
            go_wp2_with fail
            refine (HW2.out _ HB3.out).mono ?_
            rintro e W4 ⟨rfl, hb4⟩
            have HB4 := Lib.hid (HB3.out.trans (hb4.mono HB3.out.size))
            clear hb4
            go_wp2_with fail
            go_roundw
            case rel => exact ⟨j + 1, X + 1, Y, by omega, by go_num, by go_num, rfl, by omega, hy, HL2, HH2, Lib.hid (hb.out.trans (HB4.out.mono hb.out.size))⟩
            case measure => simp [intOf]; omega
          · have k5 : decide ((Y : Int) < (hi : Int)) = false := decide_eq_false (by omega)
            have k6 : decide (Y < hi) = false := decide_eq_false kh
            have HH2 : Hid (hi = minS ((Ps.map P.ts).dropLast.take (j + 1)) 1048576) := Lib.hid (by rw [← HHI.out kj]; omega)
            have hy : hi ≤ 1048576 := by omega
            clear kh kj
            go_wp2_with fail
            refine (HW2.out _ HB2.out).mono ?_
            rintro e W3 ⟨rfl, hb3⟩
            have HB3 := Lib.hid (HB2.out.trans (hb3.mono HB2.out.size))
            clear hb3
            go_wp2_with fail
            go_roundw
            case rel => exact ⟨j + 1, X + 1, hi, by omega, by go_num, by go_num, rfl, by omega, hy, HL2, HH2, Lib.hid (hb.out.trans (HB3.out.mono hb.out.size))⟩
            case measure => simp [intOf]; omega
        · have k3 : decide ((j : Int) < (last : Int)) = false := decide_eq_false (by omega)
          have k4 : decide (j < last) = false := decide_eq_false kj
          have HH2 : Hid (hi = minS ((Ps.map P.ts).dropLast.take (j + 1)) 1048576) := Lib.hid (HHJ.out kj)
          clear kj
          go_wp2_with fail
          go_roundw
          case rel => exact ⟨j + 1, X + 1, hi, by omega, by go_num, by go_num, rfl, by omega, hhi, HL2, HH2, hbw2⟩
          case measure => simp [intOf]; omega
      · have k1 : decide ((lo : Int) < (X : Int) + 1) = false := decide_eq_false (by omega)
        have k2 : decide (lo < X + 1) = false := decide_eq_false klo
        have HL2 : Hid (lo = lowS ((Ps.map P.ts).take (j + 1)) 1) := Lib.hid (by rw [← HLO.out]; omega)
        clear klo HLO
        by_cases kj : j < last
        · have k3 : decide ((j : Int) < (last : Int)) = true := decide_eq_true (by omega)
          have k4 : decide (j < last) = true := decide_eq_true kj
          by_cases kh : Y < hi
          · have k5 : decide ((Y : Int) < (hi : Int)) = true := decide_eq_true (by omega)
            have k6 : decide (Y < hi) = true := decide_eq_true kh
            have HH2 : Hid (Y = minS ((Ps.map P.ts).dropLast.take (j + 1)) 1048576) := Lib.hid (by rw [← HHI.out kj]; omega)
            have hy : Y ≤ 1048576 := by omega
            clear kh kj
            go_wp2_with fail
            refine (HW2.out _ HB2.out).mono ?_
            rintro e W3 ⟨rfl, hb3⟩
            have HB3 := Lib.hid (HB2.out.trans (hb3.mono HB2.out.size))
            clear hb3
            have q0 := (HB3.out.cell (p := ad.add j) (by rw [add_block]; exact hab)).trans HQ2.out
            go_wp2_with fail
            refine (HW2.out _ HB3.out).mono ?_
            rintro e W4 ⟨rfl, hb4⟩
            have HB4 := Lib.hid (HB3.out.trans (hb4.mono HB3.out.size))
            clear hb4
            go_wp2_with fail
            go_roundw
            case rel => exact ⟨j + 1, lo, Y, by omega, by go_num, by go_num, rfl, by omega, hy, HL2, HH2, Lib.hid (hb.out.trans (HB4.out.mono hb.out.size))⟩
            case measure => simp [intOf]; omega
          · have k5 : decide ((Y : Int) < (hi : Int)) = false := decide_eq_false (by omega)
            have k6 : decide (Y < hi) = false := decide_eq_false kh
            have HH2 : Hid (hi = minS ((Ps.map P.ts).dropLast.take (j + 1)) 1048576) := Lib.hid (by rw [← HHI.out kj]; omega)
            have hy : hi ≤ 1048576 := by omega
            clear kh kj
            go_wp2_with fail
            refine (HW2.out _ HB2.out).mono ?_
            rintro e W3 ⟨rfl, hb3⟩
            have HB3 := Lib.hid (HB2.out.trans (hb3.mono HB2.out.size))
            clear hb3
            go_wp2_with fail
            go_roundw
            case rel => exact ⟨j + 1, lo, hi, by omega, by go_num, by go_num, rfl, by omega, hy, HL2, HH2, Lib.hid (hb.out.trans (HB3.out.mono hb.out.size))⟩
            case measure => simp [intOf]; omega
        · have k3 : decide ((j : Int) < (last : Int)) = false := decide_eq_false (by omega)
          have k4 : decide (j < last) = false := decide_eq_false kj
          have HH2 : Hid (hi = minS ((Ps.map P.ts).dropLast.take (j + 1)) 1048576) := Lib.hid (HHJ.out kj)
          clear kj
          go_wp2_with fail
          go_roundw
          case rel => exact ⟨j + 1, lo, hi, by omega, by go_num, by go_num, rfl, by omega, hhi, HL2, HH2, hbw2⟩
          case measure => simp [intOf]; omega
    · obtain rfl : j = Ps.length := by omega
      have HE : Hid (decide (lowS (Ps.map P.ts) 1 ≤ minS (Ps.map P.ts).dropLast 1048576) = decide (lo ≤ hi)) := Lib.hid (by
        rw [hlow.out, hhigh.out, List.take_of_length_le (by rw [List.length_map]; exact Nat.le_refl _), List.take_of_length_le (by rw [List.length_dropLast, List.length_map]; omega)])
      have el : decide ((lo : Int) ≤ (hi : Int)) = decide (lo ≤ hi) := by rw [Bool.eq_iff_iff]; simp
      go_wp2_with fail
      go_ret
      exact ⟨by rw [HE.out]; first | rfl | (rw [← el]; rfl), hb.out⟩
end Go.Proofs.YtobjiamdljjkjaaGreat.Tb

/- The document's tables: whether blocks, and a filter, are those of some numbers. -/
namespace Go.Proofs.YtobjiamdljjkjaaGreat.Tb
set_option linter.unusedVariables false
set_option linter.unusedSimpArgs false
open Go.RowKit Lift Ik Sk Vn Bk Bl Sq
/-- A verdict. -/
def Says (w : World) (p : Prop) (e : Ending) (w' : World) : Prop := ∃ r : Bool, e = .returned (.bool r) ∧ (r = true ↔ p) ∧ Below w.heap.size w w'
set_option maxRecDepth 100000 in
set_option maxHeartbeats 3200000 in
theorem filtered_any (A1 A2 : Option Addr) (c1 c2 : Nat) (Es : List E) (f : List Nat) (w : World) (h1 : Seqs w w.heap.size A1 c1 Es) (hn : Es.length ≤ 1000000) (h2 : Lies w w.heap.size A2 (f.map vb)) (hf : f.length ≤ c2) (hm : c2 ≤ maxLen) (f8 : ∀ x, x ∈ f → x < 256) :
    Calls Tryz.prog 43 #[.slice A1 Es.length c1, .slice A2 f.length c2] w (Says w (∃ bits, 1 ≤ bits ∧ bits ≤ 40 ∧ bloomB (Es.map E.bs) bits = f)) := by
  have H1 := Lib.hid h1
  have H2 := Lib.hid h2
  have F8 := Lib.hid f8
  clear h1 h2 f8
  go_enter Tryz.func43, Tryz.ntmps43
  go_wp2_with fail
  go_loopw [5] (fun i wr => ∃ j : Nat, 1 ≤ j ∧ j ≤ 41 ∧ i = .int .i64 (j : Int) ∧ Hid (Below w.heap.size w wr) ∧ Hid (∀ b, 1 ≤ b → b < j → bloomB (Es.map E.bs) b ≠ f)) (fun i _ => 50 - (intOf i).toNat)
  case atStart => exact ⟨1, by omega, by omega, rfl, Lib.hid (Below.refl _ _), Lib.hid fun b h1 h2 => by omega⟩
  case round =>
    obtain ⟨j, hj1, hj, rfl, hb, hno⟩ := hrel
    by_cases hj2 : j ≤ 40
    · have hse := str_eq (x := bloomB (Es.map E.bs) j) (y := f) (bloomB_byte _ _) F8.out
      have HSE := Lib.hid hse
      have hcl : clampB (j : Int) = j := by unfold clampB; omega
      have HBL : Hid (∀ W : World, Below wr.heap.size wr W → Calls Tryz.prog 30 #[.slice A1 Es.length c1, .int .i64 (j : Int)] W (Made W.heap.size W (bloomB (Es.map E.bs) j))) := Lib.hid fun W hW => by
        have h := rbloom_any A1 c1 W.heap.size Es (j : Int) W (((H1.out.below hb.out).up hb.out.size |>.below hW).up hW.size) (Nat.le_refl _) hn
        rwa [hcl] at h
      have dj : decide ((j : Int) ≤ 40) = true := decide_eq_true (by omega)
      clear hse hcl
      generalize hG : bloomB (Es.map E.bs) j = G at *
      have HG := Lib.hid hG
      clear hG
      go_upto_region 4 with fail
      refine wp_region_held_drew (S := fun w' => Hid (Below wr.heap.size wr w')) (by kernel_rfl) (Lib.hid (Below.refl _ _).drew) (fun hS => ?_)
      refine wpAnyH_take (i := 0) (v := ?_) rfl (by kernel_rfl) (by kernel_rfl) (by kernel_rfl) (fun _ _ _ h => h) (Or.inl ⟨by rfl, ?_⟩) hS ?_
      rotate_left
      · intro wi hw
        go_simp
        try with_reducible rfl
      try simp only [Act.put, List.getElem_toArray, List.getElem_cons_succ, List.getElem_cons_zero, List.setIfInBounds_toArray, List.set_cons_zero, List.set_cons_succ]
      refine wpAnyH_take (i := 1) (v := ?_) rfl (by kernel_rfl) (by kernel_rfl) (by kernel_rfl) (fun _ _ _ h => h) (Or.inl ⟨by rfl, ?_⟩) hS ?_
      rotate_left
      · intro wi hw
        go_simp
        try with_reducible rfl
      try simp only [Act.put, List.getElem_toArray, List.getElem_cons_succ, List.getElem_cons_zero, List.setIfInBounds_toArray, List.set_cons_zero, List.set_cons_succ]
      refine wpAnyH_take (i := 4) (v := ?_) rfl (by kernel_rfl) (by kernel_rfl) (by kernel_rfl) (fun _ _ _ h => h) (Or.inl ⟨by rfl, ?_⟩) hS ?_
      rotate_left
      · intro wi hw
        go_simp
        try with_reducible rfl
      try simp only [Act.put, List.getElem_toArray, List.getElem_cons_succ, List.getElem_cons_zero, List.setIfInBounds_toArray, List.set_cons_zero, List.set_cons_succ]
      refine wpAnyH_take (i := 5) (v := ?_) rfl (by kernel_rfl) (by kernel_rfl) (by kernel_rfl) (fun _ _ _ h => h) (Or.inl ⟨by rfl, ?_⟩) hS ?_
      rotate_left
      · intro wi hw
        have r1 := runs (c := c2) (H2.out.below (hb.out.trans (hw.out.mono hb.out.size)))
        go_simp
        try with_reducible rfl
      try simp only [Act.put, List.getElem_toArray, List.getElem_cons_succ, List.getElem_cons_zero, List.setIfInBounds_toArray, List.set_cons_zero, List.set_cons_succ]
      refine wpAnyH_ready (rs := [2]) (by kernel_rfl) (by simp) ?_
      refine AllReadyH.cons rfl (fun K hK => ?_) AllReadyH.nil
      go_simp
      have hb7 := hS.out
      refine (HBL.out _ hb7).mono ?_
      intro e W2 hmade
      obtain ⟨v8, rfl, -, ⟨A8, c8, hv8, m1, m2, m3⟩, hb8⟩ := made_byts hmade
      subst hv8
      have HB2 := Lib.hid (hb7.trans (hb8.mono hb7.size))
      have HR2 : Hid (∀ W : World, Below W2.heap.size W2 W → Sem.run Tryz.prog (convert 25 9 (.slice A8 G.length c8)) W = .ok (.string (str G)) W) := Lib.hid fun W hW => runs (c := c8) (m3.below hW)
      clear hmade hb8 m1 m2 m3 hb7
      go_wp2_with fail
      refine hK.out _ _ HB2 (fun _ => ?_)
      clear hK K hS
      refine wpAnyH_other (S' := fun w' => Hid (Below W2.heap.size W2 w')) (fun w hw => Lib.hid (HB2.out.trans (hw.out.mono HB2.out.size))) _ _ _ _ ?_
      have hS : Hid (Below W2.heap.size W2 W2) := Lib.hid (Below.refl _ _)
      try simp only [Act.put, List.getElem_toArray, List.getElem_cons_succ, List.getElem_cons_zero, List.setIfInBounds_toArray, List.set_cons_zero, List.set_cons_succ]
      refine wpAnyH_take (i := 3) (v := ?_) rfl (by kernel_rfl) (by kernel_rfl) (by kernel_rfl) (fun _ _ _ h => h) (Or.inl ⟨by rfl, ?_⟩) hS ?_
      rotate_left
      · intro wi hw
        have hr2 := HR2.out wi hw.out
        go_simp
        try with_reducible rfl
      try simp only [Act.put, List.getElem_toArray, List.getElem_cons_succ, List.getElem_cons_zero, List.setIfInBounds_toArray, List.set_cons_zero, List.set_cons_succ]
      refine wpAnyH_take (i := 6) (v := ?_) rfl (by kernel_rfl) (by kernel_rfl) (by kernel_rfl) (fun _ _ _ h => h) (Or.inl ⟨by rfl, ?_⟩) hS ?_
      rotate_left
      · intro wi hw
        have hse := HSE.out
        go_simp
        try with_reducible rfl
      try simp only [Act.put, List.getElem_toArray, List.getElem_cons_succ, List.getElem_cons_zero, List.setIfInBounds_toArray, List.set_cons_zero, List.set_cons_succ]
      refine wpAnyH_done (by kernel_rfl) ?_ _
      have HBW := Lib.hid (hb.out.trans (HB2.out.mono hb.out.size))
      clear hS
      by_cases heq : G = f
      · have d9 : decide (G = f) = true := decide_eq_true heq
        have HQ := Lib.hid heq
        rw [d9]
        clear heq d9
        go_wp2_with fail
        go_ret
        exact ⟨true, rfl, ⟨fun _ => ⟨j, hj1, hj2, HG.out.trans HQ.out⟩, fun _ => rfl⟩, HBW.out⟩
      · have d9 : decide (G = f) = false := decide_eq_false heq
        rw [d9]
        have HNO : Hid (∀ b, 1 ≤ b → b < j + 1 → bloomB (Es.map E.bs) b ≠ f) := Lib.hid fun b h1 h2 => by
          by_cases hi : b = j
          · rw [hi, HG.out]; exact heq
          · exact hno.out b h1 (by omega)
        clear heq d9
        go_wp2_with fail
        go_roundw
        case rel => exact ⟨j + 1, by omega, by omega, by go_num, HBW, HNO⟩
        case measure => simp [intOf]; omega
    · obtain rfl : j = 41 := by omega
      go_wp2_with fail
      go_ret
      exact ⟨false, rfl, ⟨fun h => (by cases h), fun ⟨b, h1, h2, h3⟩ => absurd h3 (hno.out b h1 (by omega))⟩, hb.out⟩
theorem data_snoc (every : Nat) (ps : List (List T)) (p : List T) : data every (ps ++ [p]) = data every ps ++ blk every p := by unfold data; rw [List.flatMap_append, List.flatMap_cons, List.flatMap_nil, List.append_nil]
theorem data_max (every : Nat) : ∀ Ps : List P, (∀ p, p ∈ Ps → Fine p) → (data every (Ps.map P.ts)).length ≤ 45000000 * Ps.length
  | [], _ => by simp [data]
  | p :: Ps, h => by
    have h1 := data_max every Ps fun q hq => h q (List.mem_cons_of_mem _ hq)
    have h2 := h p (List.mem_cons_self ..)
    have h3 := blk_le (every := every) (ts := p.ts) (fun t ht => by obtain ⟨d, hd, rfl⟩ := List.mem_map.1 ht; exact h2.ok d hd)
    have h4 : p.ts.length = p.L.length := List.length_map ..
    have h5 := h2.len
    rw [List.map_cons, data_cons, List.length_append, List.length_cons]
    omega
theorem data_byte (every : Nat) : ∀ Ps : List P, (∀ p, p ∈ Ps → ∀ d, d ∈ p.L → okT d.t = true ∧ d.k.ok ∧ ∀ c, c ∈ d.val → c < 256) → ∀ x, x ∈ data every (Ps.map P.ts) → x < 256
  | [], _, x, hx => by simp [data] at hx
  | p :: Ps, h, x, hx => by
    rw [List.map_cons, data_cons] at hx
    rcases List.mem_append.1 hx with h1 | h1
    · exact blk_byte (h p (List.mem_cons_self ..)) x h1
    · exact data_byte every Ps (fun q hq => h q (List.mem_cons_of_mem _ hq)) x h1
set_option maxRecDepth 100000 in
set_option maxHeartbeats 3200000 in
theorem alike_any (A1 A2 : Option Addr) (c1 c2 : Nat) (Ps : List P) (bs : List Nat) (w : World) (h1 : Pts w A1 c1 Ps) (hf : ∀ p, p ∈ Ps → Fine p) (hn : Ps.length ≤ 10000) (h2 : Lies w w.heap.size A2 (bs.map vb)) (hc2 : bs.length ≤ c2) (hm2 : c2 ≤ maxLen) (b8 : ∀ x, x ∈ bs → x < 256) :
    Calls Tryz.prog 42 #[.slice A1 Ps.length c1, .slice A2 bs.length c2] w (Says w (∃ every, 1 ≤ every ∧ every ≤ 100 ∧ data every (Ps.map P.ts) <+: bs)) := by
  have H1 := Lib.hid h1
  have HF := Lib.hid hf
  have H2 := Lib.hid h2
  have B8 := Lib.hid b8
  have HM2 := Lib.hid hm2
  have hc1 := h1.len
  have hm1 := h1.cap
  unfold maxLen at hm1 hm2
  clear h1 h2 b8 hf
  go_enter Tryz.func42, Tryz.ntmps42
  go_wp2_with fail
  go_loopw [5] (fun i wr => ∃ j : Nat, 1 ≤ j ∧ j ≤ 101 ∧ i = .int .i64 (j : Int) ∧ Hid (Below w.heap.size w wr) ∧ Hid (∀ b, 1 ≤ b → b < j → ¬ data b (Ps.map P.ts) <+: bs)) (fun i _ => 110 - (intOf i).toNat)
  case atStart => exact ⟨1, by omega, by omega, rfl, Lib.hid (Below.refl _ _), Lib.hid fun b h1 h2 => by omega⟩
  case round =>
    obtain ⟨j, hj1, hj, rfl, hb, hno⟩ := hrel
    by_cases hj2 : j ≤ 100
    · have dj : decide ((j : Int) ≤ 100) = true := decide_eq_true (by omega)
      have dj' : decide (j ≤ 100) = true := decide_eq_true hj2
      obtain ⟨W0, hW0⟩ : ∃ W0, W0 = wr := ⟨_, rfl⟩
      rw [← hW0] at hb
      go_wp2_with fail
      go_loopw [6, 7] (fun v i wx => ∃ n : Nat, n ≤ Ps.length ∧ i = .int .i64 (n : Int) ∧ Hid (wx.ownsRow w.heap.size 5 1 v (data j ((Ps.take n).map P.ts)).length ((data j ((Ps.take n).map P.ts)).map vb)) ∧ Hid (Below w.heap.size w wx)) (fun _ i _ => Ps.length + 1 - (intOf i).toNat)
      case atStart => exact ⟨0, Nat.zero_le _, rfl, Lib.hid (World.ownsRow_nil _ _ _ _), by rw [← hW0]; exact hb⟩
      case round =>
        obtain ⟨n, hn2, rfl, hown, hbx⟩ := hrel
        by_cases hlt : n < Ps.length
        · obtain ⟨p, hp⟩ : ∃ p, Ps[n]? = some p := ⟨_, List.getElem?_eq_getElem hlt⟩
          obtain ⟨ad, hA, hab, q0⟩ := (H1.out.next hbx.out).place hp
          have hmem := List.mem_of_getElem? hp
          have hen := (H1.out.next hbx.out).ok p hmem
          have hfp := HF.out p hmem
          subst hA
          have HBD := Lib.hid (build_any p.a p.c p.L j wr hen hfp.ok hfp.len ⟨hj1, hj2⟩)
          have hmx := data_max j (Ps.take n) (fun p hp => HF.out p (List.mem_of_mem_take hp))
          have h3 := blk_le (every := j) (ts := p.ts) (fun t ht => by obtain ⟨d, hd, rfl⟩ := List.mem_map.1 ht; exact hfp.ok d hd)
          have h4 : p.ts.length = p.L.length := List.length_map ..
          have h5 := hfp.len
          rw [List.length_take] at hmx
          have HNX : Hid (data j ((Ps.take n).map P.ts) ++ blk j p.ts = data j ((Ps.take (n + 1)).map P.ts)) := Lib.hid (by rw [take_next hp, List.map_append]; exact (data_snoc _ _ _).symm)
          have HS3 : Hid ((data j ((Ps.take n).map P.ts)).length + (blk j p.ts).length ≤ 140737488355000) := Lib.hid (by omega)
          have hown0 := hown.out
          obtain ⟨A6, c6, hv6, -, -, -⟩ := own_parts hown0
          subst hv6
          have HO0 := Lib.hid hown0
          clear hmx h3 h4 h5 hp hmem hen hfp hown0 hown
          generalize data j ((Ps.take n).map P.ts) = X at *
          generalize blk j p.ts = Y at *
          go_wp2_with fail
          refine HBD.out.mono ?_
          intro e W2 hmade
          obtain ⟨v8, rfl, -, ⟨A8, c8, hv8, m1, m2, m3⟩, hb8⟩ := made_byts hmade
          subst hv8
          obtain ⟨v', w', hr, ho, hon⟩ := append_bytes (c := c8) (own_later HO0.out hb8) m3 HS3.out (Nat.le_trans hbx.out.size hb8.size)
          have HR := Lib.hid hr
          have HBY := Lib.hid ((hbx.out.trans (hb8.mono hbx.out.size)).trans (hon.below (own_later HO0.out hb8) (Nat.le_trans hbx.out.size hb8.size)))
          rw [HNX.out] at ho
          have HO := Lib.hid ho
          clear hr ho hon hmade m1 m2 m3 hb8 HBD
          go_wp2_with (at_builtin; refine wpList_append_run rfl _ _ 25 rfl rfl rfl HR.out ?_)
          go_roundw
          case rel => exact ⟨n + 1, by omega, by go_num, HO, HBY⟩
          case measure => simp [intOf]; omega
        · obtain rfl : n = Ps.length := by omega
          have hall : Ps.take Ps.length = Ps := List.take_of_length_le (Nat.le_refl _)
          rw [hall] at hown
          obtain ⟨A6, c6, hv6, k1, k2, k3⟩ := own_parts hown.out
          subst hv6
          have hse := fun (h : (data j (Ps.map P.ts)).length ≤ bs.length) => str_eq (x := bs.take (data j (Ps.map P.ts)).length) (y := data j (Ps.map P.ts)) (fun x hx => B8.out x (List.mem_of_mem_take hx)) (data_byte j Ps fun p hp d hd => ⟨(HF.out p hp).ok d hd, ((H1.out.ok p hp).ok d hd).ok, ((H1.out.ok p hp).ok d hd).v8⟩)
          have HNO : Hid (¬ data j (Ps.map P.ts) <+: bs → ∀ b, 1 ≤ b → b < j + 1 → ¬ data b (Ps.map P.ts) <+: bs) := Lib.hid fun h b h1 h2 => by
            by_cases hi : b = j
            · rw [hi]; exact h
            · exact hno.out b h1 (by omega)
          have HK3 := Lib.hid k3
          have HSE := Lib.hid hse
          have HPF : Hid (data j (Ps.map P.ts) <+: bs ↔ (data j (Ps.map P.ts)).length ≤ bs.length ∧ bs.take (data j (Ps.map P.ts)).length = data j (Ps.map P.ts)) := Lib.hid ⟨fun ⟨R, hR⟩ => by rw [← hR]; exact ⟨by rw [List.length_append]; omega, by rw [List.take_left]⟩, fun ⟨_, h⟩ => h ▸ List.take_prefix _ _⟩
          have HYE : Hid (data j (Ps.map P.ts) <+: bs → ∃ every, 1 ≤ every ∧ every ≤ 100 ∧ data every (Ps.map P.ts) <+: bs) := Lib.hid fun h => ⟨j, hj1, hj2, h⟩
          clear hse k3 hall hown
          have hmx := data_max j Ps HF.out
          generalize data j (Ps.map P.ts) = X at *
          have k2' := k2
          unfold maxLen at k2'
          have r2 : ∀ n, Sem.run Tryz.prog (convert 25 9 (.slice A6 X.length c6)) (wr.drewN n) = .ok (.string (str X)) (wr.drewN n) := fun n => runs (HK3.out.below (Joins.below_draws _ _ _))
          by_cases hle : X.length ≤ bs.length
          · have d1 : decide ((X.length : Int) ≤ (bs.length : Int)) = true := decide_eq_true (by omega)
            have d2 : decide (X.length ≤ bs.length) = true := decide_eq_true hle
            have hcut := cut_to A2 bs.length c2 X.length (by omega) hc2 HM2.out
            have htl : (bs.take X.length).length = X.length := by rw [List.length_take]; omega
            have r1 : ∀ n, Sem.run Tryz.prog (convert 25 9 (.slice A2 X.length c2)) (wr.drewN n) = .ok (.string (str (bs.take X.length))) (wr.drewN n) := fun n => by
              have := runs (c := c2) (((H2.out.below hbx.out).front (ys := (bs.take X.length).map vb) (by rw [List.map_take]; exact List.take_prefix _ _)).below (Joins.below_draws w.heap.size wr n))
              rwa [htl] at this
            have hse2 := HSE.out hle
            by_cases heq : bs.take X.length = X
            · have HYES := Lib.hid (HYE.out (HPF.out.2 ⟨hle, heq⟩))
              rw [decide_eq_true heq] at hse2
              clear heq htl hmx
              go_wp2_with fail
              go_quiet (fail)
              go_wp2_with fail
              go_ret
              exact ⟨true, rfl, ⟨fun _ => HYES.out, fun _ => rfl⟩, hbx.out.trans (Joins.below_draws _ _ _)⟩
            · rw [decide_eq_false heq] at hse2
              have HN2 := Lib.hid (HNO.out fun h => heq (HPF.out.1 h).2)
              clear heq htl hmx
              go_wp2_with fail
              go_quiet (fail)
              go_wp2_with fail
              go_roundw
              case rel => exact ⟨j + 1, by omega, by omega, by go_num, Lib.hid (hbx.out.trans (Joins.below_draws _ _ _)), HN2⟩
              case measure => simp [intOf]; omega
          · have d1 : decide ((X.length : Int) ≤ (bs.length : Int)) = false := decide_eq_false (by omega)
            have d2 : decide (X.length ≤ bs.length) = false := decide_eq_false hle
            have HN2 := Lib.hid (HNO.out fun h => hle (HPF.out.1 h).1)
            clear hmx
            go_wp2_with fail
            go_quiet (fail)
            go_wp2_with fail
            go_roundw
            case rel => exact ⟨j + 1, by omega, by omega, by go_num, Lib.hid (hbx.out.trans (Joins.below_draws _ _ _)), HN2⟩
            case measure => simp [intOf]; omega
    · obtain rfl : j = 101 := by omega
      go_wp2_with fail
      go_ret
      exact ⟨false, rfl, ⟨fun h => (by cases h), fun ⟨b, h1, h2, h3⟩ => absurd h3 (hno.out b h1 (by omega))⟩, hb.out⟩
end Go.Proofs.YtobjiamdljjkjaaGreat.Tb

/- Bytes and entries of the call's own, beside each other, while both grow. -/
namespace Go.Proofs.YtobjiamdljjkjaaGreat.Tb
set_option linter.unusedVariables false
set_option linter.unusedSimpArgs false
open Go.RowKit Lift Ik Sk Vn Bk Bl Sq
/-- A block that no append to b can touch: old, or bytes apart from b's own. -/
def Rb (B : Nat) (w : World) (b : Value) (k : Nat) : Prop := k < w.heap.size ∧ ¬ b.ownBlock = some k ∧ (k < B ∨ ∃ cs fr, w.heap[k]? = some (.cells cs 5 fr))
/-- Bytes b (X) and entries v (L), both of the call's own. -/
structure Tw (B : Nat) (w : World) (v b : Value) (L : List D) (X : List Nat) : Prop where
  iown : w.ownsRow B 41 4 v L.length (cellsL L)
  bown : w.ownsRow B 5 1 b X.length (X.map vb)
  ok : ∀ d, d ∈ L → d.Ok w (Rb B w b)
  base : B ≤ w.heap.size
section
variable {B : Nat} {w w' : World} {v b : Value} {L : List D} {X : List Nat}
theorem Tw.start (w : World) : Tw w.heap.size w (.slice none 0 0) (.slice none 0 0) [] [] := ⟨World.ownsRow_nil _ _ _ _, World.ownsRow_nil _ _ _ _, fun d hd => (by cases hd), Nat.le_refl _⟩
theorem Rb.below (hb : Below w.heap.size w w') (k : Nat) (h : Rb B w b k) : Rb B w' b k :=
  ⟨Nat.lt_of_lt_of_le h.1 hb.size, h.2.1, h.2.2.imp id fun ⟨cs, fr, h3⟩ => ⟨cs, fr, (hb.block k h.1).trans h3⟩⟩
theorem Tw.below (h : Tw B w v b L X) (hb : Below w.heap.size w w') : Tw B w' v b L X :=
  ⟨own_later h.iown hb, own_later h.bown hb, fun d hd => (h.ok d hd).later (fun k hk => hb.block k hk.1) (Rb.below hb), Nat.le_trans h.base hb.size⟩
theorem own_type {e e' : TypeId} {v : Value} {base n size k : Nat} {xs : List Value} (h : w.ownsRow base e size v n xs) (hk : v.ownBlock = some k) {cs : Array Value} {fr : Nat × Nat} (h2 : w.heap[k]? = some (.cells cs e' fr)) : e = e' := by
  obtain ⟨cs2, fr2, h3⟩ := own_blk h hk
  rw [h2] at h3
  injection h3 with h3
  injection h3 with _ h3
  exact h3.symm
/-- One entry more. -/
theorem Tw.entry (h : Tw B w v b L X) {d : D} (hd : d.Ok w (Rb B w b)) (hL : L.length ≤ 100000000) :
    ∃ v' w', Sem.run Tryz.prog (Builtin.append_ #[22, 22] 22 #[v, .slice (some ⟨w.heap.size, 0, none⟩) 1 1]) (w.alloc (ebox d)) = .ok v' w' ∧ Tw B w' v' b (L ++ [d]) X ∧ Below B w w' ∧
      ∀ (base n : Nat) (u : Value) (xs : List Value), w.ownsRow base 5 1 u n xs → w'.ownsRow base 5 1 u n xs := by
  have hb := below_box w d
  have hl : Lies (w.alloc (ebox d)) (w.heap.size + 1) (some ⟨w.heap.size, 0, none⟩) d.cells := lies_block (cs := d.cells.toArray) (heap_alloc_new w _) (Nat.lt_succ_self _)
  have h1 := h.below hb
  obtain ⟨v', w', hr, ho, hon⟩ := run_append_onto (P := Tryz.prog) (m := 1) (c := 1) 22 22 41 (.agg #[.slice none 0 0, .int .u64 0, .int .i64 0, .slice none 0 0]) 4 64 Tryz.underlying22 (by kernel_rfl) rfl (by decide)
    (fun u hu => by simp [D.cells] at hu; rcases hu with rfl | rfl | rfl | rfl <;> rfl) h1.iown hl rfl (by unfold maxLen; omega) (by omega) h1.base
  have hbel : Below B w w' := (hb.mono h.base).trans (hon.below h1.iown h1.base)
  have hbytes : ∀ (base n : Nat) (u : Value) (xs : List Value), w.ownsRow base 5 1 u n xs → w'.ownsRow base 5 1 u n xs := fun base n u xs hu => by
    have hu1 := own_later hu hb
    exact own_kept hu1 hon.keep fun k hk hv => by
      obtain ⟨cs, fr, h3⟩ := own_blk hu1 hk
      exact absurd (own_type h1.iown hv h3) (by decide)
  have hk : ∀ k, Rb B w b k → w'.heap[k]? = w.heap[k]? := fun k hk => by
    have hk1 := Rb.below hb k hk
    rw [hon.keep.block k hk1.1 (fun hv => ?_), hb.block k hk.1]
    rcases hk1.2.2 with h2 | ⟨cs, fr, h3⟩
    · exact absurd (h1.iown.lt k hv).1 (Nat.not_le_of_lt h2)
    · exact absurd (own_type h1.iown hv h3) (by decide)
  have hf : ∀ k, Rb B w b k → Rb B w' b k := fun k hk2 => ⟨Nat.lt_of_lt_of_le hk2.1 hbel.size, hk2.2.1, hk2.2.2.imp id fun ⟨cs, fr, h3⟩ => ⟨cs, fr, (hk k hk2).trans h3⟩⟩
  refine ⟨v', w', hr, ⟨by rw [List.length_append, cellsL_append]; simpa [cellsL] using ho, hbytes _ _ _ _ h.bown, fun e he => ?_, Nat.le_trans h.base hbel.size⟩, hbel, hbytes⟩
  rcases List.mem_append.1 he with he | he
  · exact (h.ok e he).later hk hf
  · simp at he
    subst he
    exact hd.later hk hf
/-- Bytes more. -/
theorem Tw.bytes (h : Tw B w v b L X) {A : Option Addr} {B2 c : Nat} {ts : List Nat} (hl : Lies w B2 A (ts.map vb)) (hn : X.length + ts.length ≤ 140737488355000) :
    ∃ b' w', Sem.run Tryz.prog (Builtin.append_ #[25, 25] 25 #[b, .slice A ts.length c]) w = .ok b' w' ∧ Tw B w' v b' L (X ++ ts) ∧ Below B w w' ∧ Onto b b' w w' := by
  obtain ⟨b', w', hr, ho, hon⟩ := append_bytes (c := c) h.bown hl hn h.base
  have hbel := hon.below h.bown h.base
  have hk : ∀ k, Rb B w b k → w'.heap[k]? = w.heap[k]? := fun k hk => hon.keep.block k hk.1 hk.2.1
  refine ⟨b', w', hr, ⟨own_kept h.iown hon.keep fun k hk1 hv => ?_, ho, fun d hd => (h.ok d hd).later hk fun k hk2 => ⟨Nat.lt_of_lt_of_le hk2.1 hbel.size, fun hv => ?_, hk2.2.2.imp id fun ⟨cs, fr, h3⟩ => ⟨cs, fr, (hk k hk2).trans h3⟩⟩, Nat.le_trans h.base hbel.size⟩, hbel, hon⟩
  · obtain ⟨cs, fr, h3⟩ := own_blk h.iown hk1
    exact absurd (own_type h.bown hv h3) (by decide)
  · rcases hon.place k hv with h4 | h4
    · exact hk2.2.1 h4
    · exact absurd hk2.1 (Nat.not_lt_of_le h4)
/-- What a later call has made lies outside of b's block. -/
theorem off_new {A : Option Addr} {base base2 n n2 c : Nat} {Y : List Nat} (h : w.ownsRow base 5 1 b n (X.map vb)) (hlt : ∀ k, b.ownBlock = some k → k < base2) (h2 : w.ownsRow base2 5 1 (.slice A n2 c) n2 (Y.map vb)) : Off b w A (Y.map vb) := by
  refine LiesP.later (LiesP.of_own h2) (fun _ _ => rfl) fun k hk => ⟨hk.2.1, fun hv => ?_⟩
  have := hlt k hv
  exact absurd hk.1 (Nat.not_le_of_lt this)
end
theorem key_load {w : World} {d : D} {p : Addr} (q0 : w.cell? p = some (.slice d.ka d.k.key.length d.kc)) (q1 : w.cell? ⟨p.block, p.off + 1, none⟩ = some (.int .u64 (d.k.seq : Int))) (q2 : w.cell? ⟨p.block, p.off + 2, none⟩ = some (.int .i64 d.k.kind)) :
    Sem.run Tryz.prog (loadVar 39 p) w = .ok (key d.ka d.kc d.k) w := KD.load (d := ⟨d.ka, d.kc, d.k⟩) q0 q1 q2
theorem cut_ents_mid (A : Option Addr) (n c p k : Nat) (h : p + k ≤ n) (hc : n ≤ c) (hm : c ≤ maxLen) :
    ∃ A' : Option Addr, (0 < k → A' = A.map (·.add (p * 4))) ∧ ∀ (W : World) (q : Int), q = (p : Int) + (k : Int) → Sem.run Tryz.prog (Instr.slice 22 (.slice A n c) (some (.int .i64 (p : Int))) (some (.int .i64 q)) none) W = .ok (.slice A' k (c - p)) W := by
  unfold maxLen at hm
  by_cases hcp : c = p
  · refine ⟨A, fun h0 => by omega, fun W q hq => ?_⟩
    obtain rfl : k = 0 := by omega
    obtain rfl : n = p := by omega
    subst hcp hq
    go_simp
  · refine ⟨A.map (·.add (p * 4)), fun _ => rfl, fun W q hq => ?_⟩
    subst hq
    go_simp
    rw [if_pos ⟨by omega, by omega⟩, if_pos (by omega), show ((p : Int) + (k : Int)).toNat - p = k by omega]
theorem ents_mid {w : World} {R : Nat → Prop} {A A' : Option Addr} {c p k : Nat} {L : List D} (h : Ents w R A c L) (hp : p + k ≤ L.length) (hA : 0 < k → A' = A.map (·.add (p * 4))) : Ents w R A' (c - p) ((L.drop p).take k) := by
  have hlen : ((L.drop p).take k).length = k := by rw [List.length_take, List.length_drop]; omega
  have h1 := h.len
  have h2 := h.cap
  refine ⟨?_, by rw [hlen]; omega, by omega, fun d hd => h.ok d (List.mem_of_mem_drop (List.mem_of_mem_take hd))⟩
  by_cases h0 : k = 0
  · left
    have : (L.drop p).take k = [] := by rw [h0]; rfl
    rw [this]; rfl
  · rcases h.lies with h3 | ⟨ad, ha, hb, hc⟩
    · have := cellsL_length L
      rw [h3] at this
      simp at this
      omega
    · rw [hA (by omega), ha]
      refine .inr ⟨ad.add (p * 4), rfl, by rw [add_block]; exact hb, fun j u hu => ?_⟩
      rw [Lift.add_add]
      refine hc _ _ ?_
      have e : cellsL L = cellsL (L.take p) ++ (cellsL ((L.drop p).take k) ++ cellsL ((L.drop p).drop k)) := by rw [← cellsL_append, ← cellsL_append, List.take_append_drop, List.take_append_drop]
      have hl : (cellsL (L.take p)).length = p * 4 := by rw [cellsL_length, List.length_take]; congr 1; omega
      rw [e, List.getElem?_append_right (by omega), hl, Nat.add_sub_cancel_left, List.getElem?_append_left (List.getElem?_eq_some_iff.1 hu).1]
      exact hu
end Go.Proofs.YtobjiamdljjkjaaGreat.Tb

/- The document's tables: Table. -/
namespace Go.Proofs.YtobjiamdljjkjaaGreat.Tb
set_option linter.unusedVariables false
set_option linter.unusedSimpArgs false
open Go.RowKit Lift Ik Sk Vn Bk Bl Sq
def clampS (n : Int) : Nat := (min (max n 1) 1048576).toNat
theorem clampS_in (n : Int) : 1 ≤ clampS n ∧ clampS n ≤ 1048576 := by unfold clampS; omega
def tabB (size every bits : Int) (ts : List T) : List Nat := if mayT ts = 0 then tab (clampS size) (clamp every) (clampB bits) ts else []
theorem tabB_no {size every bits : Int} {ts : List T} (h : mayT ts ≠ 0) : tabB size every bits ts = [] := if_neg h
theorem tabB_ok {size every bits : Int} {ts : List T} (h : mayT ts = 0) : tabB size every bits ts = tab (clampS size) (clamp every) (clampB bits) ts := if_pos h
/-- What Build answers. -/
def Tabd (w : World) (size every bits : Int) (ts : List T) (e : Ending) (w' : World) : Prop :=
  ∃ v, e = .returned (.tuple #[v, .int .i64 (mayT ts : Nat)]) ∧ w'.ownsRow w.heap.size 5 1 v (tabB size every bits ts).length ((tabB size every bits ts).map vb) ∧ Below w.heap.size w w'
theorem Tabd.no {w w' : World} {size every bits : Int} {ts : List T} {n : Nat} (h : mayT ts = n) (hn : n ≠ 0) (hb : Below w.heap.size w w') : Tabd w size every bits ts (.returned (.tuple #[.slice none 0 0, .int .i64 (n : Int)])) w' :=
  ⟨_, by rw [h], by rw [tabB_no (by omega)]; exact World.ownsRow_nil _ _ _ _, hb⟩
theorem idx_snoc (every : Nat) : ∀ (ps : List (List T)) (p : List T) (a : Nat), idx every a (ps ++ [p]) = idx every a ps ++ [ptr (lastT p) (a + (data every ps).length) (blk every p).length]
  | [], p, a => by simp [idx, data]
  | q :: ps, p, a => by
    have h := idx_snoc every ps p (a + (blk every q).length)
    show ptr (lastT q) a (blk every q).length :: idx every (a + (blk every q).length) (ps ++ [p]) = _
    rw [h, data_cons, List.length_append, Nat.add_assoc]
    rfl
theorem lastT_snoc (a : List T) (t : T) : lastT (a ++ [t]) = t := by unfold lastT; rw [List.getLastD_eq_getLast?, List.getLast?_concat]; rfl
theorem cut_more {ts : List T} {f j : Nat} {t : T} (hf : f ≤ j) (ht : ts[j]? = some t) : (ts.drop f).take (j + 1 - f) = (ts.drop f).take (j - f) ++ [t] := by
  rw [show j + 1 - f = (j - f) + 1 from by omega]
  exact take_next (by rw [List.getElem?_drop, show f + (j - f) = j from by omega]; exact ht)
theorem drop_at {ts : List T} {j : Nat} {t : T} (ht : ts[j]? = some t) : ts.drop j = t :: ts.drop (j + 1) := by
  obtain ⟨h, e⟩ := List.getElem?_eq_some_iff.1 ht
  rw [List.drop_eq_getElem_cons h, e]
set_option maxRecDepth 100000 in
set_option maxHeartbeats 6400000 in
theorem rtable_any (A : Option Addr) (c : Nat) (L : List D) (size every bits : Int) (w : World) (h1 : Ents w (· < w.heap.size) A c L) :
    Calls Tryz.prog 10 #[.slice A L.length c, .int .i64 size, .int .i64 every, .int .i64 bits] w (Tabd w size every bits (L.map D.t)) := by
  have H1 := Lib.hid h1
  have HMAY := Lib.hid (may_any A c L w h1)
  have hml := may_le (L.map D.t)
  have hc1 := h1.len
  have hm1 := h1.cap
  by_cases hmay : may (L.map D.t) = 0
  · have HM0 := Lib.hid hmay
    obtain ⟨hok, -, hn⟩ := may_zero hmay
    rw [List.length_map] at hn
    have HOK : Hid (∀ d, d ∈ L → okT d.t = true) := Lib.hid fun d hd => hok _ (List.mem_map.2 ⟨d, hd, rfl⟩)
    rw [hmay] at HMAY
    clear hok hmay hml
    unfold maxLen at hm1
    have HTW := Lib.hid (fun (W : World) (hb : Below w.heap.size w W) => twins_any A c L W (h1.next hb) hn)
    clear h1
    by_cases htw : twins (L.map D.t) = true
    · have HE : Hid (mayT (L.map D.t) = 10) := Lib.hid (by unfold mayT; rw [if_neg (by rw [HM0.out]; decide), if_pos htw])
      rw [htw] at HTW
      clear htw
      go_enter Tryz.func10, Tryz.ntmps10
      go_wp2_with fail
      refine HMAY.out.mono ?_
      rintro e W1 ⟨rfl, hb1⟩
      have HB1 := Lib.hid hb1
      clear hb1
      go_wp2_with fail
      refine (HTW.out W1 HB1.out).mono ?_
      rintro e W2 ⟨rfl, hb2⟩
      have HB2 := Lib.hid (HB1.out.trans (hb2.mono HB1.out.size))
      clear hb2
      go_wp2_with fail
      go_returns
      exact Tabd.no HE.out (by decide) HB2.out
    · have htf : twins (L.map D.t) = false := by simpa using htw
      rw [htf] at HTW
      have HTF := Lib.hid htf
      clear htw htf
      by_cases h0 : L.length = 0
      · have HE : Hid (mayT (L.map D.t) = 1) := Lib.hid (by unfold mayT; rw [if_neg (by rw [HM0.out]; decide), if_neg (by rw [HTF.out]; decide), if_pos (by rw [List.length_eq_zero_iff.1 h0]; rfl)])
        have d0 : ((L.length : Int) == 0) = true := by rw [beq_iff_eq]; omega
        clear h0
        go_enter Tryz.func10, Tryz.ntmps10
        go_wp2_with fail
        refine HMAY.out.mono ?_
        rintro e W1 ⟨rfl, hb1⟩
        have HB1 := Lib.hid hb1
        clear hb1
        go_wp2_with fail
        refine (HTW.out W1 HB1.out).mono ?_
        rintro e W2 ⟨rfl, hb2⟩
        have HB2 := Lib.hid (HB1.out.trans (hb2.mono HB1.out.size))
        clear hb2
        go_wp2_with fail
        go_returns
        exact Tabd.no HE.out (by decide) HB2.out
      · have d0 : ((L.length : Int) == 0) = false := by rw [beq_eq_false_iff_ne]; omega
        have HE : Hid (mayT (L.map D.t) = 0) := Lib.hid (by unfold mayT; rw [if_neg (by rw [HM0.out]; decide), if_neg (by rw [HTF.out]; decide), if_neg (fun h => h0 (by have := congrArg List.length h; rw [List.length_map] at this; exact this))])
        have HNE := Lib.hid h0
        clear h0
        obtain ⟨sz, hsz⟩ : ∃ sz, sz = clampS size := ⟨_, rfl⟩
        obtain ⟨ev, hev⟩ : ∃ ev, ev = clamp every := ⟨_, rfl⟩
        obtain ⟨s1, s2⟩ := clampS_in size
        obtain ⟨e1, e2⟩ := clamp_in every
        rw [← hsz] at s1 s2
        rw [← hev] at e1 e2
        have HZ1 := Lib.hid (fun (W : World) => Bl.betw_any size 1048576 sz (by decide) (by rw [hsz]; unfold clampS; omega) W)
        have HZ2 := Lib.hid (fun (W : World) => Bl.betw_any every 100 ev (by decide) (by rw [hev]; unfold clamp; omega) W)
        have HTB : Hid (tabB size every bits (L.map D.t) = tabP ev (clampB bits) (parts sz [] (L.map D.t))) := Lib.hid (by rw [tabB_ok HE.out, hsz, hev]; rfl)
        clear hsz hev
        go_enter Tryz.func10, Tryz.ntmps10
        go_wp2_with fail
        refine HMAY.out.mono ?_
        rintro e W1 ⟨rfl, hb1⟩
        have HB1 := Lib.hid hb1
        clear hb1
        go_wp2_with fail
        refine (HTW.out W1 HB1.out).mono ?_
        rintro e W2 ⟨rfl, hb2⟩
        have HB2 := Lib.hid (HB1.out.trans (hb2.mono HB1.out.size))
        clear hb2 HB1
        go_wp2_with fail
        refine (HZ1.out W2).mono ?_
        rintro e W3 ⟨rfl, hw3⟩
        subst hw3
        go_wp2_with fail
        refine (HZ2.out W2).mono ?_
        rintro e W3 ⟨rfl, hw3⟩
        subst hw3
        clear HZ1 HZ2 HMAY HTW
        go_wp2_with fail
        have HT0 : Hid (Tw w.heap.size W2 (.slice none 0 0) (.slice none 0 0) [] []) := Lib.hid ⟨World.ownsRow_nil _ _ _ _, World.ownsRow_nil _ _ _ _, fun d hd => (by cases hd), HB2.out.size⟩
        go_loopw [11, 12, 13, 14, 15] (fun vb' vi f n i wr => ∃ (j fr nn : Nat) (ps : List (List T)) (I : List D), j ≤ L.length + 1 ∧ i = .int .i64 (j : Int) ∧ f = .int .i64 (fr : Int) ∧ n = .int .i64 (nn : Int) ∧ fr ≤ j ∧ fr ≤ L.length ∧ nn ≤ 6000 * j ∧ I.length ≤ j ∧
          Hid (Tw w.heap.size wr vi vb' I (data ev ps)) ∧ Hid (I.map D.t = idx ev 0 ps) ∧ Hid (Below w.heap.size w wr) ∧
          Hid (j ≤ L.length → parts sz [] (L.map D.t) = ps ++ parts sz (((L.map D.t).drop fr).take (j - fr)) ((L.map D.t).drop j)) ∧ Hid (j = L.length + 1 → ps = parts sz [] (L.map D.t)) ∧ Hid (j ≤ L.length → nn = weigh (((L.map D.t).drop fr).take (j - fr))))
          (fun _ _ _ _ i _ => L.length + 2 - (intOf i).toNat)
        case atStart => exact ⟨0, 0, 0, [], [], Nat.zero_le _, rfl, rfl, rfl, Nat.le_refl _, Nat.zero_le _, Nat.zero_le _, Nat.le_refl _, HT0, Lib.hid rfl, HB2, Lib.hid (fun _ => by simp), Lib.hid (fun h => by omega), Lib.hid (fun _ => by simp [weigh])⟩
        case round =>
          obtain ⟨j, fr, nn, ps, I, hj, rfl, rfl, rfl, hfj, hfl, hnn, hIl, htw, hidx, hb, hpp, hpe, hwg⟩ := hrel
          by_cases hjl : j ≤ L.length
          · have dj : decide ((j : Int) ≤ (L.length : Int)) = true := decide_eq_true (by omega)
            have dj' : decide (j ≤ L.length) = true := decide_eq_true hjl
            have HPP := Lib.hid (hpp.out hjl)
            have HWG := Lib.hid (hwg.out hjl)
            clear hpp hpe hwg
            have HDLEN : (data ev ps).length ≤ 4294967296 := by
              have := congrArg List.flatten HPP.out
              have hne := parts_some sz (L.map D.t) []
              rw [HPP.out] at hne
              have h1 := data_le (every := ev) ps (fun p hp => hne p (List.mem_append_left _ hp)) (fun t ht => by
                have h2 : t ∈ (parts sz [] (L.map D.t)).flatten := by rw [HPP.out, List.flatten_append]; exact List.mem_append_left _ ht
                rw [parts_flat, List.nil_append] at h2
                obtain ⟨d, hd, rfl⟩ := List.mem_map.1 h2
                exact HOK.out d hd)
              have h3 : ps.flatten.length ≤ L.length := by
                have h4 := congrArg List.length this
                rw [parts_flat, List.nil_append, List.flatten_append, List.length_append, List.length_map] at h4
                omega
              omega
            by_cases hlast : j = L.length
            · have dl : ((j : Int) == (L.length : Int)) = true := by rw [beq_iff_eq]; omega
              have dl2 : (j == L.length) = true := by rw [beq_iff_eq]; exact hlast
              have dlt : decide ((j : Int) < (L.length : Int)) = false := decide_eq_false (by omega)
              have dlt2 : decide (j < L.length) = false := decide_eq_false (by omega)
              have HDR : Hid ((L.map D.t).drop j = []) := Lib.hid (List.drop_eq_nil_of_le (by rw [List.length_map]; omega))
              by_cases hfr : fr < j
              · have k1 : decide ((fr : Int) < (j : Int)) = true := decide_eq_true (by omega)
                have k2 : decide (fr < j) = true := decide_eq_true hfr
                have hne : ((L.map D.t).drop fr).take (j - fr) ≠ [] := fun h => by have := congrArg List.length h; rw [List.length_take, List.length_drop, List.length_map] at this; simp at this; omega
                have HPN : Hid (ps ++ [((L.map D.t).drop fr).take (j - fr)] = parts sz [] (L.map D.t)) := Lib.hid (by rw [HPP.out, HDR.out]; unfold parts; rw [if_neg hne])
                have HLA := Lib.hid hlast
                clear hne hlast
                obtain ⟨m, hm⟩ : ∃ m, j = m + 1 := ⟨j - 1, by omega⟩
                obtain ⟨dm, hdm⟩ : ∃ dm, L[m]? = some dm := ⟨_, List.getElem?_eq_getElem (by omega)⟩
                have ek : fr + (j - fr) = j := by omega
                obtain ⟨A', hA', hcut⟩ := cut_ents_mid A L.length c fr (j - fr) (by omega) hc1 H1.out.cap
                have HCUT : Hid (∀ W : World, Sem.run Tryz.prog (Instr.slice 22 (.slice A L.length c) (some (.int .i64 (fr : Int))) (some (.int .i64 (j : Int))) none) W = .ok (.slice A' (j - fr) (c - fr)) W) := Lib.hid fun W => hcut W j (by omega)
                have hcl : ((L.drop fr).take (j - fr)).length = j - fr := by rw [List.length_take, List.length_drop]; omega
                have hcm : ((L.drop fr).take (j - fr)).map D.t = ((L.map D.t).drop fr).take (j - fr) := by rw [List.map_take, List.map_drop]
                have hokc : ∀ d, d ∈ (L.drop fr).take (j - fr) → okT d.t = true := fun d hd => HOK.out d (List.mem_of_mem_drop (List.mem_of_mem_take hd))
                have HBD : Hid (Calls Tryz.prog 28 #[.slice A' (j - fr) (c - fr), .int .i64 (ev : Int)] wr (Made wr.heap.size wr (blk ev (((L.map D.t).drop fr).take (j - fr))))) := Lib.hid (by
                  have h := build_any A' (c - fr) ((L.drop fr).take (j - fr)) ev wr (ents_mid (H1.out.next hb.out) (by omega) hA') hokc (by rw [hcl]; omega) ⟨e1, e2⟩
                  rw [hcl, hcm] at h
                  exact h)
                have hbk := blk_le (every := ev) (ts := ((L.map D.t).drop fr).take (j - fr)) (fun t ht => by rw [← hcm] at ht; obtain ⟨d, hd, rfl⟩ := List.mem_map.1 ht; exact hokc d hd)
                rw [← hcm, List.length_map, hcl, hcm] at hbk
                have hlast : lastT (((L.map D.t).drop fr).take (j - fr)) = dm.t := by
                  rw [hm, cut_more (by omega) (show (L.map D.t)[m]? = some dm.t by rw [List.getElem?_map, hdm]; rfl), lastT_snoc]
                have HIX : Hid (idx ev 0 (ps ++ [((L.map D.t).drop fr).take (j - fr)]) = idx ev 0 ps ++ [ptr dm.t (data ev ps).length (blk ev (((L.map D.t).drop fr).take (j - fr))).length]) := Lib.hid (by rw [idx_snoc, hlast, Nat.zero_add])
                have HDS : Hid (data ev (ps ++ [((L.map D.t).drop fr).take (j - fr)]) = data ev ps ++ blk ev (((L.map D.t).drop fr).take (j - fr))) := Lib.hid (data_snoc _ _ _)
                have HDL : Hid ((data ev ps).length ≤ 4294967296) := Lib.hid HDLEN
                have ej : ((m + 1 : Nat) : Int) - 1 = (m : Int) := by omega
                have HDM := Lib.hid hdm
                have HCUR : Hid (∃ cur, cur = ((L.map D.t).drop fr).take (j - fr)) := Lib.hid ⟨_, rfl⟩
                obtain ⟨A11, c11, hv11, -, -, -⟩ := own_parts htw.out.bown
                subst hv11
                clear hcut hcl hcm hokc hlast hdm hA' HCUR
                have hcutw := HCUT.out
                have em1 : (j : Int) - 1 = (m : Int) := by omega
                have hXl := HDL.out
                have hYl : (blk ev (((L.map D.t).drop fr).take (j - fr))).length ≤ 4294967296 := by omega
                have HM := Lib.hid hm
                clear hm hbk
                generalize hcurd : ((L.map D.t).drop fr).take (j - fr) = cur at *
                generalize data ev ps = X at *
                generalize hYd : blk ev cur = Y at *
                go_wp2_with fail
                refine HBD.out.mono ?_
                intro e W2 hmade
                obtain ⟨v8, rfl, ho8, ⟨A8, c8, hv8, m1, m2, m3⟩, hb8⟩ := made_byts hmade
                subst hv8
                have HT2 := Lib.hid (htw.out.below hb8)
                have HB2' := Lib.hid (hb.out.trans (hb8.mono hb.out.size))
                have HO8 := Lib.hid ho8
                have HS8 := Lib.hid hb8.size
                clear hmade m3 hb8 HBD ho8
                obtain ⟨ad, p, hA, hpb, hp, q0, q1, q2, q3⟩ := (H1.out.next HB2'.out).place HDM.out
                subst hA
                have hld := key_load q0 q1 q2
                have HPT := Lib.hid (pointer_any dm X.length Y.length w.heap.size W2 ((H1.out.below HB2'.out).ok dm (List.mem_of_getElem? HDM.out)) HB2'.out.size (by omega) (by omega))
                clear hpb
                go_wp2_with fail
                refine HPT.out.mono ?_
                rintro e W3 ⟨d', rfl, hdt, hdok, hb3⟩
                have hT3 := HT2.out.below hb3
                have hO8 := own_later HO8.out hb3
                have hdR : d'.Ok W3 (Rb w.heap.size W3 (.slice A11 X.length c11)) := hdok.mono fun k hk => by
                  have hbl := HT2.out.bown
                  rcases hk with h | ⟨h1, h2, h3⟩
                  · exact ⟨Nat.lt_of_lt_of_le h (Nat.le_trans HB2'.out.size hb3.size), fun hv => absurd (hbl.lt k hv).1 (Nat.not_le_of_lt h), .inl h⟩
                  · exact ⟨h2, fun hv => absurd (hbl.lt k hv).2 (Nat.not_lt_of_le h1), .inr h3⟩
                obtain ⟨v4, W4, hr4, hT4, hb4, hkeep4⟩ := hT3.entry hdR (by omega)
                obtain ⟨A8', c8', hv8', -, -, hl8⟩ := own_parts (hkeep4 _ _ _ _ hO8)
                injection hv8' with ha8 hn8 hc8
                subst ha8 hc8
                obtain ⟨v5, W5, hr5, hT5, hb5, -⟩ := hT4.bytes (c := c8) hl8 (by omega)
                have HR4 := Lib.hid hr4
                have HR5 := Lib.hid hr5
                have HT5 : Hid (Tw w.heap.size W5 v4 v5 (I ++ [d']) (data ev (ps ++ [cur]))) := Lib.hid (by rw [HDS.out]; exact hT5)
                have HI5 : Hid ((I ++ [d']).map D.t = idx ev 0 (ps ++ [cur])) := Lib.hid (by rw [HIX.out, List.map_append, hidx.out, List.map_cons, List.map_nil, hdt])
                have HB5 := Lib.hid (((HB2'.out.trans (hb3.mono HB2'.out.size)).trans hb4).trans hb5)
                have hI5 : (I ++ [d']).length ≤ j + 1 := by rw [List.length_append, List.length_singleton]; omega
                clear q0 q1 q2 q3 hdt hdok hb3 hT3 hO8 hdR hr4 hT4 hb4 hkeep4 hl8 hr5 hT5 hb5 hn8 HPT hld
                go_wp2_with (first | (at_builtin; refine wpList_append_run rfl _ _ 22 rfl rfl rfl HR4.out ?_) | (at_builtin; refine wpList_append_run rfl _ _ 25 rfl rfl rfl HR5.out ?_))
                go_roundw
                case rel => exact ⟨j + 1, j, 0, ps ++ [cur], I ++ [d'], by omega, by go_num, rfl, rfl, by omega, hjl, by omega, hI5, HT5, HI5, HB5, Lib.hid (fun h => by have := HLA.out; omega), Lib.hid (fun _ => HPN.out), Lib.hid (fun h => by have := HLA.out; omega)⟩
                case measure => simp [intOf]; omega
              · have k1 : decide ((fr : Int) < (j : Int)) = false := decide_eq_false (by omega)
                have k2 : decide (fr < j) = false := decide_eq_false hfr
                have HPN : Hid (ps = parts sz [] (L.map D.t)) := Lib.hid (by rw [HPP.out, HDR.out, show j - fr = 0 from by omega]; unfold parts; rw [List.take_zero, if_pos rfl, List.append_nil])
                have HLA := Lib.hid hlast
                clear hlast
                go_wp2_with fail
                go_roundw
                case rel => exact ⟨j + 1, fr, nn, ps, I, by omega, by go_num, rfl, rfl, by omega, hfl, by omega, by omega, htw, hidx, hb, Lib.hid (fun h => by have := HLA.out; omega), Lib.hid (fun _ => HPN.out), Lib.hid (fun h => by have := HLA.out; omega)⟩
                case measure => simp [intOf]; omega
            · have dl : ((j : Int) == (L.length : Int)) = false := by rw [beq_eq_false_iff_ne]; omega
              have dl2 : (j == L.length) = false := by rw [beq_eq_false_iff_ne]; exact hlast
              have hjlt : j < L.length := by omega
              have dlt : decide ((j : Int) < (L.length : Int)) = true := decide_eq_true (by omega)
              have dlt2 : decide (j < L.length) = true := decide_eq_true hjlt
              obtain ⟨d, hd⟩ : ∃ d, L[j]? = some d := ⟨_, List.getElem?_eq_getElem hjlt⟩
              have HDT : Hid ((L.map D.t)[j]? = some d.t) := Lib.hid (by rw [List.getElem?_map, hd]; rfl)
              have HDR : Hid ((L.map D.t).drop j = d.t :: (L.map D.t).drop (j + 1)) := Lib.hid (drop_at HDT.out)
              have HD := Lib.hid hd
              obtain ⟨o1, o2⟩ := okT_len (HOK.out d (List.mem_of_getElem? hd))
              clear hd hlast
              by_cases hcl : fr < j ∧ sz ≤ nn
              · have k1 : decide ((fr : Int) < (j : Int)) = true := decide_eq_true (by omega)
                have k2 : decide (fr < j) = true := decide_eq_true hcl.1
                have k3 : decide ((sz : Int) ≤ (nn : Int)) = true := decide_eq_true (by omega)
                have k4 : decide (sz ≤ nn) = true := decide_eq_true hcl.2
                have hfr := hcl.1
                have hne : ((L.map D.t).drop fr).take (j - fr) ≠ [] := fun h => by have := congrArg List.length h; rw [List.length_take, List.length_drop, List.length_map] at this; simp at this; omega
                have HPN : Hid (parts sz [] (L.map D.t) = (ps ++ [((L.map D.t).drop fr).take (j - fr)]) ++ parts sz (((L.map D.t).drop j).take (j + 1 - j)) ((L.map D.t).drop (j + 1))) := Lib.hid (by
                  rw [HPP.out, HDR.out, show j + 1 - j = 1 from by omega]
                  conv => lhs; unfold parts
                  rw [if_pos ⟨hne, by rw [← HWG.out]; exact hcl.2⟩]
                  simp)
                have HWN : Hid (0 + (d.k.key.length + 8 + d.val.length) = weigh (((L.map D.t).drop j).take (j + 1 - j))) := Lib.hid (by
                  rw [HDR.out, show j + 1 - j = 1 from by omega, List.take_succ_cons, List.take_zero, weigh_cons]; show 0 + _ = (d.k.key.length + 8 + d.val.length) + 0; omega)
                clear hne hcl
                obtain ⟨m, hm⟩ : ∃ m, j = m + 1 := ⟨j - 1, by omega⟩
                obtain ⟨dm, hdm⟩ : ∃ dm, L[m]? = some dm := ⟨_, List.getElem?_eq_getElem (by omega)⟩
                have ek : fr + (j - fr) = j := by omega
                obtain ⟨A', hA', hcut⟩ := cut_ents_mid A L.length c fr (j - fr) (by omega) hc1 H1.out.cap
                have HCUT : Hid (∀ W : World, Sem.run Tryz.prog (Instr.slice 22 (.slice A L.length c) (some (.int .i64 (fr : Int))) (some (.int .i64 (j : Int))) none) W = .ok (.slice A' (j - fr) (c - fr)) W) := Lib.hid fun W => hcut W j (by omega)
                have hcl : ((L.drop fr).take (j - fr)).length = j - fr := by rw [List.length_take, List.length_drop]; omega
                have hcm : ((L.drop fr).take (j - fr)).map D.t = ((L.map D.t).drop fr).take (j - fr) := by rw [List.map_take, List.map_drop]
                have hokc : ∀ d, d ∈ (L.drop fr).take (j - fr) → okT d.t = true := fun d hd => HOK.out d (List.mem_of_mem_drop (List.mem_of_mem_take hd))
                have HBD : Hid (Calls Tryz.prog 28 #[.slice A' (j - fr) (c - fr), .int .i64 (ev : Int)] wr (Made wr.heap.size wr (blk ev (((L.map D.t).drop fr).take (j - fr))))) := Lib.hid (by
                  have h := build_any A' (c - fr) ((L.drop fr).take (j - fr)) ev wr (ents_mid (H1.out.next hb.out) (by omega) hA') hokc (by rw [hcl]; omega) ⟨e1, e2⟩
                  rw [hcl, hcm] at h
                  exact h)
                have hbk := blk_le (every := ev) (ts := ((L.map D.t).drop fr).take (j - fr)) (fun t ht => by rw [← hcm] at ht; obtain ⟨d, hd, rfl⟩ := List.mem_map.1 ht; exact hokc d hd)
                rw [← hcm, List.length_map, hcl, hcm] at hbk
                have hlast : lastT (((L.map D.t).drop fr).take (j - fr)) = dm.t := by
                  rw [hm, cut_more (by omega) (show (L.map D.t)[m]? = some dm.t by rw [List.getElem?_map, hdm]; rfl), lastT_snoc]
                have HIX : Hid (idx ev 0 (ps ++ [((L.map D.t).drop fr).take (j - fr)]) = idx ev 0 ps ++ [ptr dm.t (data ev ps).length (blk ev (((L.map D.t).drop fr).take (j - fr))).length]) := Lib.hid (by rw [idx_snoc, hlast, Nat.zero_add])
                have HDS : Hid (data ev (ps ++ [((L.map D.t).drop fr).take (j - fr)]) = data ev ps ++ blk ev (((L.map D.t).drop fr).take (j - fr))) := Lib.hid (data_snoc _ _ _)
                have HDL : Hid ((data ev ps).length ≤ 4294967296) := Lib.hid HDLEN
                have ej : ((m + 1 : Nat) : Int) - 1 = (m : Int) := by omega
                have HDM := Lib.hid hdm
                have HCUR : Hid (∃ cur, cur = ((L.map D.t).drop fr).take (j - fr)) := Lib.hid ⟨_, rfl⟩
                obtain ⟨A11, c11, hv11, -, -, -⟩ := own_parts htw.out.bown
                subst hv11
                clear hcut hcl hcm hokc hlast hdm hA' HCUR
                have hcutw := HCUT.out
                have em1 : (j : Int) - 1 = (m : Int) := by omega
                have hXl := HDL.out
                have hYl : (blk ev (((L.map D.t).drop fr).take (j - fr))).length ≤ 4294967296 := by omega
                have HM := Lib.hid hm
                clear hm hbk
                generalize hcurd : ((L.map D.t).drop fr).take (j - fr) = cur at *
                generalize data ev ps = X at *
                generalize hYd : blk ev cur = Y at *
                go_wp2_with fail
                refine HBD.out.mono ?_
                intro e W2 hmade
                obtain ⟨v8, rfl, ho8, ⟨A8, c8, hv8, m1, m2, m3⟩, hb8⟩ := made_byts hmade
                subst hv8
                have HT2 := Lib.hid (htw.out.below hb8)
                have HB2' := Lib.hid (hb.out.trans (hb8.mono hb.out.size))
                have HO8 := Lib.hid ho8
                have HS8 := Lib.hid hb8.size
                clear hmade m3 hb8 HBD ho8
                obtain ⟨ad, p, hA, hpb, hp, q0, q1, q2, q3⟩ := (H1.out.next HB2'.out).place HDM.out
                subst hA
                have hld := key_load q0 q1 q2
                have HPT := Lib.hid (pointer_any dm X.length Y.length w.heap.size W2 ((H1.out.below HB2'.out).ok dm (List.mem_of_getElem? HDM.out)) HB2'.out.size (by omega) (by omega))
                clear hpb
                go_wp2_with fail
                refine HPT.out.mono ?_
                rintro e W3 ⟨d', rfl, hdt, hdok, hb3⟩
                have hT3 := HT2.out.below hb3
                have hO8 := own_later HO8.out hb3
                have hdR : d'.Ok W3 (Rb w.heap.size W3 (.slice A11 X.length c11)) := hdok.mono fun k hk => by
                  have hbl := HT2.out.bown
                  rcases hk with h | ⟨h1, h2, h3⟩
                  · exact ⟨Nat.lt_of_lt_of_le h (Nat.le_trans HB2'.out.size hb3.size), fun hv => absurd (hbl.lt k hv).1 (Nat.not_le_of_lt h), .inl h⟩
                  · exact ⟨h2, fun hv => absurd (hbl.lt k hv).2 (Nat.not_lt_of_le h1), .inr h3⟩
                obtain ⟨v4, W4, hr4, hT4, hb4, hkeep4⟩ := hT3.entry hdR (by omega)
                obtain ⟨A8', c8', hv8', -, -, hl8⟩ := own_parts (hkeep4 _ _ _ _ hO8)
                injection hv8' with ha8 hn8 hc8
                subst ha8 hc8
                obtain ⟨v5, W5, hr5, hT5, hb5, -⟩ := hT4.bytes (c := c8) hl8 (by omega)
                have HR4 := Lib.hid hr4
                have HR5 := Lib.hid hr5
                have HT5 : Hid (Tw w.heap.size W5 v4 v5 (I ++ [d']) (data ev (ps ++ [cur]))) := Lib.hid (by rw [HDS.out]; exact hT5)
                have HI5 : Hid ((I ++ [d']).map D.t = idx ev 0 (ps ++ [cur])) := Lib.hid (by rw [HIX.out, List.map_append, hidx.out, List.map_cons, List.map_nil, hdt])
                have HB5 := Lib.hid (((HB2'.out.trans (hb3.mono HB2'.out.size)).trans hb4).trans hb5)
                have hI5 : (I ++ [d']).length ≤ j + 1 := by rw [List.length_append, List.length_singleton]; omega
                clear q0 q1 q2 q3 hdt hdok hb3 hT3 hO8 hdR hr4 hT4 hb4 hkeep4 hl8 hr5 hT5 hb5 hn8 HPT hld
                go_wp2_with (first | (at_builtin; refine wpList_append_run rfl _ _ 22 rfl rfl rfl HR4.out ?_) | (at_builtin; refine wpList_append_run rfl _ _ 25 rfl rfl rfl HR5.out ?_))
                obtain ⟨ad9, p9, hA9, hpb9, hp9, q0, q1, q2, q3⟩ := (H1.out.below HB5.out).place HD.out
                injection hA9 with hA9
                subst hA9
                go_wp2_with fail
                go_quiet (fail)
                go_wp2_with fail
                go_roundw
                case rel => exact ⟨j + 1, j, d.k.key.length + 8 + d.val.length, ps ++ [cur], I ++ [d'], by omega, by go_num, rfl, by go_num, by omega, hjl, by omega, hI5, Lib.hid (HT5.out.below (Joins.below_draws _ _ _)), HI5, Lib.hid (HB5.out.trans (Joins.below_draws _ _ _)), Lib.hid (fun _ => HPN.out), Lib.hid (fun h => by omega), Lib.hid (fun _ => by rw [← HWN.out, Nat.zero_add])⟩
                case measure => simp [intOf]; omega
              · have HPN : Hid (parts sz [] (L.map D.t) = ps ++ parts sz (((L.map D.t).drop fr).take (j + 1 - fr)) ((L.map D.t).drop (j + 1))) := Lib.hid (by
                  rw [HPP.out, HDR.out, cut_more hfj HDT.out]
                  conv => lhs; unfold parts
                  rw [if_neg (by
                    rintro ⟨h1, h2⟩
                    rw [← HWG.out] at h2
                    exact hcl ⟨by
                      refine Nat.lt_of_not_le fun h3 => h1 ?_
                      rw [show j - fr = 0 from by omega, List.take_zero], h2⟩)])
                have HWN : Hid (nn + (d.k.key.length + 8 + d.val.length) = weigh (((L.map D.t).drop fr).take (j + 1 - fr))) := Lib.hid (by
                  rw [cut_more hfj HDT.out, weigh_snoc, ← HWG.out]; rfl)
                by_cases hfr : fr < j
                · have k1 : decide ((fr : Int) < (j : Int)) = true := decide_eq_true (by omega)
                  have k2 : decide (fr < j) = true := decide_eq_true hfr
                  have k3 : decide ((sz : Int) ≤ (nn : Int)) = false := decide_eq_false (by omega)
                  have k4 : decide (sz ≤ nn) = false := decide_eq_false (by omega)
                  clear hcl
                  go_wp2_with fail
                  obtain ⟨ad9, p9, hA9, hpb9, hp9, q0, q1, q2, q3⟩ := (H1.out.below hb.out).place HD.out
                  skip
                  subst hA9
                  go_wp2_with fail
                  go_quiet (fail)
                  go_wp2_with fail
                  go_roundw
                  case rel => exact ⟨j + 1, fr, nn + (d.k.key.length + 8 + d.val.length), ps, I, by omega, by go_num, rfl, by go_num, by omega, hfl, by omega, by omega, Lib.hid (htw.out.below (Joins.below_draws _ _ _)), hidx, Lib.hid (hb.out.trans (Joins.below_draws _ _ _)), Lib.hid (fun _ => HPN.out), Lib.hid (fun h => by omega), Lib.hid (fun _ => HWN.out.symm ▸ rfl)⟩
                  case measure => simp [intOf]; omega
                · have k1 : decide ((fr : Int) < (j : Int)) = false := decide_eq_false (by omega)
                  have k2 : decide (fr < j) = false := decide_eq_false hfr
                  clear hcl
                  go_wp2_with fail
                  obtain ⟨ad9, p9, hA9, hpb9, hp9, q0, q1, q2, q3⟩ := (H1.out.below hb.out).place HD.out
                  skip
                  subst hA9
                  go_wp2_with fail
                  go_quiet (fail)
                  go_wp2_with fail
                  go_roundw
                  case rel => exact ⟨j + 1, fr, nn + (d.k.key.length + 8 + d.val.length), ps, I, by omega, by go_num, rfl, by go_num, by omega, hfl, by omega, by omega, Lib.hid (htw.out.below (Joins.below_draws _ _ _)), hidx, Lib.hid (hb.out.trans (Joins.below_draws _ _ _)), Lib.hid (fun _ => HPN.out), Lib.hid (fun h => by omega), Lib.hid (fun _ => HWN.out.symm ▸ rfl)⟩
                  case measure => simp [intOf]; omega
          · obtain rfl : j = L.length + 1 := by omega
            have HPE := Lib.hid (hpe.out rfl)
            clear hpp hpe hwg
            have dj : decide (((L.length + 1 : Nat) : Int) ≤ (L.length : Int)) = false := decide_eq_false (by omega)
            have dj2 : decide ((L.length : Int) + 1 ≤ (L.length : Int)) = false := decide_eq_false (by omega)
            have dj3 : decide (L.length + 1 ≤ L.length) = false := decide_eq_false (by omega)
            obtain ⟨A11, c11, hv11, b1, b2, -⟩ := own_parts htw.out.bown
            subst hv11
            obtain ⟨A12, c12, hv12, i1, i2, -⟩ := own_parts htw.out.iown
            subst hv12
            unfold maxLen at b2
            have hIent : Ents wr (· < wr.heap.size) A12 c12 I := ⟨(LiesP.of_own htw.out.iown).later (fun _ _ => rfl) (fun k hk => hk.2.1), i1, i2, fun d hd => (htw.out.ok d hd).mono fun k hk => hk.1⟩
            have hfl : ps.flatten = L.map D.t := by rw [HPE.out, parts_flat, List.nil_append]
            have hpne : ∀ p, p ∈ ps → p ≠ [] := by rw [HPE.out]; exact parts_some sz _ _
            have hIok : ∀ d, d ∈ I → okT d.t = true := fun d hd => by
              have h2 : d.t ∈ idx ev 0 ps := by rw [← hidx.out]; exact List.mem_map.2 ⟨d, hd, rfl⟩
              obtain ⟨q, a, n, h3, h4⟩ := idx_mem ps 0 _ h2
              rw [h4]
              have h5 : lastT q ∈ L.map D.t := by rw [← hfl]; exact List.mem_flatten.2 ⟨q, h3, lastT_mem (hpne q h3)⟩
              obtain ⟨d2, h6, h7⟩ := List.mem_map.1 h5
              exact ptr_okT (by rw [← h7]; exact HOK.out d2 h6)
            have hIn : I.length ≤ 10000 := by
              have h2 := congrArg List.length hidx.out
              rw [List.length_map, idx_len] at h2
              have h3 := flat_len ps hpne
              rw [hfl, List.length_map] at h3
              omega
            have hXl : (data ev ps).length ≤ 50000000 := by
              have h2 := data_le (every := ev) ps hpne (by rw [hfl]; intro t ht; obtain ⟨d, hd, rfl⟩ := List.mem_map.1 ht; exact HOK.out d hd)
              rw [hfl, List.length_map] at h2
              omega
            have hGl : (blk 1 (I.map D.t)).length ≤ 50000000 := by
              have h2 := blk_le (every := 1) (ts := I.map D.t) (fun t ht => by obtain ⟨d, hd, rfl⟩ := List.mem_map.1 ht; exact hIok d hd)
              rw [List.length_map] at h2
              omega
            have hFl : (bloomB (users none (L.map D.t)) (clampB bits)).length ≤ 60000 := by
              rw [bloomB_len]
              have h1 := users_len (L.map D.t) none
              rw [List.length_map] at h1
              have h2 : (users none (L.map D.t)).length * clampB bits ≤ 10000 * 40 := Nat.mul_le_mul (by omega) (clampB_in bits).2
              unfold mOf
              omega
            have hUl : (users none (L.map D.t)).length ≤ 1000000 := by
              have h1 := users_len (L.map D.t) none
              rw [List.length_map] at h1
              omega
            have HTAB : Hid (tabP ev (clampB bits) ps = data ev ps ++ (bloomB (users none (L.map D.t)) (clampB bits) ++ (blk 1 (I.map D.t) ++ (tail5 (data ev ps).length (bloomB (users none (L.map D.t)) (clampB bits)).length ((data ev ps).length + (bloomB (users none (L.map D.t)) (clampB bits)).length) (blk 1 (I.map D.t)).length L.length ++
                sum4 (tail5 (data ev ps).length (bloomB (users none (L.map D.t)) (clampB bits)).length ((data ev ps).length + (bloomB (users none (L.map D.t)) (clampB bits)).length) (blk 1 (I.map D.t)).length L.length))))) := Lib.hid (by
              unfold tabP; dsimp only; rw [hfl, hidx.out, List.length_map])
            have HT2 : Hid (tabB size every bits (L.map D.t) = tabP ev (clampB bits) ps) := Lib.hid (by rw [HTB.out, HPE.out])
            have HIE := Lib.hid hIent
            have HIO := Lib.hid hIok
            have HU := Lib.hid (users_any A c L wr (H1.out.next hb.out) hn)
            clear hIent hIok hfl hpne
            generalize data ev ps = X at *
            generalize hFd : bloomB (users none (L.map D.t)) (clampB bits) = F at *
            generalize hGd : blk 1 (I.map D.t) = G at *
            have HFD := Lib.hid hFd
            have HGD := Lib.hid hGd
            clear hFd hGd
            go_wp2_with fail
            refine HU.out.mono ?_
            rintro e W3 ⟨Au, cu, Es, rfl, hEs, hSq, hb3⟩
            have hEl : Es.length ≤ 1000000 := by have := congrArg List.length hEs; rw [List.length_map] at this; omega
            have HBL : Hid (Calls Tryz.prog 30 #[.slice Au Es.length cu, .int .i64 bits] W3 (Made W3.heap.size W3 F)) := Lib.hid (by
              have h := rbloom_any Au cu W3.heap.size Es bits W3 hSq (Nat.le_refl _) hEl
              rwa [hEs, HFD.out] at h)
            have HT3 := Lib.hid (htw.out.below hb3)
            have HL3 : Hid (∀ k, (Value.slice A11 X.length c11).ownBlock = some k → k < wr.heap.size) := Lib.hid fun k hk => (htw.out.bown.lt k hk).2
            have HB3 := Lib.hid (hb.out.trans (hb3.mono hb.out.size))
            have HS3 := Lib.hid hb3.size
            clear hEs hSq HU htw
            go_wp2_with fail
            refine HBL.out.mono ?_
            intro e W4 hmade
            obtain ⟨v17, rfl, ho17, ⟨A17, c17, hv17, f1, f2, f3⟩, hb4⟩ := made_byts hmade
            subst hv17
            have HT4 := Lib.hid (HT3.out.below hb4)
            have HB4 := Lib.hid (HB3.out.trans (hb4.mono HB3.out.size))
            have HOF4 := Lib.hid (off_new HT4.out.bown (fun k hk => Nat.lt_of_lt_of_le (HL3.out k hk) HS3.out) ho17)
            have HBI : Hid (Calls Tryz.prog 28 #[.slice A12 I.length c12, .int .i64 1] W4 (Made W4.heap.size W4 G)) := Lib.hid (by
              have h := build_any A12 c12 I 1 W4 ((HIE.out.next hb3).next hb4) HIO.out hIn ⟨Nat.le_refl _, by omega⟩
              rwa [HGD.out] at h)
            have HS4 := Lib.hid (Nat.le_trans HS3.out hb4.size)
            clear hmade ho17 f3 hb4 HBL hb3 HIE HIO
            go_wp2_with fail
            refine HBI.out.mono ?_
            intro e W5 hmade
            obtain ⟨v18, rfl, ho18, ⟨A18, c18, hv18, g1, g2, g3⟩, hb5⟩ := made_byts hmade
            subst hv18
            have HT5 := Lib.hid (HT4.out.below hb5)
            have HB5 := Lib.hid (HB4.out.trans (hb5.mono HB4.out.size))
            have HOF5 := Lib.hid (HOF4.out.later hb5)
            have HOG5 := Lib.hid (off_new HT5.out.bown (fun k hk => Nat.lt_of_lt_of_le (HL3.out k hk) HS4.out) ho18)
            have HS5 := Lib.hid (Nat.le_trans HS4.out hb5.size)
            have ux : IntKind.u64.wrap (X.length : Int) = (X.length : Int) := IntWalk.u64_in _ (by omega)
            have uf : IntKind.u64.wrap (F.length : Int) = (F.length : Int) := IntWalk.u64_in _ (by omega)
            have ug : IntKind.u64.wrap (G.length : Int) = (G.length : Int) := IntWalk.u64_in _ (by omega)
            have ul : IntKind.u64.wrap (L.length : Int) = (L.length : Int) := IntWalk.u64_in _ (by omega)
            clear hmade ho18 g3 hb5 HBI HT3 HT4 HOF4
            go_wp2_with fail
            refine (Ik.low_any none 0 0 X.length 4 [] W5 (.inl rfl) (by simp) (by omega) (by omega)).mono ?_
            intro e W6 hmade
            obtain ⟨v6, rfl, ho6, ⟨A6, c6, hv6, x6, y6, hl6⟩, hb6⟩ := made_byts hmade
            subst hv6
            obtain ⟨E1, hE1⟩ : ∃ E1, E1 = [] ++ low X.length 4 := ⟨_, rfl⟩
            have le1 : E1.length = 4 := by rw [hE1, List.nil_append, low_length]
            have el1 : ([] ++ low X.length 4).length = 4 := by rw [← hE1]; exact le1
            rw [← hE1] at hl6 ho6
            rw [el1]
            have HT6 := Lib.hid (HT5.out.below hb6)
            have HB6 := Lib.hid (HB5.out.trans (hb6.mono HB5.out.size))
            have HOF6 := Lib.hid (HOF5.out.later hb6)
            have HOG6 := Lib.hid (HOG5.out.later hb6)
            have HS6 := Lib.hid (Nat.le_trans HS5.out hb6.size)
            have HLO6 : Hid (Calls Tryz.prog 32 #[.slice A6 4 c6, .int .u64 (F.length : Int), .int .i64 (4 : Nat)] W6 (Made W6.heap.size W6 (E1 ++ low F.length 4))) := Lib.hid (by
              have h := Ik.low_any A6 c6 W6.heap.size F.length 4 E1 W6 hl6 (by omega) (by omega) (by omega)
              rwa [le1] at h)
            have HE1 := Lib.hid hE1
            clear hmade ho6 hl6 hb6 HT5 HOF5 HOG5 x6 y6 hE1 el1
            go_wp2_with fail
            refine HLO6.out.mono ?_
            intro e W7 hmade
            obtain ⟨v7, rfl, ho7, ⟨A7, c7, hv7, x7, y7, hl7⟩, hb7⟩ := made_byts hmade
            subst hv7
            obtain ⟨E2, hE2⟩ : ∃ E2, E2 = E1 ++ low F.length 4 := ⟨_, rfl⟩
            have le2 : E2.length = 8 := by rw [hE2, List.length_append, low_length, le1]
            have el2 : (E1 ++ low F.length 4).length = 8 := by rw [← hE2]; exact le2
            rw [← hE2] at hl7 ho7
            rw [el2]
            have hT7 := HT6.out.below hb7
            have hOE7 : Off (.slice A11 X.length c11) W7 A7 (E2.map vb) := off_new hT7.bown (fun k hk => Nat.lt_of_lt_of_le (HL3.out k hk) HS6.out) ho7
            have hOF7 := HOF6.out.later hb7
            have hOG7 := HOG6.out.later hb7
            obtain ⟨b8, W8, hr8, hT8, hb8, hon8⟩ := hT7.bytes (c := c17) hOF7.lies (by omega)
            obtain ⟨A20, c20, hv20, -, y20, -⟩ := own_parts hT8.bown
            subst hv20
            have hOE8 := hOE7.onto hon8
            have hOG8 := hOG7.onto hon8
            have HR8 := Lib.hid hr8
            have HB8 := Lib.hid ((HB6.out.trans (hb7.mono HB6.out.size)).trans hb8)
            obtain ⟨XF, hXF⟩ : ∃ XF, XF = X ++ F := ⟨_, rfl⟩
            have hXFl : XF.length = X.length + F.length := by rw [hXF, List.length_append]
            rw [← hXF] at hT8 hr8 hOE8 hOG8
            have HR8' : Hid (Sem.run Tryz.prog (Builtin.append_ #[25, 25] 25 #[.slice A11 X.length c11, .slice A17 F.length c17]) W7 = .ok (.slice A20 XF.length c20) W8) := Lib.hid (by rw [HR8.out, hXF])
            have HT8 := Lib.hid hT8
            have HOE8 := Lib.hid hOE8
            have HOG8 := Lib.hid hOG8
            have HXF := Lib.hid hXF
            have HE2 := Lib.hid hE2
            have HXFL := Lib.hid hXFl
            have uxf : IntKind.u64.wrap (XF.length : Int) = (XF.length : Int) := IntWalk.u64_in _ (by omega)
            have hxfb : XF.length ≤ 60000000 := by omega
            have HLO8 : Hid (Calls Tryz.prog 32 #[.slice A7 8 c7, .int .u64 (XF.length : Int), .int .i64 (4 : Nat)] W8 (Made W8.heap.size W8 (E2 ++ low XF.length 4))) := Lib.hid (by
              have h := Ik.low_any A7 c7 W8.heap.size XF.length 4 E2 W8 hOE8.lies (by omega) (by omega) (by omega)
              rwa [le2] at h)
            clear hmade ho7 hl7 hb7 hT7 hOE7 hOF7 hOG7 hr8 hT8 hb8 hon8 hOE8 hOG8 HR8 hXF hE2 hXFl el2 HT6 HOF6 HOG6 HLO6 x7 y7
            go_wp2_with (at_builtin; refine wpList_append_run rfl _ _ 25 rfl rfl rfl HR8'.out ?_)
            refine HLO8.out.mono ?_
            intro e W9 hmade
            obtain ⟨v9, rfl, -, ⟨A9, c9, hv9, x9, y9, hl9⟩, hb9⟩ := made_byts hmade
            subst hv9
            obtain ⟨E3, hE3⟩ : ∃ E3, E3 = E2 ++ low XF.length 4 := ⟨_, rfl⟩
            have le3 : E3.length = 12 := by rw [hE3, List.length_append, low_length, le2]
            have el3 : (E2 ++ low XF.length 4).length = 12 := by rw [← hE3]; exact le3
            rw [← hE3] at hl9
            rw [el3]
            have HT9 := Lib.hid (HT8.out.below hb9)
            have HB9 := Lib.hid (HB8.out.trans (hb9.mono HB8.out.size))
            have HOG9 := Lib.hid (HOG8.out.later hb9)
            have HS9 := Lib.hid hb9.size
            have HL8 : Hid (∀ k, (Value.slice A20 XF.length c20).ownBlock = some k → k < W8.heap.size) := Lib.hid fun k hk => (HT8.out.bown.lt k hk).2
            have HLO9 : Hid (Calls Tryz.prog 32 #[.slice A9 12 c9, .int .u64 (G.length : Int), .int .i64 (4 : Nat)] W9 (Made W9.heap.size W9 (E3 ++ low G.length 4))) := Lib.hid (by
              have h := Ik.low_any A9 c9 W9.heap.size G.length 4 E3 W9 hl9 (by omega) (by omega) (by omega)
              rwa [le3] at h)
            have HE3 := Lib.hid hE3
            clear hmade hl9 hb9 x9 y9 hE3 el3 HT8 HOE8 HOG8 HLO8
            go_wp2_with fail
            refine HLO9.out.mono ?_
            intro e W10 hmade
            obtain ⟨v10, rfl, -, ⟨A10, c10, hv10, x10, y10, hl10⟩, hb10⟩ := made_byts hmade
            subst hv10
            obtain ⟨E4, hE4⟩ : ∃ E4, E4 = E3 ++ low G.length 4 := ⟨_, rfl⟩
            have le4 : E4.length = 16 := by rw [hE4, List.length_append, low_length, le3]
            have el4 : (E3 ++ low G.length 4).length = 16 := by rw [← hE4]; exact le4
            rw [← hE4] at hl10
            rw [el4]
            have HT10 := Lib.hid (HT9.out.below hb10)
            have HB10 := Lib.hid (HB9.out.trans (hb10.mono HB9.out.size))
            have HOG10 := Lib.hid (HOG9.out.later hb10)
            have HS10 := Lib.hid (Nat.le_trans HS9.out hb10.size)
            have HLO10 : Hid (Calls Tryz.prog 32 #[.slice A10 16 c10, .int .u64 (L.length : Int), .int .i64 (4 : Nat)] W10 (Made W10.heap.size W10 (E4 ++ low L.length 4))) := Lib.hid (by
              have h := Ik.low_any A10 c10 W10.heap.size L.length 4 E4 W10 hl10 (by omega) (by omega) (by omega)
              rwa [le4] at h)
            have HE4 := Lib.hid hE4
            clear hmade hl10 hb10 x10 y10 hE4 el4 HT9 HOG9 HLO9
            go_wp2_with fail
            refine HLO10.out.mono ?_
            intro e W11 hmade
            obtain ⟨v11', rfl, ho21, ⟨A21, c21, hv21, x21, y21, hl21⟩, hb21⟩ := made_byts hmade
            subst hv21
            obtain ⟨E5, hE5⟩ : ∃ E5, E5 = E4 ++ low L.length 4 := ⟨_, rfl⟩
            have le5 : E5.length = 20 := by rw [hE5, List.length_append, low_length, le4]
            have el5 : (E4 ++ low L.length 4).length = 20 := by rw [← hE5]; exact le5
            rw [← hE5] at hl21 ho21
            rw [el5]
            have hT11 := HT10.out.below hb21
            have hOE11 : Off (.slice A20 XF.length c20) W11 A21 (E5.map vb) := off_new hT11.bown (fun k hk => Nat.lt_of_lt_of_le (HL8.out k hk) HS10.out) ho21
            have hOG11 := HOG10.out.later hb21
            obtain ⟨b12, W12, hr12, hT12, hb12, hon12⟩ := hT11.bytes (c := c18) hOG11.lies (by omega)
            obtain ⟨XG, hXG⟩ : ∃ XG, XG = XF ++ G := ⟨_, rfl⟩
            have hXGl : XG.length ≤ 140000000 := by rw [hXG, List.length_append]; omega
            rw [← hXG] at hT12
            obtain ⟨A22, c22, hv22, -, -, -⟩ := own_parts hT12.bown
            subst hv22
            have hOE12 := hOE11.onto hon12
            obtain ⟨b13, W13, hr13, hT13, hb13, hon13⟩ := hT12.bytes (c := c21) hOE12.lies (by rw [le5]; omega)
            obtain ⟨XE, hXE⟩ : ∃ XE, XE = XG ++ E5 := ⟨_, rfl⟩
            have hXEl : XE.length ≤ 150000000 := by rw [hXE, List.length_append, le5]; omega
            rw [← hXE] at hT13
            obtain ⟨A23, c23, hv23, -, -, -⟩ := own_parts hT13.bown
            subst hv23
            have hOE13 := hOE12.onto hon13
            have HXG := Lib.hid hXG
            have HXE := Lib.hid hXE
            clear hXG hXE
            have e5b : ∀ x, x ∈ E5 → x < 256 := by
              intro x hx
              rw [hE5, HE4.out, HE3.out, HE2.out, HE1.out] at hx
              simp only [List.mem_append, List.nil_append] at hx
              rcases hx with (((h | h) | h) | h) | h <;> exact low_byte _ 4 x h
            have h5c : 20 ≤ c21 := by omega
            have HMK : Hid (Calls Tryz.prog 33 #[.slice A21 20 c21] W13 (Made W13.heap.size W13 (sum4 E5))) := Lib.hid (by
              have h := masked_any A21 c21 W13.heap.size E5 W13 hOE13.lies (by omega) y21 e5b
              rwa [le5] at h)
            rw [le5] at hr13
            have HR12 := Lib.hid hr12
            have HR13 := Lib.hid hr13
            have HT13 := Lib.hid hT13
            have HB13 := Lib.hid ((((HB10.out.trans (hb21.mono HB10.out.size)).trans hb12)).trans hb13)
            have HE5 := Lib.hid hE5
            clear hmade hl21 hb21 x21 hE5 el5 HT10 HOG10 HLO10 hT11 hOE11 hOG11 hr12 hT12 hb12 hon12 hOE12 hr13 hT13 hb13 hon13 hOE13 e5b ho21
            go_upto_region 32 with (at_builtin; refine wpList_append_run rfl _ _ 25 rfl rfl rfl HR12.out ?_)
            clear HR12
            go_wp2_with (at_builtin; refine wpList_append_run rfl _ _ 25 rfl rfl rfl HR13.out ?_)
            clear HR13
            refine HMK.out.mono ?_
            intro e W14 hmade
            obtain ⟨v14, rfl, -, ⟨A24, c24, hv24, -, -, hl24⟩, hb14⟩ := made_byts hmade
            have l4 := sum4_len E5
            rw [l4] at hv24
            subst hv24
            have hT14 := HT13.out.below hb14
            obtain ⟨b15, W15, hr15, hT15, hb15, -⟩ := hT14.bytes (c := c24) hl24 (by rw [l4]; omega)
            rw [l4] at hr15
            have HR15 := Lib.hid hr15
            have HB15 := Lib.hid ((HB13.out.trans (hb14.mono HB13.out.size)).trans hb15)
            have HT15 := Lib.hid hT15
            clear hmade hl24 hb14 hT14 hr15 hT15 hb15 l4
            go_wp2_with (at_builtin; refine wpList_append_run rfl _ _ 25 rfl rfl rfl HR15.out ?_)
            go_returns
            refine ⟨b15, by rw [HE.out]; rfl, ?_, HB15.out⟩
            have hE5 : E5 = tail5 X.length F.length (X.length + F.length) G.length L.length := by
              rw [HE5.out, HE4.out, HE3.out, HE2.out, HE1.out, HXFL.out]
              simp [tail5]
            have hfin : XE ++ sum4 E5 = tabB size every bits (L.map D.t) := by
              rw [HT2.out, HTAB.out, HXE.out, HXG.out, HXF.out, ← hE5]
              simp only [List.append_assoc]
            rw [← hfin]
            exact HT15.out.bown
  · have HE : Hid (mayT (L.map D.t) = may (L.map D.t)) := Lib.hid (by unfold mayT; rw [if_pos hmay])
    have HNE := Lib.hid hmay
    have d6 : ((may (L.map D.t) : Int) != 0) = true := by rw [bne_iff_ne]; omega
    unfold maxLen at hm1
    clear hmay h1
    generalize may (L.map D.t) = mm at *
    go_enter Tryz.func10, Tryz.ntmps10
    go_wp2_with fail
    refine HMAY.out.mono ?_
    rintro e W1 ⟨rfl, hb1⟩
    have HB1 := Lib.hid hb1
    clear hb1
    go_wp2_with fail
    go_returns
    exact Tabd.no HE.out HNE.out HB1.out
end Go.Proofs.YtobjiamdljjkjaaGreat.Tb

/- Entries, parts and an index beside each other; the walk over an index, step by step. -/
namespace Go.Proofs.YtobjiamdljjkjaaGreat.Tb
set_option linter.unusedVariables false
set_option linter.unusedSimpArgs false
open Go.RowKit Lift Ik Sk Vn Bk Bl Sq
open Vt (res)
/-- A new block that no append to va or vp can touch. -/
def Ra (B : Nat) (w : World) (va vp : Value) (k : Nat) : Prop := B ≤ k ∧ k < w.heap.size ∧ ¬ va.ownBlock = some k ∧ ¬ vp.ownBlock = some k
/-- All entries (va), the parts (vp), the index (X). -/
structure Va (B : Nat) (w : World) (va vp : Value) (La : List D) (Ps : List P) (Ax : Option Addr) (cx : Nat) (X : List D) : Prop where
  aown : w.ownsRow B 41 4 va La.length (cellsL La)
  pown : w.ownsRow B 22 1 vp Ps.length (Ps.map P.v)
  aok : ∀ d, d ∈ La → d.Ok w (Ra B w va vp)
  pok : ∀ p, p ∈ Ps → Ents w (Ra B w va vp) p.a p.c p.L
  xok : Ents w (Ra B w va vp) Ax cx X
  base : B ≤ w.heap.size
section
variable {B : Nat} {w w' : World} {va vp : Value} {La : List D} {Ps : List P} {Ax : Option Addr} {cx : Nat} {X : List D}
theorem Ra.below (hb : Below w.heap.size w w') (k : Nat) (h : Ra B w va vp k) : Ra B w' va vp k := ⟨h.1, Nat.lt_of_lt_of_le h.2.1 hb.size, h.2.2⟩
theorem Va.below (h : Va B w va vp La Ps Ax cx X) (hb : Below w.heap.size w w') : Va B w' va vp La Ps Ax cx X :=
  have hk : ∀ k, Ra B w va vp k → w'.heap[k]? = w.heap[k]? := fun k hk => hb.block k hk.2.1
  ⟨own_later h.aown hb, own_later h.pown hb, fun d hd => (h.aok d hd).later hk (Ra.below hb), fun p hp => (h.pok p hp).later hk (Ra.below hb), h.xok.later hk (Ra.below hb), Nat.le_trans h.base hb.size⟩
/-- What a later call has made lies apart. -/
theorem Va.apart (h : Va B w va vp La Ps Ax cx X) (hb : Below w.heap.size w w') {k : Nat} (hk : w.heap.size ≤ k ∧ k < w'.heap.size) : Ra B w' va vp k :=
  ⟨Nat.le_trans h.base hk.1, hk.2, fun hv => absurd (h.aown.lt k hv).2 (Nat.not_lt_of_le hk.1), fun hv => absurd (h.pown.lt k hv).2 (Nat.not_lt_of_le hk.1)⟩
/-- A part more. -/
theorem Va.part (h : Va B w va vp La Ps Ax cx X) {p : P} (hp : Ents w (Ra B w va vp) p.a p.c p.L) (hn : Ps.length ≤ 100000000) :
    ∃ vp' w', Sem.run Tryz.prog (Builtin.append_ #[76, 76] 76 #[vp, .slice (some ⟨w.heap.size, 0, none⟩) 1 1]) (w.alloc (.cells #[p.v] 22)) = .ok vp' w' ∧ Va B w' va vp' La (Ps ++ [p]) Ax cx X ∧ Below B w w' ∧ Ents w' (Ra B w' va vp') p.a p.c p.L := by
  have hb : Below w.heap.size w (w.alloc (.cells #[p.v] 22)) := Joins.below_alloc1 w _
  have hl : Lies (w.alloc (.cells #[p.v] 22)) (w.heap.size + 1) (some ⟨w.heap.size, 0, none⟩) [p.v] := lies_block (cs := #[p.v]) (heap_alloc_new w _) (Nat.lt_succ_self _)
  have h1 := h.below hb
  obtain ⟨vp', w', hr, ho, hon⟩ := run_append_onto (P := Tryz.prog) (m := 1) (c := 1) 76 76 22 (.slice none 0 0) 1 24 Tryz.underlying76 (by kernel_rfl) rfl (by decide)
    (fun u hu => by simp at hu; subst hu; rfl) h1.pown hl rfl (by unfold maxLen; omega) (by omega) h1.base
  have hbel : Below B w w' := (hb.mono h.base).trans (hon.below h1.pown h1.base)
  have hk : ∀ k, Ra B w va vp k → w'.heap[k]? = w.heap[k]? := fun k hk => by rw [hon.keep.block k (Nat.lt_of_lt_of_le hk.2.1 hb.size) hk.2.2.2, hb.block k hk.2.1]
  have hR : ∀ k, Ra B w va vp k → Ra B w' va vp' k := fun k hk2 => ⟨hk2.1, Nat.lt_of_lt_of_le hk2.2.1 hbel.size, hk2.2.2.1, fun hv => by
    rcases hon.place k hv with h4 | h4
    · exact hk2.2.2.2 h4
    · exact absurd (Nat.lt_of_lt_of_le hk2.2.1 hb.size) (Nat.not_lt_of_le h4)⟩
  have hp' := hp.later hk hR
  refine ⟨vp', w', hr, ⟨own_kept h1.aown hon.keep fun k hk1 hv => ?_, by rw [List.length_append, List.map_append]; exact ho, fun d hd => (h.aok d hd).later hk hR, fun q hq => ?_, h.xok.later hk hR, Nat.le_trans h.base hbel.size⟩, hbel, hp'⟩
  · obtain ⟨cs, fr, h3⟩ := own_blk h1.aown hk1
    exact absurd (own_type h1.pown hv h3) (by decide)
  · rcases List.mem_append.1 hq with h5 | h5
    · exact (h.pok q h5).later hk hR
    · simp at h5
      subst h5
      exact hp'
/-- Entries more. -/
theorem Va.more (h : Va B w va vp La Ps Ax cx X) {A : Option Addr} {c : Nat} {L : List D} (hL : Ents w (Ra B w va vp) A c L) (hn : La.length + L.length ≤ 100000000) :
    ∃ va' w', Sem.run Tryz.prog (Builtin.append_ #[22, 22] 22 #[va, .slice A L.length c]) w = .ok va' w' ∧ Va B w' va' vp (La ++ L) Ps Ax cx X ∧ Below B w w' := by
  obtain ⟨va', w', hr, ho, hon⟩ := run_append_onto (P := Tryz.prog) (m := L.length) (c := c) 22 22 41 (.agg #[.slice none 0 0, .int .u64 0, .int .i64 0, .slice none 0 0]) 4 64 Tryz.underlying22 (by kernel_rfl) rfl (by decide)
    (fun u hu => cellsL_one u hu) h.aown (LiesP.lies hL.lies (fun k hk => hk.2.1)) (cellsL_length L) (by unfold maxLen; omega) (by omega) h.base
  have hbel := hon.below h.aown h.base
  have hk : ∀ k, Ra B w va vp k → w'.heap[k]? = w.heap[k]? := fun k hk => hon.keep.block k hk.2.1 hk.2.2.1
  have hR : ∀ k, Ra B w va vp k → Ra B w' va' vp k := fun k hk2 => ⟨hk2.1, Nat.lt_of_lt_of_le hk2.2.1 hbel.size, fun hv => by
    rcases hon.place k hv with h4 | h4
    · exact hk2.2.2.1 h4
    · exact absurd hk2.2.1 (Nat.not_lt_of_le h4), hk2.2.2.2⟩
  refine ⟨va', w', hr, ⟨by rw [List.length_append, cellsL_append]; exact ho, own_kept h.pown hon.keep fun k hk1 hv => ?_, fun d hd => ?_, fun q hq => (h.pok q hq).later hk hR, h.xok.later hk hR, Nat.le_trans h.base hbel.size⟩, hbel⟩
  · obtain ⟨cs, fr, h3⟩ := own_blk h.pown hk1
    exact absurd (own_type h.aown hv h3) (by decide)
  · rcases List.mem_append.1 hd with h5 | h5
    · exact (h.aok d h5).later hk hR
    · exact (hL.ok d h5).later hk hR
end
/-! ### The walk over an index -/
section
variable {bs : List Nat} {fp at' : Nat} {t : T} {X : List T}
abbrev nOf (t : T) : Nat := (res t.val ((res t.val 0).2.1 : Nat)).1
theorem walk_e1 (h : (res t.val 0).2.2 ≠ 0) : walk bs fp at' (t :: X) = .error 2 := by unfold walk; rw [if_pos h]
theorem walk_e2 (h : (res t.val 0).2.2 = 0) (h2 : (res t.val ((res t.val 0).2.1 : Nat)).2.2 ≠ 0 ∨ (res t.val ((res t.val 0).2.1 : Nat)).2.1 ≠ t.val.length ∨ (res t.val 0).1 ≠ at' ∨ fp - at' < nOf t) : walk bs fp at' (t :: X) = .error 2 := by
  unfold walk; rw [if_neg (by omega), if_pos h2]
theorem walk_e3 (h : (res t.val 0).2.2 = 0) (h2 : ¬ ((res t.val ((res t.val 0).2.1 : Nat)).2.2 ≠ 0 ∨ (res t.val ((res t.val 0).2.1 : Nat)).2.1 ≠ t.val.length ∨ (res t.val 0).1 ≠ at' ∨ fp - at' < nOf t)) (h3 : (allB ((bs.drop at').take (nOf t))).2 ≠ 0) :
    walk bs fp at' (t :: X) = .error (inner (allB ((bs.drop at').take (nOf t))).2) := by
  unfold walk; rw [if_neg (by omega), if_neg h2]; dsimp only; rw [if_pos h3]
theorem walk_e4 (h : (res t.val 0).2.2 = 0) (h2 : ¬ ((res t.val ((res t.val 0).2.1 : Nat)).2.2 ≠ 0 ∨ (res t.val ((res t.val 0).2.1 : Nat)).2.1 ≠ t.val.length ∨ (res t.val 0).1 ≠ at' ∨ fp - at' < nOf t)) (h3 : (allB ((bs.drop at').take (nOf t))).2 = 0)
    (h4 : (allB ((bs.drop at').take (nOf t))).1 = [] ∨ t ≠ ptr (lastT (allB ((bs.drop at').take (nOf t))).1) at' (nOf t)) : walk bs fp at' (t :: X) = .error 2 := by
  unfold walk; rw [if_neg (by omega), if_neg h2]; dsimp only; rw [if_neg (fun hh => hh h3), if_pos h4]
theorem walk_go (h : (res t.val 0).2.2 = 0) (h2 : ¬ ((res t.val ((res t.val 0).2.1 : Nat)).2.2 ≠ 0 ∨ (res t.val ((res t.val 0).2.1 : Nat)).2.1 ≠ t.val.length ∨ (res t.val 0).1 ≠ at' ∨ fp - at' < nOf t)) (h3 : (allB ((bs.drop at').take (nOf t))).2 = 0)
    (h4 : ¬ ((allB ((bs.drop at').take (nOf t))).1 = [] ∨ t ≠ ptr (lastT (allB ((bs.drop at').take (nOf t))).1) at' (nOf t))) : walk bs fp at' (t :: X) = (walk bs fp (at' + nOf t) X).map ((allB ((bs.drop at').take (nOf t))).1 :: ·) := by
  conv => lhs; unfold walk
  rw [if_neg (by omega), if_neg h2]; dsimp only; rw [if_neg (fun hh => hh h3), if_neg h4]
/-- What has been walked, and what is left. -/
def Left (bs : List Nat) (fp : Nat) (Xs : List T) (at' : Nat) (rest : List T) (ps : List (List T)) : Prop := walk bs fp 0 Xs = (walk bs fp at' rest).map (ps ++ ·) ∧ fin 0 Xs = fin at' rest
theorem Left.start (bs : List Nat) (fp : Nat) (Xs : List T) : Left bs fp Xs 0 Xs [] := ⟨by cases walk bs fp 0 Xs <;> rfl, rfl⟩
theorem Left.err {Xs rest : List T} {ps : List (List T)} {e : Nat} (h : Left bs fp Xs at' rest ps) (he : walk bs fp at' rest = .error e) : walk bs fp 0 Xs = .error e := by rw [h.1, he]; rfl
theorem Left.next {Xs : List T} {ps : List (List T)} {p : List T} (h : Left bs fp Xs at' (t :: X) ps) (he : walk bs fp at' (t :: X) = (walk bs fp (at' + nOf t) X).map (p :: ·)) : Left bs fp Xs (at' + nOf t) X (ps ++ [p]) := by
  refine ⟨?_, h.2⟩
  rw [h.1, he]
  cases walk bs fp (at' + nOf t) X with
  | error e => rfl
  | ok q => simp [Except.map]
theorem Left.done {Xs : List T} {ps : List (List T)} (h : Left bs fp Xs at' [] ps) : walk bs fp 0 Xs = .ok ps ∧ fin 0 Xs = at' := by
  refine ⟨?_, h.2⟩
  rw [h.1]
  unfold walk
  simp [Except.map]
end
theorem blk_few {a b : Nat} {X : List T} (h : X.length ≤ 1) : blk a X = blk b X := by
  obtain ⟨h1, h2⟩ := same_by (a := a) (b := b) X 0 [] 0 (fun j h1 h2 => by
    have : j = 0 := by omega
    subst this
    simp)
  unfold blk bare
  rw [h1, h2]
/-- What TableAll answers. -/
def Tall (w : World) (bs : List Nat) (e : Ending) (w' : World) : Prop :=
  Below w.heap.size w w' ∧ ∃ (A1 : Option Addr) (c1 : Nat) (L1 : List D) (A2 : Option Addr) (c2 : Nat) (L2 : List D), e = .returned (.tuple #[.slice A1 L1.length c1, .slice A2 L2.length c2, .int .i64 ((tallB bs).2.2 : Nat)]) ∧ L1.map D.t = (tallB bs).1 ∧ L2.map D.t = (tallB bs).2.1 ∧
    Ents w' (fun k => w.heap.size ≤ k ∧ k < w'.heap.size) A1 c1 L1 ∧ Ents w' (fun k => w.heap.size ≤ k ∧ k < w'.heap.size) A2 c2 L2
theorem tall_bad {w w' : World} {bs : List Nat} {n : Nat} (h : tallB bs = ([], [], n)) (hb : Below w.heap.size w w') : Tall w bs (.returned (.tuple #[.slice none 0 0, .slice none 0 0, .int .i64 (n : Int)])) w' :=
  ⟨hb, none, 0, [], none, 0, [], by rw [h]; rfl, by rw [h]; rfl, by rw [h]; rfl, Ents.zero _ _, Ents.zero _ _⟩
end Go.Proofs.YtobjiamdljjkjaaGreat.Tb

/- Plain mathematics of tables: lengths and bytes of what is built. -/
namespace Go.Proofs.YtobjiamdljjkjaaGreat.Tb
set_option linter.unusedVariables false
set_option linter.unusedSimpArgs false
open Go.RowKit Lift Ik Sk Vn Bk Bl Sq
/-- An entry that is right and holds bytes. -/
def TOk (t : T) : Prop := okT t = true ∧ t.k.ok ∧ ∀ c, c ∈ t.val → c < 256
theorem blkT_byte {every : Nat} {ts : List T} (h : ∀ t, t ∈ ts → TOk t) : ∀ x, x ∈ blk every ts → x < 256 := by
  intro x hx
  unfold blk at hx
  rcases List.mem_append.1 hx with h1 | h1
  · unfold bare foot at h1
    rcases List.mem_append.1 h1 with h2 | h2
    · exact body_byte every ts 0 [] h x h2
    · rcases List.mem_append.1 h2 with h3 | h3
      · exact flat4_byte _ x h3
      · exact low_byte _ 4 x h3
  · exact sum4_byte _ x h1
theorem dataT_byte (every : Nat) : ∀ ps : List (List T), (∀ t, t ∈ ps.flatten → TOk t) → ∀ x, x ∈ data every ps → x < 256
  | [], _, x, hx => by simp [data] at hx
  | p :: ps, h, x, hx => by
    rw [List.flatten_cons] at h
    rw [data_cons] at hx
    rcases List.mem_append.1 hx with h1 | h1
    · exact blkT_byte (fun t ht => h t (List.mem_append_left _ ht)) x h1
    · exact dataT_byte every ps (fun t ht => h t (List.mem_append_right _ ht)) x h1
theorem idx_ok {every : Nat} : ∀ (ps : List (List T)) (a : Nat), (∀ p, p ∈ ps → p ≠ []) → (∀ t, t ∈ ps.flatten → TOk t) → a + (data every ps).length < 18446744073709551616 → ∀ x, x ∈ idx every a ps → TOk x
  | [], _, _, _, _, x, hx => by cases hx
  | p :: ps, a, hne, h, hb, x, hx => by
    rw [List.flatten_cons] at h
    rw [data_cons, List.length_append] at hb
    unfold idx at hx
    rcases List.mem_cons.1 hx with rfl | hx
    · obtain ⟨h1, h2, -⟩ := h _ (List.mem_append_left _ (lastT_mem (hne p (List.mem_cons_self ..))))
      refine ⟨ptr_okT h1, ⟨h2.1, h2.2.1, by show (-9223372036854775808 : Int) ≤ 1; decide, by show (1 : Int) ≤ 9223372036854775807; decide⟩, fun c hc => ?_⟩
      rcases List.mem_append.1 hc with h3 | h3
      · exact enc_byte _ (by omega) c h3
      · exact enc_byte _ (by omega) c h3
    · exact idx_ok ps _ (fun q hq => hne q (List.mem_cons_of_mem _ hq)) (fun t ht => h t (List.mem_append_right _ ht)) (by omega) x hx
theorem tabP_byte {every bits : Nat} {ps : List (List T)} (hne : ∀ p, p ∈ ps → p ≠ []) (h : ∀ t, t ∈ ps.flatten → TOk t) (hb : (data every ps).length < 18446744073709551616) : ∀ x, x ∈ tabP every bits ps → x < 256 := by
  intro x hx
  unfold tabP at hx
  dsimp only at hx
  rcases List.mem_append.1 hx with h1 | h1
  · exact dataT_byte every ps h x h1
  · rcases List.mem_append.1 h1 with h2 | h2
    · exact bloomB_byte _ _ x h2
    · rcases List.mem_append.1 h2 with h3 | h3
      · exact blkT_byte (idx_ok ps 0 hne h (by omega)) x h3
      · rcases List.mem_append.1 h3 with h4 | h4
        · unfold tail5 at h4
          simp only [List.mem_append] at h4
          rcases h4 with h | h | h | h | h <;> exact low_byte _ 4 x h
        · exact sum4_byte _ x h4
theorem tabB_byte {size every bits : Int} {ts : List T} (h : ∀ t, t ∈ ts → t.k.ok ∧ ∀ c, c ∈ t.val → c < 256) : ∀ x, x ∈ tabB size every bits ts → x < 256 := by
  by_cases hm : mayT ts = 0
  · obtain ⟨hm1, -, -⟩ := mayT_zero hm
    obtain ⟨hok, -, hn⟩ := may_zero hm1
    have hf : (parts (clampS size) [] ts).flatten = ts := by rw [parts_flat, List.nil_append]
    have hne := parts_some (clampS size) ts []
    have hl := data_le (every := clamp every) _ hne (by rw [hf]; exact hok)
    rw [hf] at hl
    rw [tabB_ok hm]
    exact tabP_byte hne (by rw [hf]; exact fun t ht => ⟨hok t ht, (h t ht).1, (h t ht).2⟩) (by omega)
  · rw [tabB_no hm]; intro x hx; cases hx
theorem tabB_is {size every bits : Int} {ts : List T} (hm : mayT ts = 0) : IsT (tabB size every bits ts) ts := by
  rw [tabB_ok hm]
  exact ⟨hm, clampS size, clamp every, clampB bits, (clampS_in _).1, (clampS_in _).2, (clamp_in _).1, (clamp_in _).2, (clampB_in _).1, (clampB_in _).2, rfl⟩
theorem tabB_len {size every bits : Int} {ts : List T} (hm : mayT ts = 0) (hn : ts.length ≤ 200) : 24 < (tabB size every bits ts).length ∧ (tabB size every bits ts).length ≤ 3000000 := by
  obtain ⟨hm1, -, -⟩ := mayT_zero hm
  obtain ⟨hok, -, -⟩ := may_zero hm1
  have hf : (parts (clampS size) [] ts).flatten = ts := by rw [parts_flat, List.nil_append]
  have hne := parts_some (clampS size) ts []
  have hl := data_le (every := clamp every) _ hne (by rw [hf]; exact hok)
  have h1 := (tab_parts (every := clamp every) (bits := clampB bits) (clampB_in bits).2 hne (by rw [hf]; exact hm1)).1
  have hx := blk_le (every := 1) (ts := idx (clamp every) 0 (parts (clampS size) [] ts)) (fun x hx => by
    obtain ⟨p, a, n, h2, rfl⟩ := idx_mem _ 0 x hx
    exact ptr_okT (hok _ (by rw [← hf]; exact List.mem_flatten.2 ⟨p, h2, lastT_mem (hne p h2)⟩)))
  have h3 := flat_len _ hne
  rw [hf] at hl h3
  rw [idx_len] at hx
  have hfl : (bloomB (users none (parts (clampS size) [] ts).flatten) (clampB bits)).length ≤ 60000 := by
    rw [bloomB_len, hf]
    have h4 := users_len ts none
    have h5 : (users none ts).length * clampB bits ≤ 10000 * 40 := Nat.mul_le_mul (by omega) (clampB_in bits).2
    unfold mOf
    omega
  have hf1 : 1 ≤ (bloomB (users none (parts (clampS size) [] ts).flatten) (clampB bits)).length := by rw [bloomB_len]; omega
  rw [tabB_ok hm]
  show 24 < (tabP _ _ _).length ∧ (tabP _ _ _).length ≤ _
  rw [h1]
  omega
theorem tabB_max {size every bits : Int} {ts : List T} (hn : ts.length ≤ 200) : (tabB size every bits ts).length ≤ 3000000 := by
  by_cases hm : mayT ts = 0
  · exact (tabB_len hm hn).2
  · rw [tabB_no hm]; simp
theorem tabB_tall {size every bits : Int} {ts : List T} (hm : mayT ts = 0) : ∃ ev sz, tallB (tabB size every bits ts) = (ts, idx ev 0 (parts sz [] ts), 0) := by
  obtain ⟨ev, sz, -, -, h, -⟩ := tallB_ok (tabB_is (size := size) (every := every) (bits := bits) hm)
  exact ⟨ev, sz, h⟩
theorem mayT_le (ts : List T) : mayT ts ≤ 10 := by
  unfold mayT
  have := may_le ts
  split
  · exact this
  · split
    · omega
    · split <;> omega
/-- What was built by given numbers passes all tests. -/
theorem tab_ctx {size every bits : Nat} {ts : List T} (hmt : mayT ts = 0) (s1 : 1 ≤ size) (s2 : size ≤ 1048576) (e1 : 1 ≤ every) (e2 : every ≤ 100) (b1 : 1 ≤ bits) (b2 : bits ≤ 40) :
    Ctx (tab size every bits ts) (idx every 0 (parts size [] ts)) (parts size [] ts) ∧ Rest (tab size every bits ts) (idx every 0 (parts size [] ts)) (parts size [] ts) := by
  obtain ⟨hm, ht, hne0⟩ := mayT_zero hmt
  have hfl : (parts size [] ts).flatten = ts := by rw [parts_flat, List.nil_append]
  have hne := parts_some size ts []
  have hfit := parts_fits s1 ts
  have hpn : parts size [] ts ≠ [] := fun h => by rw [h] at hfl; exact hne0 hfl.symm
  unfold tab
  rw [← hfl] at hm ht
  generalize parts size [] ts = ps at *
  obtain ⟨p1, p2, ⟨p30, p34, p38, p312, p316⟩, p4, p5, p6, p7⟩ := tab_parts (every := every) b2 hne hm
  have hix : ixb (tabP every bits ps) = blk 1 (idx every 0 ps) := by unfold ixb; rw [p38, p312, p6]
  have hmi := idx_may (every := every) 0 hne hm ht
  obtain ⟨R, hR⟩ := p4
  have hw := walk_built (bs := tabP every bits ps) (R := R) (fp := (data every ps).length) ⟨e1, e2⟩ ps 0 (fun p hp => ⟨hne p hp, part_may hm p hp⟩) (by rw [List.drop_zero, hR]) (by rw [Nat.zero_add]) (by omega)
  have hfin := walk_data _ 0 ps hw (Nat.zero_le _) (by omega) (by rw [List.drop_zero]; exact ⟨R, hR⟩)
  refine ⟨⟨by omega, p2, by omega, by omega, ?_, ?_, hix.symm, by rw [p30]; exact hw⟩, ?_, hm, ht, p316, (sized_iff hne).2 ⟨size, s1, s2, hfit⟩, ⟨every, e1, e2, ⟨R, hR⟩⟩, bits, b1, b2, ?_⟩
  · rw [hix]
    exact allB_ok ⟨hmi, 1, Nat.le_refl _, by omega, rfl⟩
  · intro h
    have := idx_len every ps 0
    rw [h] at this
    exact hpn (List.length_eq_zero_iff.1 this.symm)
  · rw [p30, hfin.2.1, Nat.zero_add]
  · rw [p30, p34, p5]
theorem tabB_told {size every bits : Int} {ts : List T} (hm : mayT ts = 0) : tallB (tabB size every bits ts) = (ts, idx (clamp every) 0 (parts (clampS size) [] ts), 0) ∧ Ctx (tabB size every bits ts) (idx (clamp every) 0 (parts (clampS size) [] ts)) (parts (clampS size) [] ts) := by
  obtain ⟨c, r⟩ := tab_ctx (size := clampS size) (every := clamp every) (bits := clampB bits) hm (clampS_in _).1 (clampS_in _).2 (clamp_in _).1 (clamp_in _).2 (clampB_in _).1 (clampB_in _).2
  have hf : (parts (clampS size) [] ts).flatten = ts := by rw [parts_flat, List.nil_append]
  have h := tabB_is (size := size) (every := every) (bits := bits) hm
  rw [tabB_ok hm] at h ⊢
  refine ⟨?_, c⟩
  rw [tallB_ctx c (by rw [hf]; exact h), hf]
theorem isT_few {bs : List Nat} {ts : List T} (h : IsT bs ts) : ts.length ≤ 10000 := (may_zero (mayT_zero h.1).1).2.2
theorem tallB_few (bs : List Nat) : (tallB bs).1.length ≤ 10000 := by
  unfold tallB
  split
  · exact Nat.zero_le _
  · split
    · exact Nat.zero_le _
    · split
      · exact Nat.zero_le _
      · split
        · exact Nat.zero_le _
        · split
          · exact Nat.zero_le _
          · split
            · exact Nat.zero_le _
            · split
              · rename_i h; exact isT_few h
              · exact Nat.zero_le _
theorem tallB_le (bs : List Nat) : (tallB bs).2.2 ≤ 10 := by
  have hw : ∀ (X : List T) (a : Nat) (e : Nat), walk bs (ft bs 0) a X = .error e → e ≤ 10 := by
    intro X
    induction X with
    | nil => intro a e h; unfold walk at h; cases h
    | cons t X ih =>
      intro a e h
      unfold walk at h
      split at h
      · injection h with h; omega
      · split at h
        · injection h with h; omega
        · dsimp only at h
          split at h
          · injection h with h
            rw [← h]; unfold inner; split <;> omega
          · split at h
            · injection h with h; omega
            · cases hq : walk bs (ft bs 0) (a + (Vt.res t.val ((Vt.res t.val 0).2.1 : Nat)).1) X with
              | error e2 =>
                rw [hq] at h
                injection h with h
                rw [← h]
                exact ih _ _ hq
              | ok q => rw [hq] at h; cases h
  unfold tallB
  split
  · show 4 ≤ 10; decide
  · split
    · show 5 ≤ 10; decide
    · split
      · show 2 ≤ 10; decide
      · split
        · show inner _ ≤ 10
          unfold inner; split <;> omega
        · split
          · show 2 ≤ 10; decide
          · split
            · rename_i e h; exact hw _ _ _ h
            · split
              · exact Nat.zero_le _
              · show 2 ≤ 10; decide
end Go.Proofs.YtobjiamdljjkjaaGreat.Tb

/- Plain mathematics of tables: the project's own answer to bytes, its sizes and intervals; where it is the document's. -/
namespace Go.Proofs.YtobjiamdljjkjaaGreat.Tb
set_option linter.unusedVariables false
set_option linter.unusedSimpArgs false
open Go.RowKit Lift Ik Sk Vn Bk Bl Sq
open Vt (res)

/-! ### A table with a filter of whatever bytes -/
def tabF (size every : Nat) (F : List Nat) (ts : List T) : List Nat :=
  let ps := parts size [] ts
  let e := tail5 (data every ps).length F.length ((data every ps).length + F.length) (blk 1 (idx every 0 ps)).length ts.length
  data every ps ++ (F ++ (blk 1 (idx every 0 ps) ++ (e ++ sum4 e)))
theorem tab_F (size every bits : Nat) (ts : List T) : tab size every bits ts = tabF size every (bloomB (users none ts) bits) ts := by
  have h : (parts size [] ts).flatten = ts := by rw [parts_flat, List.nil_append]
  unfold tab tabP tabF
  dsimp only
  rw [h]

/-! ### The interval that a block tells -/
theorem evB_blk {every : Nat} (h1 : 1 ≤ every) {ts : List T} (hm : may ts = 0) (hs : (blk every ts).length < 4294967296) : evB (blk every ts) = if ts.length ≤ every then max ts.length 1 else every := by
  unfold evB
  rw [blk_spots hm, blk_rest hm hs]
  unfold ival
  have hel := ends_len every ts 0 [] 0 h1
  have e2 : (0 + every - 1) / every = 0 := Nat.div_eq_of_lt (by omega)
  rw [e2, Nat.sub_zero, Nat.zero_add] at hel
  by_cases hl : ts.length ≤ every
  · have h2 : (ends every 0 [] 0 ts).length < 2 := by
      rw [hel, Nat.div_lt_iff_lt_mul (by omega)]
      omega
    rw [if_pos h2, if_pos hl, offs_len]
  · have h2 : ¬ (ends every 0 [] 0 ts).length < 2 := by
      rw [hel, Nat.div_lt_iff_lt_mul (by omega)]
      omega
    rw [if_neg h2, if_neg hl]
    have h3 := ends_second h1 ts
    obtain ⟨x, hx⟩ : ∃ x, (ends every 0 [] 0 ts)[1]? = some x := ⟨_, List.getElem?_eq_getElem (by omega)⟩
    have h4 : (ends every 0 [] 0 ts).getD 1 0 = x := by rw [List.getD_eq_getElem?_getD, hx]; rfl
    rw [h4, count_rise _ every x (offs_rise every ts 0 [] 0).1 (by rw [← h3]; exact hx)]
theorem blk_in {a b : Nat} {X : List T} (ha : X.length ≤ a) (hb : X.length ≤ b) : blk a X = blk b X := by
  obtain ⟨h1, h2⟩ := same_by (a := a) (b := b) X 0 [] 0 (fun j h1 h2 => by
    by_cases hz : j = 0
    · subst hz; simp
    · rw [Nat.mod_eq_of_lt (by omega), Nat.mod_eq_of_lt (by omega)])
  unfold blk bare
  rw [h1, h2]
/-- An index block is built by the interval 1, and only then its interval is 1. -/
theorem evB_one {bs : List Nat} (h : (allB bs).2 = 0) (hs : bs.length < 4294967296) : evB bs = 1 ↔ blk 1 (allB bs).1 = bs := by
  obtain ⟨hm, ev, e1, e2, hev⟩ := allB_is h
  have h1 := evB_blk e1 hm (by rw [hev]; exact hs)
  rw [hev] at h1
  constructor
  · intro h2
    rw [h2] at h1
    by_cases hl : (allB bs).1.length ≤ ev
    · rw [if_pos hl] at h1
      conv => rhs; rw [← hev]
      exact blk_in (by omega) hl
    · rw [if_neg hl] at h1
      conv => rhs; rw [← hev]
      rw [← h1]
  · intro h2
    have h3 := evB_blk (every := 1) (Nat.le_refl _) hm (by rw [h2]; exact hs)
    rw [h2] at h3
    rw [h3]
    split <;> omega
/-- The greatest of the intervals of blocks. -/
def evs (bs : List Nat) : Nat → List T → Nat → Nat
  | _, [], m => m
  | at', t :: X, m => evs bs (at' + nOf t) X (max m (evB ((bs.drop at').take (nOf t))))
def evP (every : Nat) (p : List T) : Nat := if p.length ≤ every then max p.length 1 else every
theorem evs_idx {bs R : List Nat} {every : Nat} (he : 1 ≤ every) : ∀ (ps : List (List T)) (at' m : Nat), (∀ p, p ∈ ps → p ≠ [] ∧ may p = 0) → bs.drop at' = data every ps ++ R → at' + (data every ps).length < 4294967296 →
    evs bs at' (idx every at' ps) m = ps.foldl (fun m p => max m (evP every p)) m
  | [], at', m, _, _, _ => by unfold idx evs; rfl
  | p :: ps, at', m, hp, hd, hs => by
    obtain ⟨hne, hm⟩ := hp p (List.mem_cons_self ..)
    rw [data_cons] at hd hs
    rw [List.length_append] at hs
    obtain ⟨r1, r2⟩ := ptr_res (lastT p) (at' := at') (n := (blk every p).length) (by omega) (by omega)
    have hn : nOf (ptr (lastT p) at' (blk every p).length) = (blk every p).length := by
      unfold nOf
      rw [r1]
      dsimp only
      rw [r2]
    have hsl : (bs.drop at').take (blk every p).length = blk every p := by rw [hd, List.append_assoc, List.take_left]
    have ih := evs_idx (bs := bs) (R := R) he ps (at' + (blk every p).length) (max m (evP every p)) (fun q hq => hp q (List.mem_cons_of_mem _ hq)) (by
      have := congrArg (List.drop (blk every p).length) hd
      rw [List.drop_drop, List.append_assoc, List.drop_left] at this
      exact this) (by omega)
    unfold idx evs
    rw [hn, hsl, evB_blk he hm (by omega), List.foldl_cons]
    exact ih
theorem fold_max {f : List T → Nat} : ∀ (ps : List (List T)) (m s : Nat), ps.foldl (fun m p => max m (f p)) m ≤ s ↔ m ≤ s ∧ ∀ p, p ∈ ps → f p ≤ s
  | [], m, s => by simp
  | p :: ps, m, s => by
    rw [List.foldl_cons, fold_max ps]
    constructor
    · rintro ⟨h1, h2⟩
      exact ⟨by omega, fun q hq => (List.mem_cons.1 hq).elim (fun e => by rw [e]; omega) (h2 q)⟩
    · rintro ⟨h1, h2⟩
      exact ⟨by have := h2 p (List.mem_cons_self ..); omega, fun q hq => h2 q (List.mem_cons_of_mem _ hq)⟩
/-- The greatest of them builds all blocks again. -/
theorem blk_max {every : Nat} (h1 : 1 ≤ every) (h2 : every ≤ 100) {ps : List (List T)} {p : List T} (hp : p ∈ ps) : blk (clamp ((ps.foldl (fun m p => max m (evP every p)) 0 : Nat) : Int)) p = blk every p := by
  obtain ⟨E, hE⟩ : ∃ E, E = ps.foldl (fun m p => max m (evP every p)) 0 := ⟨_, rfl⟩
  rw [← hE]
  have ha := ((fold_max (f := evP every) ps 0 E).1 (by rw [hE]; exact Nat.le_refl _)).2 p hp
  have hb : E ≤ every := by
    rw [hE]
    refine (fold_max (f := evP every) ps 0 every).2 ⟨Nat.zero_le _, fun q _ => ?_⟩
    unfold evP
    split <;> omega
  unfold evP at ha
  by_cases he : E = every
  · rw [he, clamp_nat h1 h2]
  · split at ha
    · rename_i hl
      rw [clamp_nat (by omega) (by omega)]
      exact blk_in (by omega) hl
    · omega
theorem data_same {a b : Nat} (ps : List (List T)) : (∀ p, p ∈ ps → blk a p = blk b p) → data a ps = data b ps ∧ ∀ at', idx a at' ps = idx b at' ps := by
  induction ps with
  | nil => exact fun _ => ⟨by unfold data; rw [List.flatMap_nil, List.flatMap_nil], fun _ => by unfold idx; rfl⟩
  | cons p ps ih =>
    intro h
    obtain ⟨h1, h2⟩ := ih fun q hq => h q (List.mem_cons_of_mem _ hq)
    have h3 := h p (List.mem_cons_self ..)
    refine ⟨by rw [data_cons, data_cons, h3, h1], fun at' => ?_⟩
    show ptr (lastT p) at' (blk a p).length :: idx a (at' + (blk a p).length) ps = ptr (lastT p) at' (blk b p).length :: idx b (at' + (blk b p).length) ps
    rw [h3, h2]
theorem lowS_zero {ps : List (List T)} (h : ps ≠ []) : lowS ps 0 = lowS ps 1 := by
  cases ps with
  | nil => exact absurd rfl h
  | cons p ps =>
    have h1 : max 0 (weigh p.dropLast + 1) = max 1 (weigh p.dropLast + 1) := by omega
    show lowS ps (max 0 (weigh p.dropLast + 1)) = lowS ps (max 1 (weigh p.dropLast + 1))
    rw [h1]

/-! ### The project's own answer: the blocks may reach up to the index -/
open Classical in
noncomputable def tallO (bs : List Nat) : List T × List T × Nat :=
  if bs.length < 24 then ([], [], 4) else if bs.drop (bs.length - 4) ≠ sum4 ((bs.drop (bs.length - 24)).take 20) then ([], [], 5) else
  if ft bs 0 + ft bs 4 ≠ ft bs 8 ∨ ft bs 8 + ft bs 12 ≠ bs.length - 24 then ([], [], 2) else
  if (allB (ixb bs)).2 ≠ 0 then ([], [], inner (allB (ixb bs)).2) else
  if blk 1 (allB (ixb bs)).1 ≠ ixb bs then ([], [], 2) else
  match walk bs (ft bs 8) 0 (allB (ixb bs)).1 with
  | .error e => ([], [], e)
  | .ok ps => if IsT bs ps.flatten then (ps.flatten, (allB (ixb bs)).1, 0) else ([], [], 2)
/-- The tests that bytes have passed before everything else is looked at. -/
structure CtxO (bs : List Nat) (X : List T) (ps : List (List T)) : Prop where
  h24 : ¬ bs.length < 24
  sum : bs.drop (bs.length - 4) = sum4 ((bs.drop (bs.length - 24)).take 20)
  f1 : ft bs 0 + ft bs 4 = ft bs 8
  f2 : ft bs 8 + ft bs 12 = bs.length - 24
  ix : allB (ixb bs) = (X, 0)
  one : blk 1 X = ixb bs
  walk : walk bs (ft bs 8) 0 X = .ok ps
theorem tallO_short {bs : List Nat} (h : bs.length < 24) : tallO bs = ([], [], 4) := by unfold tallO; rw [if_pos h]
theorem tallO_sum {bs : List Nat} (h : ¬ bs.length < 24) (h2 : bs.drop (bs.length - 4) ≠ sum4 ((bs.drop (bs.length - 24)).take 20)) : tallO bs = ([], [], 5) := by unfold tallO; rw [if_neg h, if_pos h2]
theorem tallO_foot {bs : List Nat} (h : ¬ bs.length < 24) (h2 : bs.drop (bs.length - 4) = sum4 ((bs.drop (bs.length - 24)).take 20)) (h3 : ft bs 0 + ft bs 4 ≠ ft bs 8 ∨ ft bs 8 + ft bs 12 ≠ bs.length - 24) : tallO bs = ([], [], 2) := by
  unfold tallO; rw [if_neg h, if_neg (Classical.not_not.2 h2), if_pos h3]
theorem tallO_ix {bs : List Nat} (h : ¬ bs.length < 24) (h2 : bs.drop (bs.length - 4) = sum4 ((bs.drop (bs.length - 24)).take 20)) (h3 : ft bs 0 + ft bs 4 = ft bs 8) (h4 : ft bs 8 + ft bs 12 = bs.length - 24) (h5 : (allB (ixb bs)).2 ≠ 0) :
    tallO bs = ([], [], inner (allB (ixb bs)).2) := by
  unfold tallO; rw [if_neg h, if_neg (Classical.not_not.2 h2), if_neg (by omega), if_pos h5]
theorem tallO_one {bs : List Nat} (h : ¬ bs.length < 24) (h2 : bs.drop (bs.length - 4) = sum4 ((bs.drop (bs.length - 24)).take 20)) (h3 : ft bs 0 + ft bs 4 = ft bs 8) (h4 : ft bs 8 + ft bs 12 = bs.length - 24) (h5 : (allB (ixb bs)).2 = 0)
    (h6 : blk 1 (allB (ixb bs)).1 ≠ ixb bs) : tallO bs = ([], [], 2) := by
  unfold tallO; rw [if_neg h, if_neg (Classical.not_not.2 h2), if_neg (by omega), if_neg (by omega), if_pos h6]
theorem tallO_walk {bs : List Nat} (h : ¬ bs.length < 24) (h2 : bs.drop (bs.length - 4) = sum4 ((bs.drop (bs.length - 24)).take 20)) (h3 : ft bs 0 + ft bs 4 = ft bs 8) (h4 : ft bs 8 + ft bs 12 = bs.length - 24) (h5 : (allB (ixb bs)).2 = 0)
    (h7 : blk 1 (allB (ixb bs)).1 = ixb bs) {e : Nat} (h9 : walk bs (ft bs 8) 0 (allB (ixb bs)).1 = .error e) : tallO bs = ([], [], e) := by
  unfold tallO; rw [if_neg h, if_neg (Classical.not_not.2 h2), if_neg (by omega), if_neg (by omega), if_neg (Classical.not_not.2 h7), h9]
theorem tallO_rest {bs : List Nat} {X : List T} {ps : List (List T)} (c : CtxO bs X ps) (h : ¬ IsT bs ps.flatten) : tallO bs = ([], [], 2) := by
  have hix := c.ix
  unfold tallO
  rw [if_neg c.h24, if_neg (Classical.not_not.2 c.sum), if_neg (by have := c.f1; have := c.f2; omega), hix, if_neg (by simp), if_neg (Classical.not_not.2 c.one)]
  dsimp only
  rw [c.walk]
  dsimp only
  rw [if_neg h]
theorem tallO_ctx {bs : List Nat} {X : List T} {ps : List (List T)} (c : CtxO bs X ps) (h : IsT bs ps.flatten) : tallO bs = (ps.flatten, X, 0) := by
  have hix := c.ix
  unfold tallO
  rw [if_neg c.h24, if_neg (Classical.not_not.2 c.sum), if_neg (by have := c.f1; have := c.f2; omega), hix, if_neg (by simp), if_neg (Classical.not_not.2 c.one)]
  dsimp only
  rw [c.walk]
  dsimp only
  rw [if_pos h]

/-! ### The walk, by two limits -/
theorem walk_mono {bs : List Nat} {fp fq : Nat} (h : fp ≤ fq) : ∀ (X : List T) (at' : Nat) (ps : List (List T)), walk bs fp at' X = .ok ps → walk bs fq at' X = .ok ps
  | [], at', ps, hw => by unfold walk at hw ⊢; exact hw
  | t :: X, at', ps, hw => by
    by_cases h1 : (res t.val 0).2.2 = 0
    · by_cases h2 : (res t.val ((res t.val 0).2.1 : Nat)).2.2 ≠ 0 ∨ (res t.val ((res t.val 0).2.1 : Nat)).2.1 ≠ t.val.length ∨ (res t.val 0).1 ≠ at' ∨ fp - at' < nOf t
      · rw [walk_e2 h1 h2] at hw; cases hw
      · by_cases h3 : (allB ((bs.drop at').take (nOf t))).2 = 0
        · by_cases h4 : (allB ((bs.drop at').take (nOf t))).1 = [] ∨ t ≠ ptr (lastT (allB ((bs.drop at').take (nOf t))).1) at' (nOf t)
          · rw [walk_e4 h1 h2 h3 h4] at hw; cases hw
          · rw [walk_go h1 h2 h3 h4] at hw
            rw [walk_go h1 (by omega) h3 h4]
            cases hq : walk bs fp (at' + nOf t) X with
            | error e => rw [hq] at hw; cases hw
            | ok qs =>
              rw [walk_mono h X _ _ hq]
              rw [hq] at hw
              exact hw
        · rw [walk_e3 h1 h2 h3] at hw; cases hw
    · rw [walk_e1 h1] at hw; cases hw
theorem walk_idx {bs : List Nat} {fp fq every : Nat} (hp : fp < 18446744073709551616) : ∀ (ps : List (List T)) (at' : Nat), at' + (data every ps).length ≤ fp → at' + (data every ps).length ≤ fq → walk bs fp at' (idx every at' ps) = walk bs fq at' (idx every at' ps)
  | [], at', _, _ => by unfold idx walk; rfl
  | p :: ps, at', h1, h2 => by
    rw [data_cons, List.length_append] at h1 h2
    obtain ⟨r1, r2⟩ := ptr_res (lastT p) (at' := at') (n := (blk every p).length) (by omega) (by omega)
    have ih := walk_idx (bs := bs) (fq := fq) (every := every) hp ps (at' + (blk every p).length) (by omega) (by omega)
    have hn : nOf (ptr (lastT p) at' (blk every p).length) = (blk every p).length := by
      unfold nOf
      rw [r1]
      dsimp only
      rw [r2]
    have g1 : (res (ptr (lastT p) at' (blk every p).length).val 0).2.2 = 0 := by rw [r1]
    have hc : ∀ f, at' + (blk every p).length ≤ f → ¬ ((res (ptr (lastT p) at' (blk every p).length).val ((res (ptr (lastT p) at' (blk every p).length).val 0).2.1 : Nat)).2.2 ≠ 0 ∨ (res (ptr (lastT p) at' (blk every p).length).val ((res (ptr (lastT p) at' (blk every p).length).val 0).2.1 : Nat)).2.1 ≠ (ptr (lastT p) at' (blk every p).length).val.length ∨
        (res (ptr (lastT p) at' (blk every p).length).val 0).1 ≠ at' ∨ f - at' < nOf (ptr (lastT p) at' (blk every p).length)) := fun f hf => by
      rw [hn, r1]
      dsimp only
      rw [r2]
      dsimp only
      rintro (h | h | h | h)
      · exact h rfl
      · exact h rfl
      · exact h rfl
      · omega
    have i1 : idx every at' (p :: ps) = ptr (lastT p) at' (blk every p).length :: idx every (at' + (blk every p).length) ps := rfl
    rw [i1]
    by_cases h3 : (allB ((bs.drop at').take (nOf (ptr (lastT p) at' (blk every p).length)))).2 = 0
    · by_cases h4 : (allB ((bs.drop at').take (nOf (ptr (lastT p) at' (blk every p).length)))).1 = [] ∨ ptr (lastT p) at' (blk every p).length ≠ ptr (lastT (allB ((bs.drop at').take (nOf (ptr (lastT p) at' (blk every p).length)))).1) at' (nOf (ptr (lastT p) at' (blk every p).length))
      · rw [walk_e4 g1 (hc fp (by omega)) h3 h4, walk_e4 g1 (hc fq (by omega)) h3 h4]
      · rw [walk_go g1 (hc fp (by omega)) h3 h4, walk_go g1 (hc fq (by omega)) h3 h4, hn, ih]
    · rw [walk_e3 g1 (hc fp (by omega)) h3, walk_e3 g1 (hc fq (by omega)) h3]
theorem ctxO_of {bs : List Nat} {X : List T} {ps : List (List T)} (c : Ctx bs X ps) : CtxO bs X ps := ⟨c.h24, c.sum, c.f1, c.f2, c.ix, c.one, walk_mono (by have := c.f1; omega) _ _ _ c.walk⟩
theorem ctxO_unique {bs : List Nat} {X Y : List T} {ps qs : List (List T)} (c : CtxO bs X ps) (d : CtxO bs Y qs) : X = Y ∧ ps = qs := by
  have h1 := c.ix
  rw [d.ix] at h1
  have h2 : Y = X := congrArg Prod.fst h1
  subst h2
  have h3 := c.walk
  rw [d.walk] at h3
  injection h3 with h3
  exact ⟨rfl, h3.symm⟩
/-- A filter of some bits. -/
def filB (keys : List (List Nat)) (F : List Nat) : Prop := ∃ bits, 1 ≤ bits ∧ bits ≤ 40 ∧ bloomB keys bits = F
/-- What the project reckons from the blocks, and whether it comes to the same bytes. -/
theorem makes_iff {bs : List Nat} {X : List T} {ps : List (List T)} (c : CtxO bs X ps) :
    (mayT ps.flatten = 0 ∧ filB (users none ps.flatten) ((bs.drop (ft bs 0)).take (ft bs 4)) ∧ tabF (clampS ((lowS ps 0 : Nat) : Int)) (clamp ((evs bs 0 X 0 : Nat) : Int)) ((bs.drop (ft bs 0)).take (ft bs 4)) ps.flatten = bs) ↔ IsT bs ps.flatten := by
  constructor
  · rintro ⟨hm, ⟨bits, b1, b2, hb⟩, ht⟩
    rw [← hb, ← tab_F] at ht
    exact ⟨hm, _, _, bits, (clampS_in _).1, (clampS_in _).2, (clamp_in _).1, (clamp_in _).2, b1, b2, ht⟩
  · rintro ⟨hm, size, every, bits, s1, s2, e1, e2, b1, b2, ht⟩
    obtain ⟨c2, r⟩ := tab_ctx hm s1 s2 e1 e2 b1 b2
    have hfl : (parts size [] ps.flatten).flatten = ps.flatten := by rw [parts_flat, List.nil_append]
    have hne := parts_some size ps.flatten []
    have hpar := tab_parts (every := every) (ps := parts size [] ps.flatten) b2 hne (by rw [hfl]; exact (mayT_zero hm).1)
    have htp : tabP every bits (parts size [] ps.flatten) = bs := ht
    rw [ht] at c2
    rw [htp] at hpar
    obtain ⟨hX, hps⟩ := ctxO_unique c (ctxO_of c2)
    obtain ⟨p1, -, ⟨p30, p34, -, -, -⟩, ⟨R, hR⟩, p5, -, p7⟩ := hpar
    rw [hfl] at p34 p5
    have hF : (bs.drop (ft bs 0)).take (ft bs 4) = bloomB (users none ps.flatten) bits := by rw [p30, p34, p5]
    have hfit := parts_fits s1 ps.flatten
    rw [← hps] at hfit hne hR p1
    have hpn : ps ≠ [] := fun h => (mayT_zero hm).2.2 (by rw [h]; rfl)
    have hlow : 1 ≤ lowS ps 0 ∧ lowS ps 0 ≤ 1048576 ∧ parts (lowS ps 0) [] ps.flatten = ps := by
      rw [lowS_zero hpn]
      have h1 := (lowS_le ps 1 (lowS ps 1)).1 (Nat.le_refl _)
      obtain ⟨h4, h5⟩ := (fits_iff _ _).1 hfit
      have h2 : lowS ps 1 ≤ size := (lowS_le ps 1 size).2 ⟨s1, fun p hp => (h4 p hp).2⟩
      exact ⟨h1.1, by omega, fits_parts h1.1 ps ((fits_iff _ _).2 ⟨fun p hp => ⟨hne p hp, h1.2 p hp⟩, fun p hp => Nat.le_trans h2 (h5 p hp)⟩)⟩
    obtain ⟨l1, l2, l3⟩ := hlow
    have hcs : clampS ((lowS ps 0 : Nat) : Int) = lowS ps 0 := by unfold clampS; omega
    have hev : evs bs 0 X 0 = ps.foldl (fun m p => max m (evP every p)) 0 := by
      rw [hX, ← hps]
      exact evs_idx (R := R) e1 ps 0 0 (fun p hp => ⟨hne p hp, part_may (mayT_zero hm).1 p hp⟩) (by rw [List.drop_zero, hR]) (by omega)
    obtain ⟨d1, d2⟩ := data_same ps fun p hp => blk_max e1 e2 hp
    refine ⟨hm, ⟨bits, b1, b2, hF.symm⟩, ?_⟩
    rw [hF, hcs, hev]
    unfold tabF
    dsimp only
    rw [l3, d1, d2]
    rw [tab_F] at ht
    unfold tabF at ht
    dsimp only at ht
    rw [← hps] at ht
    exact ht
/-! ### Where both answers are one -/
theorem same_short {bs : List Nat} (h : bs.length < 24) : tallO bs = tallB bs := by rw [tallO_short h, tallB_short h]
theorem same_is {bs : List Nat} {ts : List T} (h : IsT bs ts) : tallO bs = tallB bs := by
  obtain ⟨ps, every, size, c, -, -, hf, -⟩ := isT_ctx h
  rw [tallO_ctx (ctxO_of c) (by rw [hf]; exact h), tallB_ctx c (by rw [hf]; exact h)]
theorem same_tab {size every bits : Int} {ts : List T} : tallO (tabB size every bits ts) = tallB (tabB size every bits ts) := by
  by_cases hm : mayT ts = 0
  · exact same_is (tabB_is hm)
  · rw [tabB_no hm]; exact same_short (by simp)
theorem allB_five {bs : List Nat} (h : allB bs = ([], 5)) (h8 : ¬ bs.length < 8) : bs.drop (bs.length - 4) ≠ sum4 (bs.take (bs.length - 4)) := fun hs => by
  by_cases hb : ∃ ts, IsB bs ts
  · obtain ⟨ts, hb⟩ := hb
    rw [allB_ok hb] at h
    cases h
  · rw [allB_bad h8 hs hb] at h
    cases h
/-- A byte of a table is turned. -/
theorem same_turned {bs : List Nat} {ts : List T} {p x y : Nat} (h : IsT bs ts) (hb : ∀ c, c ∈ bs → c < 256) (hp : bs[p]? = some x) (hy : y < 256) (hne : y ≠ x) : tallO (bs.set p y) = tallB (bs.set p y) := by
  obtain ⟨hm, size, every, bits, s1, s2, e1, e2, b1, b2, ht⟩ := h
  obtain ⟨c, -⟩ := tab_ctx hm s1 s2 e1 e2 b1 b2
  have hfl : (parts size [] ts).flatten = ts := by rw [parts_flat, List.nil_append]
  have hpar := tab_parts (every := every) (ps := parts size [] ts) b2 (parts_some size ts []) (by rw [hfl]; exact (mayT_zero hm).1)
  have htp : tabP every bits (parts size [] ts) = bs := ht
  rw [ht] at c
  rw [htp] at hpar
  obtain ⟨p1, -, ⟨p30, -, -, -, -⟩, -, -, -, hlen⟩ := hpar
  generalize parts size [] ts = ps at *
  obtain ⟨hlt, hx⟩ := List.getElem?_eq_some_iff.1 hp
  have h24 := c.h24
  have f1 := c.f1
  have f2 := c.f2
  have hl : (bs.set p y).length = bs.length := List.length_set ..
  obtain ⟨z, hz⟩ : ∃ z, z = bs.length - 24 := ⟨_, rfl⟩
  have hzl : (bs.drop z).length = 24 := by rw [List.length_drop]; omega
  by_cases hpz : p < z
  · have hft : ∀ i, ft (bs.set p y) i = ft bs i := fun i => by
      unfold ft
      rw [hl, List.drop_set_of_lt (by omega)]
    have hs1 : (bs.set p y).drop ((bs.set p y).length - 4) = sum4 (((bs.set p y).drop ((bs.set p y).length - 24)).take 20) := by
      rw [hl, List.drop_set_of_lt (by omega), List.drop_set_of_lt (by omega)]
      exact c.sum
    have g1 : ft (bs.set p y) 0 + ft (bs.set p y) 4 = ft (bs.set p y) 8 := by rw [hft, hft, hft]; exact f1
    have g2 : ft (bs.set p y) 8 + ft (bs.set p y) 12 = (bs.set p y).length - 24 := by rw [hft, hft, hl]; exact f2
    by_cases hpi : p < ft bs 8
    · have hix : ixb (bs.set p y) = ixb bs := by
        unfold ixb
        rw [hft, hft, List.drop_set_of_lt hpi]
      have h5 : (allB (ixb (bs.set p y))).2 = 0 := by rw [hix, c.ix]
      have h7 : blk 1 (allB (ixb (bs.set p y))).1 = ixb (bs.set p y) := by rw [hix, c.ix]; exact c.one
      have h6 : (allB (ixb (bs.set p y))).1 ≠ [] := by rw [hix, c.ix]; exact c.ne
      have hX : (allB (ixb (bs.set p y))).1 = idx every 0 ps := by rw [hix, c.ix]
      have hd : (data every ps).length = ft bs 0 := p30.symm
      have hw : walk (bs.set p y) (ft (bs.set p y) 0) 0 (allB (ixb (bs.set p y))).1 = walk (bs.set p y) (ft (bs.set p y) 8) 0 (allB (ixb (bs.set p y))).1 := by
        rw [hX]
        exact walk_idx (by rw [hft]; omega) ps 0 (by rw [hft]; omega) (by rw [hft]; omega)
      cases hwk : walk (bs.set p y) (ft (bs.set p y) 8) 0 (allB (ixb (bs.set p y))).1 with
      | error e =>
        rw [tallO_walk (by rw [hl]; exact h24) hs1 g1 g2 h5 h7 hwk, tallB_walk (by rw [hl]; exact h24) hs1 g1 g2 h5 h6 h7 (hw.trans hwk)]
      | ok qs =>
        have hXp : allB (ixb (bs.set p y)) = ((allB (ixb (bs.set p y))).1, 0) := by rw [← h5]
        have cB : Ctx (bs.set p y) (allB (ixb (bs.set p y))).1 qs := ⟨by rw [hl]; exact h24, hs1, g1, g2, hXp, h6, h7, hw.trans hwk⟩
        by_cases hT : IsT (bs.set p y) qs.flatten
        · rw [tallO_ctx (ctxO_of cB) hT, tallB_ctx cB hT]
        · rw [tallO_rest (ctxO_of cB) hT, tallB_rest cB hT]
    · have hXB := allB_is (bs := ixb bs) (by rw [c.ix])
      obtain ⟨i1, i2, -⟩ := isB_raw hXB
      have hset : ixb (bs.set p y) = (ixb bs).set (p - ft bs 8) y := by
        unfold ixb
        rw [hft, hft, List.drop_set, if_neg hpi, List.take_set]
      have hat : (ixb bs)[p - ft bs 8]? = some x := by
        unfold ixb
        rw [List.getElem?_take_of_lt (by omega), List.getElem?_drop, show ft bs 8 + (p - ft bs 8) = p from by omega]
        exact hp
      have h5 : allB (ixb (bs.set p y)) = ([], 5) := by
        rw [hset]
        refine turned i1 (fun c hc => hb c ?_) i2 hat hy hne
        unfold ixb at hc
        exact List.mem_of_mem_drop (List.mem_of_mem_take hc)
      have h5' : (allB (ixb (bs.set p y))).2 ≠ 0 := by rw [h5]; decide
      rw [tallO_ix (by rw [hl]; exact h24) hs1 g1 g2 h5', tallB_ix (by rw [hl]; exact h24) hs1 g1 g2 h5']
  · have hsum : (bs.set p y).drop ((bs.set p y).length - 4) ≠ sum4 (((bs.set p y).drop ((bs.set p y).length - 24)).take 20) := by
      have hcs := c.sum
      rw [← hz] at hcs
      have hsl : (bs.drop z).drop ((bs.drop z).length - 4) = sum4 ((bs.drop z).take ((bs.drop z).length - 4)) := by
        rw [hzl, List.drop_drop, show z + (24 - 4) = bs.length - 4 from by omega]
        exact hcs
      have hat : (bs.drop z)[p - z]? = some x := by rw [List.getElem?_drop, show z + (p - z) = p from by omega]; exact hp
      have h5 := allB_five (turned (by omega) (fun c hc => hb c (List.mem_of_mem_drop hc)) hsl hat hy hne) (by rw [List.length_set]; omega)
      rw [List.length_set, hzl] at h5
      rw [hl, ← hz, List.drop_set, List.drop_set, if_neg hpz]
      have e : ∀ s : List Nat, s = (bs.drop z).set (p - z) y → s.drop 20 ≠ sum4 (s.take 20) := fun s hs => by rw [hs]; exact h5
      have h6 := e ((bs.drop z).set (p - z) y) rfl
      intro hh
      refine h6 ?_
      rw [← hh, List.drop_set]
      by_cases h20 : p - z < 20
      · rw [if_pos h20, if_pos (by omega), List.drop_drop, show z + 20 = bs.length - 4 from by omega]
      · rw [if_neg h20, if_neg (by omega), List.drop_drop, show z + 20 = bs.length - 4 from by omega, show p - z - 20 = p - (bs.length - 4) from by omega]
    rw [tallO_sum (by rw [hl]; exact h24) hsum, tallB_sum (by rw [hl]; exact h24) hsum]
end Go.Proofs.YtobjiamdljjkjaaGreat.Tb
