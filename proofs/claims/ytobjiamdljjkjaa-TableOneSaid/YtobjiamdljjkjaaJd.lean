/- Tables: mathematics, the document's Table, where the project's answer is the document's. -/
import Derived.Test.YtobjiamdljjkjaaBko
import Derived.Test.YtobjiamdljjkjaaBbld
import Derived.Test.YtobjiamdljjkjaaJc
import Derived.Test.YtobjiamdljjkjaaJb
import Derived.Deep.RegionHeld3
import Derived.Deep.QuietTactic
import Derived.BigQuiet
import Derived.LoopTactic
/- Plain mathematics of tables: how entries are parted into blocks, what an index holds, which bytes are a table. -/
namespace Go.Proofs.Ytobjiamdljjkjaa.Tb
set_option linter.unusedVariables false
set_option linter.unusedSimpArgs false
open Ik Sk Vn Vt Bk Bl

/-- What an entry counts for a block's size. -/
def wgt (t : T) : Nat := t.k.key.length + 8 + t.val.length
def weigh (ts : List T) : Nat := (ts.map wgt).sum
theorem weigh_snoc (ts : List T) (t : T) : weigh (ts ++ [t]) = weigh ts + wgt t := by unfold weigh; simp
theorem weigh_cons (ts : List T) (t : T) : weigh (t :: ts) = wgt t + weigh ts := by unfold weigh; simp
theorem weigh_append (a b : List T) : weigh (a ++ b) = weigh a + weigh b := by unfold weigh; simp
/-- Entries, parted into blocks; cur: the block that is being filled. -/
def parts (size : Nat) : List T → List T → List (List T)
  | cur, [] => if cur = [] then [] else [cur]
  | cur, t :: ts => if cur ≠ [] ∧ size ≤ weigh cur then cur :: parts size [t] ts else parts size (cur ++ [t]) ts
theorem parts_flat (size : Nat) : ∀ (ts cur : List T), (parts size cur ts).flatten = cur ++ ts
  | [], cur => by
    unfold parts
    split
    · rename_i h; simp [h]
    · simp
  | t :: ts, cur => by
    unfold parts
    split
    · rw [List.flatten_cons, parts_flat size ts [t]]; simp
    · rw [parts_flat size ts (cur ++ [t])]; simp
theorem parts_some (size : Nat) : ∀ (ts cur : List T), ∀ p, p ∈ parts size cur ts → p ≠ []
  | [], cur => by
    intro p hp
    unfold parts at hp
    split at hp
    · simp at hp
    · rename_i h
      simp at hp
      rw [hp]; exact h
  | t :: ts, cur => by
    intro p hp
    unfold parts at hp
    split at hp
    · rename_i h
      rcases List.mem_cons.1 hp with rfl | h2
      · exact h.1
      · exact parts_some size ts [t] p h2
    · exact parts_some size ts _ p hp
/-- What parts by a size are: no part is full before its last entry, each but the last one is. -/
def fits (size : Nat) : List (List T) → Prop
  | [] => True
  | [p] => p ≠ [] ∧ weigh p.dropLast < size
  | p :: ps => p ≠ [] ∧ weigh p.dropLast < size ∧ size ≤ weigh p ∧ fits size ps
theorem fits_cons {size : Nat} {p q : List T} {ps : List (List T)} : fits size (p :: q :: ps) ↔ p ≠ [] ∧ weigh p.dropLast < size ∧ size ≤ weigh p ∧ fits size (q :: ps) := Iff.rfl
/-- Filling goes on until a block is full. -/
theorem parts_fill {size : Nat} : ∀ (r cur ts : List T), (∀ i, i < r.length → cur ++ r.take i = [] ∨ weigh (cur ++ r.take i) < size) → parts size cur (r ++ ts) = parts size (cur ++ r) ts
  | [], cur, ts, _ => by simp
  | t :: r, cur, ts, h => by
    have h0 := h 0 (by simp)
    simp only [List.take_zero, List.append_nil] at h0
    rw [List.cons_append]
    conv => lhs; unfold parts
    rw [if_neg (by rintro ⟨h1, h2⟩; rcases h0 with h3 | h3; exact h1 h3; omega), parts_fill r (cur ++ [t]) ts (fun i hi => by
      have := h (i + 1) (by rw [List.length_cons]; omega)
      rw [List.take_succ_cons] at this
      simpa using this)]
    simp
theorem weigh_take {p : List T} {i : Nat} (hi : i < p.length) : weigh (p.take i) ≤ weigh p.dropLast := by
  rw [List.dropLast_eq_take]
  have e : p.take (p.length - 1) = p.take i ++ (p.drop i).take (p.length - 1 - i) := by
    rw [← List.take_add]; congr 1; omega
  rw [e, weigh_append]
  omega
theorem fits_parts {size : Nat} (h1 : 1 ≤ size) : ∀ ps : List (List T), fits size ps → parts size [] ps.flatten = ps
  | [], _ => by simp [parts]
  | [p], h => by
    obtain ⟨ha, hb⟩ : p ≠ [] ∧ weigh p.dropLast < size := h
    have := parts_fill (size := size) p [] [] (fun i hi => by
      right
      rw [List.nil_append]
      have := weigh_take hi
      omega)
    rw [List.flatten_cons, List.flatten_nil, this]
    unfold parts
    simp [ha]
  | p :: q :: ps, h => by
    obtain ⟨ha, hb, hc, hd⟩ := fits_cons.1 h
    have ih := fits_parts h1 (q :: ps) hd
    have hq : q ≠ [] := by cases ps with
      | nil => exact hd.1
      | cons r rs => exact hd.1
    have := parts_fill (size := size) p [] ((q :: ps).flatten) (fun i hi => by
      right
      rw [List.nil_append]
      have := weigh_take hi
      omega)
    rw [List.flatten_cons, this, List.nil_append]
    cases hq' : q with
    | nil => exact absurd hq' hq
    | cons t q' =>
      subst hq'
      rw [List.flatten_cons, List.cons_append] at ih ⊢
      unfold parts at ih ⊢
      rw [if_neg (by simp)] at ih
      rw [if_pos ⟨ha, hc⟩]
      rw [List.nil_append] at ih
      rw [ih]
theorem parts_head {size : Nat} (h1 : 1 ≤ size) : ∀ (ts cur : List T), cur ≠ [] → weigh cur.dropLast < size → fits size (parts size cur ts)
  | [], cur, hc, hw => by
    unfold parts
    rw [if_neg hc]
    exact ⟨hc, hw⟩
  | t :: ts, cur, hc, hw => by
    unfold parts
    split
    · rename_i h
      have ih := parts_head h1 ts [t] (by simp) (by simp [weigh]; omega)
      cases hp : parts size [t] ts with
      | nil => have := parts_flat size ts [t]; rw [hp] at this; simp at this
      | cons q qs => rw [hp] at ih; exact ⟨hc, hw, h.2, ih⟩
    · rename_i h
      refine parts_head h1 ts (cur ++ [t]) (by simp) ?_
      rw [List.dropLast_concat]
      have : ¬ size ≤ weigh cur := fun hh => h ⟨hc, hh⟩
      omega
theorem parts_fits {size : Nat} (h1 : 1 ≤ size) (ts : List T) : fits size (parts size [] ts) := by
  cases ts with
  | nil => simp [parts, fits]
  | cons t ts =>
    unfold parts
    rw [if_neg (by simp), List.nil_append]
    exact parts_head h1 ts [t] (by simp) (by simp [weigh]; omega)

/-- The last entry of a part. -/
def lastT (p : List T) : T := p.getLastD ⟨⟨[], 0, 0⟩, []⟩
/-- An entry of the index. -/
def ptr (t : T) (at' n : Nat) : T := ⟨⟨t.k.key, t.k.seq, 1⟩, enc at' ++ enc n⟩
/-- The index of blocks, one behind the other. -/
def idx (every : Nat) : Nat → List (List T) → List T
  | _, [] => []
  | at', p :: ps => ptr (lastT p) at' (blk every p).length :: idx every (at' + (blk every p).length) ps
def data (every : Nat) (ps : List (List T)) : List Nat := ps.flatMap (blk every)
/-- The user keys, each once. -/
def users : Option (List Nat) → List T → List (List Nat)
  | _, [] => []
  | last, t :: ts => (if last = some t.k.key then [] else [t.k.key]) ++ users (some t.k.key) ts
/-- Are there two of one user key and number? -/
def twins : List T → Bool
  | a :: b :: l => (decide (a.k.key = b.k.key) && decide (a.k.seq = b.k.seq)) || twins (b :: l)
  | _ => false
/-- May entries be a table? -/
def mayT (ts : List T) : Nat := if may ts ≠ 0 then may ts else if twins ts = true then 10 else if ts = [] then 1 else 0
theorem mayT_zero {ts : List T} (h : mayT ts = 0) : may ts = 0 ∧ twins ts = false ∧ ts ≠ [] := by
  unfold mayT at h
  split at h
  · contradiction
  · rename_i h1
    split at h
    · cases h
    · rename_i h2
      split at h
      · cases h
      · rename_i h3
        exact ⟨by omega, by simpa using h2, h3⟩
/-- The numbers at the end. -/
def tail5 (a b c d e : Nat) : List Nat := low a 4 ++ (low b 4 ++ (low c 4 ++ (low d 4 ++ low e 4)))
def tabP (every bits : Nat) (ps : List (List T)) : List Nat :=
  let d := data every ps
  let f := bloomB (users none ps.flatten) bits
  let x := blk 1 (idx every 0 ps)
  let e := tail5 d.length f.length (d.length + f.length) x.length ps.flatten.length
  d ++ (f ++ (x ++ (e ++ sum4 e)))
/-- A table. -/
def tab (size every bits : Nat) (ts : List T) : List Nat := tabP every bits (parts size [] ts)
/-- Bytes are a table. -/
def IsT (bs : List Nat) (ts : List T) : Prop := mayT ts = 0 ∧ ∃ size every bits, 1 ≤ size ∧ size ≤ 1048576 ∧ 1 ≤ every ∧ every ≤ 100 ∧ 1 ≤ bits ∧ bits ≤ 40 ∧ tab size every bits ts = bs
/-- A number of the footer. -/
def ft (bs : List Nat) (i : Nat) : Nat := num ((bs.drop (bs.length - 24 + i)).take 4)
def inner (e : Nat) : Nat := if e = 5 then 5 else 2
open Classical in
/-- The blocks that an index tells of: an error, or their entries. -/
noncomputable def walk (bs : List Nat) (fp : Nat) : Nat → List T → Except Nat (List (List T))
  | at', [] => .ok []
  | at', t :: ts =>
    if (res t.val 0).2.2 ≠ 0 then .error 2 else
    if (res t.val ((res t.val 0).2.1 : Nat)).2.2 ≠ 0 ∨ (res t.val ((res t.val 0).2.1 : Nat)).2.1 ≠ t.val.length ∨ (res t.val 0).1 ≠ at' ∨ fp - at' < (res t.val ((res t.val 0).2.1 : Nat)).1 then .error 2 else
    let n := (res t.val ((res t.val 0).2.1 : Nat)).1
    if (allB ((bs.drop at').take n)).2 ≠ 0 then .error (inner (allB ((bs.drop at').take n)).2) else
    if (allB ((bs.drop at').take n)).1 = [] ∨ t ≠ ptr (lastT (allB ((bs.drop at').take n)).1) at' n then .error 2 else
    (walk bs fp (at' + n) ts).map ((allB ((bs.drop at').take n)).1 :: ·)
/-- The bytes of the index block. -/
def ixb (bs : List Nat) : List Nat := (bs.drop (ft bs 8)).take (ft bs 12)
open Classical in
/-- The answer to bytes: entries, the index, an error. -/
noncomputable def tallB (bs : List Nat) : List T × List T × Nat :=
  if bs.length < 24 then ([], [], 4) else if bs.drop (bs.length - 4) ≠ sum4 ((bs.drop (bs.length - 24)).take 20) then ([], [], 5) else
  if ft bs 0 + ft bs 4 ≠ ft bs 8 ∨ ft bs 8 + ft bs 12 ≠ bs.length - 24 then ([], [], 2) else
  if (allB (ixb bs)).2 ≠ 0 then ([], [], inner (allB (ixb bs)).2) else
  if (allB (ixb bs)).1 = [] ∨ blk 1 (allB (ixb bs)).1 ≠ ixb bs then ([], [], 2) else
  match walk bs (ft bs 0) 0 (allB (ixb bs)).1 with
  | .error e => ([], [], e)
  | .ok ps => if IsT bs ps.flatten then (ps.flatten, (allB (ixb bs)).1, 0) else ([], [], 2)
end Go.Proofs.Ytobjiamdljjkjaa.Tb

/- Plain mathematics of tables: what is built is read back; bytes that pass every test were built. -/
namespace Go.Proofs.Ytobjiamdljjkjaa.Tb
set_option linter.unusedVariables false
set_option linter.unusedSimpArgs false
open Ik Sk Vn Vt Bk Bl

theorem allB_is {bs : List Nat} (h : (allB bs).2 = 0) : IsB bs (allB bs).1 := by
  by_cases h1 : bs.length < 8
  · rw [allB_short h1] at h; cases h
  · by_cases h2 : bs.drop (bs.length - 4) = sum4 (bs.take (bs.length - 4))
    · by_cases h3 : ∃ ts, IsB bs ts
      · obtain ⟨ts, h4⟩ := h3
        rw [allB_ok h4]; exact h4
      · rw [allB_bad h1 h2 h3] at h; cases h
    · rw [allB_sum h1 h2] at h; cases h

/-! ### One list of entries has one block as the beginning of given bytes -/
theorem body_same (a b : Nat) : ∀ (ts : List T) (i : Nat) (last R1 R2 : List Nat), (∀ t, t ∈ ts → okT t = true) → body a i last ts ++ R1 = body b i last ts ++ R2 → body a i last ts = body b i last ts ∧ R1 = R2
  | [], i, last, R1, R2, _, h => ⟨rfl, by simpa [body] using h⟩
  | t :: ts, i, last, R1, R2, hok, h => by
    unfold body at h ⊢
    rw [List.append_assoc, List.append_assoc] at h
    have s1 := step_one (r := body a (i + 1) (bytesK t.k) ts ++ R1) (p := []) (hok t (List.mem_cons_self ..)) (pre_le a i last (bytesK t.k))
    have s2 := step_one (r := body b (i + 1) (bytesK t.k) ts ++ R2) (p := []) (hok t (List.mem_cons_self ..)) (pre_le b i last (bytesK t.k))
    rw [List.nil_append] at s1 s2
    rw [h, s2] at s1
    simp at s1
    have hl := s1
    have e1 : one (pre a i last (bytesK t.k)) t = one (pre b i last (bytesK t.k)) t := by
      have := congrArg (List.take (one (pre a i last (bytesK t.k)) t).length) h
      rw [List.take_left, ← hl, List.take_left] at this
      exact this
    rw [e1] at h ⊢
    have h' := List.append_cancel_left h
    obtain ⟨r1, r2⟩ := body_same a b ts (i + 1) (bytesK t.k) R1 R2 (fun u hu => hok u (List.mem_cons_of_mem _ hu)) h'
    exact ⟨by rw [r1], r2⟩
theorem ends_far (every : Nat) : ∀ (ts : List T) (i : Nat) (last : List Nat) (o j x : Nat), (ends every i last o ts)[j]? = some x → o + 3 * j ≤ x
  | [], i, last, o, j, x, h => by simp [ends] at h
  | t :: ts, i, last, o, j, x, h => by
    have h1 := one_len (pre every i last (bytesK t.k)) t
    unfold ends at h
    by_cases hi : i % every = 0
    · rw [if_pos hi] at h
      cases j with
      | zero => simp at h; omega
      | succ j =>
        rw [List.singleton_append, List.getElem?_cons_succ] at h
        have := ends_far every ts _ _ _ j x h
        omega
    · rw [if_neg hi, List.nil_append] at h
      have := ends_far every ts _ _ _ j x h
      omega
theorem flat_same : ∀ (E F : List Nat) (k : Nat) (S1 S2 : List Nat), (∀ j x, E[j]? = some x → k + j < x ∧ x < 4294967296) → (∀ j x, F[j]? = some x → k + j < x ∧ x < 4294967296) → k + E.length < 4294967296 → k + F.length < 4294967296 →
    (E.flatMap fun e => low e 4) ++ (low (k + E.length) 4 ++ S1) = (F.flatMap fun e => low e 4) ++ (low (k + F.length) 4 ++ S2) → E = F
  | [], [], _, _, _, _, _, _, _, _ => rfl
  | [], y :: F, k, S1, S2, _, h2, hk, _, h => by
    exfalso
    have h3 := h2 0 y rfl
    have := congrArg (List.take 4) h
    simp only [List.flatMap_nil, List.nil_append, List.flatMap_cons, List.append_assoc] at this
    rw [List.take_left' (low_length _ _), List.take_left' (low_length _ _)] at this
    have := congrArg num this
    rw [num_low _ _ (by simpa using hk), num_low _ _ h3.2] at this
    simp at this
    omega
  | x :: E, [], k, S1, S2, h1, _, _, hk, h => by
    exfalso
    have h3 := h1 0 x rfl
    have := congrArg (List.take 4) h
    simp only [List.flatMap_nil, List.nil_append, List.flatMap_cons, List.append_assoc] at this
    rw [List.take_left' (low_length _ _), List.take_left' (low_length _ _)] at this
    have := congrArg num this
    rw [num_low _ _ h3.2, num_low _ _ (by simpa using hk)] at this
    simp at this
    omega
  | x :: E, y :: F, k, S1, S2, h1, h2, hE, hF, h => by
    have h3 := h1 0 x rfl
    have h4 := h2 0 y rfl
    simp only [List.flatMap_cons, List.append_assoc, List.length_cons] at h hE hF
    have e := congrArg (List.take 4) h
    rw [List.take_left' (low_length _ _), List.take_left' (low_length _ _)] at e
    have e' := congrArg num e
    rw [num_low _ _ h3.2, num_low _ _ h4.2] at e'
    subst e'
    have h' := List.append_cancel_left h
    rw [show k + (E.length + 1) = (k + 1) + E.length from by omega, show k + (F.length + 1) = (k + 1) + F.length from by omega] at h'
    rw [flat_same E F (k + 1) S1 S2 (fun j z hj => by have := h1 (j + 1) z hj; omega) (fun j z hj => by have := h2 (j + 1) z hj; omega) (by omega) (by omega) h']
theorem blk_same {a b : Nat} {ts : List T} (hok : ∀ t, t ∈ ts → okT t = true) (hn : ts.length ≤ 10000) {Z : List Nat} (h1 : blk a ts <+: Z) (h2 : blk b ts <+: Z) : blk a ts = blk b ts := by
  by_cases hne : ts = []
  · subst hne; rfl
  obtain ⟨R1, e1⟩ := h1
  obtain ⟨R2, e2⟩ := h2
  have e : blk a ts ++ R1 = blk b ts ++ R2 := e1.trans e2.symm
  unfold blk bare foot at e
  simp only [List.append_assoc] at e
  obtain ⟨hb, hr⟩ := body_same a b ts 0 [] _ _ hok e
  have ha0 := ends_first a hne
  have hb0 := ends_first b hne
  have bd : ∀ ev, ∀ j x, (ends ev 0 [] 0 ts)[j]? = some x → x < 4294967296 := fun ev j x hj => by
    have h3 := (ends_at ev ts 0 [] [] [] x (List.mem_of_getElem? hj)).2.1
    have h4 := body_max ev ts 0 [] hok
    simp at h3
    omega
  have le : ∀ ev, (ends ev 0 [] 0 ts).length ≤ 10000 := fun ev => Nat.le_trans (ends_le ev ts 0 [] 0) hn
  have hE : ends a 0 [] 0 ts = ends b 0 [] 0 ts := by
    have fa := ends_far a ts 0 [] 0
    have fb := ends_far b ts 0 [] 0
    have ba := bd a
    have bb := bd b
    have la := le a
    have lb := le b
    revert hr ha0 hb0 fa fb ba bb la lb
    generalize ends a 0 [] 0 ts = E
    generalize ends b 0 [] 0 ts = F
    intro hr ha0 hb0 fa fb ba bb la lb
    cases E with
    | nil => simp at ha0
    | cons x E =>
      cases F with
      | nil => simp at hb0
      | cons y F =>
        simp at ha0 hb0
        subst ha0; subst hb0
        simp only [List.flatMap_cons, List.append_assoc, List.length_cons] at hr la lb
        have hr' := List.append_cancel_left hr
        rw [Nat.add_comm E.length 1, Nat.add_comm F.length 1] at hr'
        rw [flat_same E F 1 _ _ (fun j z hj => ⟨by have := fa (j + 1) z hj; omega, ba (j + 1) z hj⟩) (fun j z hj => ⟨by have := fb (j + 1) z hj; omega, bb (j + 1) z hj⟩) (by omega) (by omega) hr']
  unfold blk bare
  rw [hb, hE]

/-! ### Sizes -/
def lowS : List (List T) → Nat → Nat
  | [], m => m
  | p :: ps, m => lowS ps (max m (weigh p.dropLast + 1))
def highS : List (List T) → Nat → Nat
  | [], m => m
  | [_], m => m
  | p :: q :: ps, m => highS (q :: ps) (min m (weigh p))
theorem lowS_le : ∀ (ps : List (List T)) (m s : Nat), lowS ps m ≤ s ↔ m ≤ s ∧ ∀ p, p ∈ ps → weigh p.dropLast < s
  | [], m, s => by simp [lowS]
  | p :: ps, m, s => by
    unfold lowS
    rw [lowS_le ps]
    constructor
    · rintro ⟨h1, h2⟩
      exact ⟨by omega, fun q hq => (List.mem_cons.1 hq).elim (fun e => by rw [e]; omega) (h2 q)⟩
    · rintro ⟨h1, h2⟩
      exact ⟨by have := h2 p (List.mem_cons_self ..); omega, fun q hq => h2 q (List.mem_cons_of_mem _ hq)⟩
theorem highS_ge : ∀ (ps : List (List T)) (m s : Nat), s ≤ highS ps m ↔ s ≤ m ∧ ∀ p, p ∈ ps.dropLast → s ≤ weigh p
  | [], m, s => by simp [highS]
  | [p], m, s => by simp [highS]
  | p :: q :: ps, m, s => by
    unfold highS
    rw [highS_ge (q :: ps), List.dropLast_cons_cons]
    constructor
    · rintro ⟨h1, h2⟩
      exact ⟨by omega, fun r hr => (List.mem_cons.1 hr).elim (fun e => by rw [e]; omega) (h2 r)⟩
    · rintro ⟨h1, h2⟩
      exact ⟨by have := h2 p (List.mem_cons_self ..); omega, fun r hr => h2 r (List.mem_cons_of_mem _ hr)⟩
theorem fits_iff (s : Nat) : ∀ ps : List (List T), fits s ps ↔ (∀ p, p ∈ ps → p ≠ [] ∧ weigh p.dropLast < s) ∧ ∀ p, p ∈ ps.dropLast → s ≤ weigh p
  | [] => by simp [fits]
  | [p] => by simp [fits]
  | p :: q :: ps => by
    rw [fits_cons, fits_iff s (q :: ps), List.dropLast_cons_cons]
    constructor
    · rintro ⟨h1, h2, h3, h4, h5⟩
      exact ⟨fun r hr => (List.mem_cons.1 hr).elim (fun e => by rw [e]; exact ⟨h1, h2⟩) (h4 r), fun r hr => (List.mem_cons.1 hr).elim (fun e => by rw [e]; exact h3) (h5 r)⟩
    · rintro ⟨h1, h2⟩
      exact ⟨(h1 p (List.mem_cons_self ..)).1, (h1 p (List.mem_cons_self ..)).2, h2 p (List.mem_cons_self ..), fun r hr => h1 r (List.mem_cons_of_mem _ hr), fun r hr => h2 r (List.mem_cons_of_mem _ hr)⟩
theorem sized_iff {ps : List (List T)} (hne : ∀ p, p ∈ ps → p ≠ []) : lowS ps 1 ≤ highS ps 1048576 ↔ ∃ s, 1 ≤ s ∧ s ≤ 1048576 ∧ fits s ps := by
  constructor
  · intro h
    have h1 := (lowS_le ps 1 (lowS ps 1)).1 (Nat.le_refl _)
    have h2 := (highS_ge ps 1048576 (lowS ps 1)).1 h
    exact ⟨lowS ps 1, h1.1, h2.1, (fits_iff _ _).2 ⟨fun p hp => ⟨hne p hp, h1.2 p hp⟩, h2.2⟩⟩
  · rintro ⟨s, h1, h2, h3⟩
    obtain ⟨h4, h5⟩ := (fits_iff _ _).1 h3
    exact Nat.le_trans ((lowS_le ps 1 s).2 ⟨h1, fun p hp => (h4 p hp).2⟩) ((highS_ge ps 1048576 s).2 ⟨h2, h5⟩)
end Go.Proofs.Ytobjiamdljjkjaa.Tb

/- Plain mathematics of tables: the walk over an index, at what was built and at whatever bytes. -/
namespace Go.Proofs.Ytobjiamdljjkjaa.Tb
set_option linter.unusedVariables false
set_option linter.unusedSimpArgs false
open Ik Sk Vn Vt Bk Bl

theorem blk_le {every : Nat} {ts : List T} (hok : ∀ t, t ∈ ts → okT t = true) : (blk every ts).length ≤ 4404 * ts.length + 8 := by
  have h1 := body_max every ts 0 [] hok
  have h2 := ends_le every ts 0 [] 0
  rw [blk_len]
  omega
/-- The walk, a step. -/
theorem walk_ok {bs : List Nat} {fp at' : Nat} {t : T} {X : List T} {ps : List (List T)} (h : walk bs fp at' (t :: X) = .ok ps) :
    ∃ n p ps', n = (res t.val ((res t.val 0).2.1 : Nat)).1 ∧ ps = p :: ps' ∧ n ≤ fp - at' ∧ (allB ((bs.drop at').take n)).2 = 0 ∧ (allB ((bs.drop at').take n)).1 = p ∧ p ≠ [] ∧ t = ptr (lastT p) at' n ∧ walk bs fp (at' + n) X = .ok ps' := by
  unfold walk at h
  split at h
  · cases h
  · split at h
    · cases h
    · rename_i h2
      dsimp only at h
      split at h
      · cases h
      · rename_i h3
        split at h
        · cases h
        · rename_i h4
          cases hw : walk bs fp (at' + (res t.val ((res t.val 0).2.1 : Nat)).1) X with
          | error e => rw [hw] at h; cases h
          | ok ps' =>
            rw [hw] at h
            injection h with h
            exact ⟨_, _, ps', rfl, h.symm, by omega, by omega, rfl, fun e => h4 (.inl e), Classical.not_not.1 fun e => h4 (.inr e), hw⟩
/-- Where the blocks end. -/
def fin : Nat → List T → Nat
  | at', [] => at'
  | at', t :: X => fin (at' + (res t.val ((res t.val 0).2.1 : Nat)).1) X
theorem fin_ge : ∀ (X : List T) (at' : Nat), at' ≤ fin at' X
  | [], _ => Nat.le_refl _
  | t :: X, at' => Nat.le_trans (Nat.le_add_right _ _) (fin_ge X _)
theorem walk_some {bs : List Nat} {fp : Nat} : ∀ (X : List T) (at' : Nat) (ps : List (List T)), walk bs fp at' X = .ok ps → ∀ p, p ∈ ps → p ≠ []
  | [], at', ps, h => by
    unfold walk at h
    injection h with h
    subst h
    intro p hp
    cases hp
  | t :: X, at', ps, h => by
    obtain ⟨n, p, ps', -, rfl, -, -, -, h6, -, h8⟩ := walk_ok h
    intro q hq
    rcases List.mem_cons.1 hq with rfl | h9
    · exact h6
    · exact walk_some X _ _ h8 q h9
theorem walk_len {bs : List Nat} {fp : Nat} : ∀ (X : List T) (at' : Nat) (ps : List (List T)), walk bs fp at' X = .ok ps → ps.length = X.length
  | [], at', ps, h => by
    unfold walk at h
    injection h with h
    subst h
    rfl
  | t :: X, at', ps, h => by
    obtain ⟨n, p, ps', -, rfl, -, -, -, -, -, h8⟩ := walk_ok h
    rw [List.length_cons, List.length_cons, walk_len X _ _ h8]
theorem data_cons (every : Nat) (p : List T) (ps : List (List T)) : data every (p :: ps) = blk every p ++ data every ps := by unfold data; rw [List.flatMap_cons]
/-- Blocks that are all built by one interval, as the bytes begin. -/
theorem walk_data {bs : List Nat} {fp every : Nat} : ∀ (X : List T) (at' : Nat) (ps : List (List T)), walk bs fp at' X = .ok ps → at' ≤ fp → fp ≤ bs.length → data every ps <+: bs.drop at' →
    X = idx every at' ps ∧ fin at' X = at' + (data every ps).length ∧ fin at' X ≤ fp
  | [], at', ps, h, h1, h2, h3 => by
    unfold walk at h
    injection h with h
    subst h
    exact ⟨rfl, rfl, h1⟩
  | t :: X, at', ps, h, h1, h2, h3 => by
    obtain ⟨n, p, ps', hn, rfl, hle, he, hp, hne, ht, hw⟩ := walk_ok h
    have hB := allB_is he
    rw [hp] at hB
    obtain ⟨hm, ev, -, -, hev⟩ := hB
    obtain ⟨hok, -, hlen⟩ := may_zero hm
    rw [data_cons] at h3
    have hs : blk ev p = blk every p := blk_same (Z := bs.drop at') hok hlen (by rw [hev]; exact List.take_prefix _ _) ((List.prefix_append _ _).trans h3)
    have hnl : (blk every p).length = n := by rw [← hs, hev, List.length_take, List.length_drop]; omega
    obtain ⟨R, hR⟩ := h3
    have h4 : data every ps' <+: bs.drop (at' + n) := ⟨R, by
      have := congrArg (List.drop n) hR
      rw [List.drop_drop, List.append_assoc, List.drop_left' hnl] at this
      exact this⟩
    obtain ⟨i1, i2, i3⟩ := walk_data X (at' + n) ps' hw (by omega) h2 h4
    have hf : fin at' (t :: X) = fin (at' + n) X := by
      show fin (at' + (res t.val ((res t.val 0).2.1 : Nat)).1) X = _
      rw [← hn]
    refine ⟨?_, by rw [hf, i2, data_cons, List.length_append, hnl]; omega, by rw [hf]; exact i3⟩
    unfold idx
    rw [hnl, ← ht, ← i1]
theorem ptr_res (t : T) {at' n : Nat} (h1 : at' < 18446744073709551616) (h2 : n < 18446744073709551616) : res (ptr t at' n).val 0 = (at', (enc at').length, 0) ∧ res (ptr t at' n).val ((enc at').length : Nat) = (n, (ptr t at' n).val.length, 0) := by
  have e1 := res_mid [] (enc n) at' h1
  have e2 := res_mid (enc at') [] n h2
  simp only [List.nil_append, List.length_nil, List.append_nil, Nat.zero_add] at e1 e2
  refine ⟨by simpa [ptr] using e1, ?_⟩
  show res (enc at' ++ enc n) _ = _
  rw [e2]
  simp [ptr]
/-- What was built is read back. -/
theorem walk_built {bs R : List Nat} {fp every : Nat} (he : 1 ≤ every ∧ every ≤ 100) : ∀ (ps : List (List T)) (at' : Nat), (∀ p, p ∈ ps → p ≠ [] ∧ may p = 0) → bs.drop at' = data every ps ++ R → fp = at' + (data every ps).length → fp < 4294967296 →
    walk bs fp at' (idx every at' ps) = .ok ps
  | [], at', _, _, _, _ => by unfold idx walk; rfl
  | p :: ps, at', hp, hd, hf, hs => by
    obtain ⟨hne, hm⟩ := hp p (List.mem_cons_self ..)
    rw [data_cons] at hd hf
    rw [List.length_append] at hf
    obtain ⟨r1, r2⟩ := ptr_res (lastT p) (at' := at') (n := (blk every p).length) (by omega) (by omega)
    unfold idx walk
    have q1 : (res (ptr (lastT p) at' (blk every p).length).val 0).2.1 = (enc at').length := by rw [r1]
    have q2 : (res (ptr (lastT p) at' (blk every p).length).val 0).2.2 = 0 := by rw [r1]
    have q3 : (res (ptr (lastT p) at' (blk every p).length).val 0).1 = at' := by rw [r1]
    have q4 : (res (ptr (lastT p) at' (blk every p).length).val ((enc at').length : Nat)).1 = (blk every p).length := by rw [r2]
    have q5 : (res (ptr (lastT p) at' (blk every p).length).val ((enc at').length : Nat)).2.1 = (ptr (lastT p) at' (blk every p).length).val.length := by rw [r2]
    have q6 : (res (ptr (lastT p) at' (blk every p).length).val ((enc at').length : Nat)).2.2 = 0 := by rw [r2]
    have hsl : (bs.drop at').take (blk every p).length = blk every p := by rw [hd, List.append_assoc, List.take_left]
    have hall : allB (blk every p) = (p, 0) := allB_ok ⟨hm, every, he.1, he.2, rfl⟩
    have ih := walk_built he ps (at' + (blk every p).length) (fun q hq => hp q (List.mem_cons_of_mem _ hq)) (by
      have := congrArg (List.drop (blk every p).length) hd
      rw [List.drop_drop, List.append_assoc, List.drop_left] at this
      exact this) (by omega) hs
    rw [q1, q2, q3, q4, q5, q6]
    rw [if_neg (by simp), if_neg (by rintro (h | h | h | h) <;> first | exact h rfl | omega)]
    dsimp only
    rw [hsl, hall]
    rw [if_neg (by simp), if_neg (by rintro (h | h); exact hne h; exact h rfl), ih]
    rfl

/-! ### The order of the index -/
def k1 (k : K) : K := ⟨k.key, k.seq, 1⟩
theorem k1_lt {a b : K} (h : cmpK a b < 0) (hn : ¬ (a.key = b.key ∧ a.seq = b.seq)) : cmpK (k1 a) (k1 b) < 0 := by
  have h1 : cmpK a b = -1 := by rcases cmpK_one a b with h2 | h2 | h2 <;> omega
  have : cmpK (k1 a) (k1 b) = -1 := by
    rw [cmpK_lt] at h1 ⊢
    rcases h1 with h2 | ⟨h2, h3 | ⟨h3, h4⟩⟩
    · exact .inl h2
    · exact .inr ⟨h2, .inl h3⟩
    · exact absurd ⟨h2, h3⟩ hn
  omega
theorem pair2 : ∀ ts : List T, rises ts = true → twins ts = false → ts.Pairwise fun a b => cmpK (k1 a.k) (k1 b.k) < 0
  | [], _, _ => List.Pairwise.nil
  | [a], _, _ => by simp
  | a :: b :: l, h1, h2 => by
    have h1' : decide (cmpK a.k b.k < 0) = true ∧ rises (b :: l) = true := by
      have : (decide (cmpK a.k b.k < 0) && rises (b :: l)) = true := h1
      simpa using this
    have h2' : ¬ (a.k.key = b.k.key ∧ a.k.seq = b.k.seq) ∧ twins (b :: l) = false := by
      have : ((decide (a.k.key = b.k.key) && decide (a.k.seq = b.k.seq)) || twins (b :: l)) = false := h2
      rw [Bool.or_eq_false_iff] at this
      refine ⟨fun h => ?_, this.2⟩
      have := this.1
      simp [h.1, h.2] at this
    have ih := pair2 (b :: l) h1'.2 h2'.2
    have hab := k1_lt (of_decide_eq_true h1'.1) h2'.1
    refine List.Pairwise.cons (fun x hx => ?_) ih
    rcases List.mem_cons.1 hx with rfl | hx
    · exact hab
    · exact lt_trans hab ((List.pairwise_cons.1 ih).1 x hx)
theorem lastT_mem {p : List T} (h : p ≠ []) : lastT p ∈ p := by
  unfold lastT
  cases p with
  | nil => exact absurd rfl h
  | cons t p =>
    rw [List.getLastD_cons]
    cases p with
    | nil => simp
    | cons u p =>
      rw [List.getLastD_eq_getLast?, List.getLast?_eq_some_getLast (by simp)]
      exact List.mem_cons_of_mem _ (List.getLast_mem _)
theorem idx_len (every : Nat) : ∀ (ps : List (List T)) (at' : Nat), (idx every at' ps).length = ps.length
  | [], _ => rfl
  | p :: ps, at' => by unfold idx; rw [List.length_cons, List.length_cons, idx_len every ps]
theorem idx_rises (every : Nat) : ∀ (ps : List (List T)) (at' : Nat), (∀ p, p ∈ ps → p ≠ []) → ps.flatten.Pairwise (fun a b => cmpK (k1 a.k) (k1 b.k) < 0) → rises (idx every at' ps) = true
  | [], _, _, _ => rfl
  | [p], _, _, _ => rfl
  | p :: q :: ps, at', hne, hp => by
    rw [List.flatten_cons] at hp
    obtain ⟨-, h2, h3⟩ := List.pairwise_append.1 hp
    have ih := idx_rises every (q :: ps) (at' + (blk every p).length) (fun r hr => hne r (List.mem_cons_of_mem _ hr)) h2
    have h4 := h3 _ (lastT_mem (hne p (List.mem_cons_self ..))) (lastT q) (by rw [List.flatten_cons]; exact List.mem_append_left _ (lastT_mem (hne q (by simp))))
    have e : idx every at' (p :: q :: ps) = ptr (lastT p) at' (blk every p).length :: ptr (lastT q) (at' + (blk every p).length) (blk every q).length :: idx every (at' + (blk every p).length + (blk every q).length) ps := rfl
    rw [e]
    show (decide (cmpK (k1 (lastT p).k) (k1 (lastT q).k) < 0) && rises _) = true
    rw [decide_eq_true h4, Bool.true_and]
    exact ih
theorem ptr_okT {t : T} {at' n : Nat} (h : okT t = true) : okT (ptr t at' n) = true := by
  have h1 := okT_key h
  have a1 := (enc_len at').2
  have a2 := (enc_len n).2
  unfold okT okB at *
  simp at h1
  simp [ptr]
  omega
theorem idx_mem {every : Nat} : ∀ (ps : List (List T)) (at' : Nat), ∀ x, x ∈ idx every at' ps → ∃ p a n, p ∈ ps ∧ x = ptr (lastT p) a n
  | [], _ => fun x h => by cases h
  | p :: ps, at' => fun x h => by
    unfold idx at h
    rcases List.mem_cons.1 h with rfl | h2
    · exact ⟨p, _, _, List.mem_cons_self .., rfl⟩
    · obtain ⟨q, a, n, h3, h4⟩ := idx_mem ps _ x h2
      exact ⟨q, a, n, List.mem_cons_of_mem _ h3, h4⟩
theorem flat_len : ∀ ps : List (List T), (∀ p, p ∈ ps → p ≠ []) → ps.length ≤ ps.flatten.length
  | [], _ => Nat.le_refl _
  | p :: ps, h => by
    have h1 := flat_len ps fun q hq => h q (List.mem_cons_of_mem _ hq)
    have h2 := List.length_pos_iff.2 (h p (List.mem_cons_self ..))
    rw [List.flatten_cons, List.length_append, List.length_cons]
    omega
theorem idx_may {every : Nat} {ps : List (List T)} (at' : Nat) (hne : ∀ p, p ∈ ps → p ≠ []) (hm : may ps.flatten = 0) (ht : twins ps.flatten = false) : may (idx every at' ps) = 0 := by
  obtain ⟨hok, hr, hn⟩ := may_zero hm
  have h1 : (idx every at' ps).all okT = true := List.all_eq_true.2 fun x hx => by
    obtain ⟨p, a, n, h2, rfl⟩ := idx_mem ps at' x hx
    exact ptr_okT (hok _ (List.mem_flatten.2 ⟨p, h2, lastT_mem (hne p h2)⟩))
  unfold may
  rw [if_neg (by rw [h1]; decide), if_neg (by rw [idx_rises every ps at' hne (pair2 _ hr ht)]; decide), if_neg (by rw [idx_len]; have := flat_len ps hne; omega)]
theorem rises_part {a b c : List T} (h : rises (a ++ (b ++ c)) = true) : rises b = true := by
  rw [rises_iff] at h ⊢
  intro i x y hx hy
  have h1 := (List.getElem?_eq_some_iff.1 hx).1
  have h2 := (List.getElem?_eq_some_iff.1 hy).1
  refine h (a.length + i) x y ?_ ?_
  · rw [List.getElem?_append_right (Nat.le_add_right _ _), Nat.add_sub_cancel_left, List.getElem?_append_left h1]; exact hx
  · rw [Nat.add_assoc, List.getElem?_append_right (Nat.le_add_right _ _), Nat.add_sub_cancel_left, List.getElem?_append_left h2]; exact hy
theorem part_may {ps : List (List T)} (hm : may ps.flatten = 0) : ∀ p, p ∈ ps → may p = 0 := by
  intro p hp
  obtain ⟨hok, hr, hn⟩ := may_zero hm
  obtain ⟨a, c, rfl⟩ := List.append_of_mem hp
  rw [List.flatten_append, List.flatten_cons] at hok hr hn
  have h1 : p.all okT = true := List.all_eq_true.2 fun x hx => hok x (List.mem_append_right _ (List.mem_append_left _ hx))
  unfold may
  rw [if_neg (by rw [h1]; decide), if_neg (by rw [rises_part hr]; decide), if_neg (by rw [List.length_append, List.length_append] at hn; omega)]
theorem data_le {every : Nat} : ∀ ps : List (List T), (∀ p, p ∈ ps → p ≠ []) → (∀ t, t ∈ ps.flatten → okT t = true) → (data every ps).length ≤ 4412 * ps.flatten.length
  | [], _, _ => by simp [data]
  | p :: ps, hne, hok => by
    have h1 := data_le (every := every) ps (fun q hq => hne q (List.mem_cons_of_mem _ hq)) (fun t ht => hok t (by rw [List.flatten_cons]; exact List.mem_append_right _ ht))
    have h2 := List.length_pos_iff.2 (hne p (List.mem_cons_self ..))
    have h3 := blk_le (every := every) (ts := p) (fun t ht => hok t (by rw [List.flatten_cons]; exact List.mem_append_left _ ht))
    rw [data_cons, List.length_append, List.flatten_cons, List.length_append]
    omega
theorem users_len : ∀ (ts : List T) (last : Option (List Nat)), (users last ts).length ≤ ts.length
  | [], _ => Nat.le_refl _
  | t :: ts, last => by
    have h := users_len ts (some t.k.key)
    unfold users
    split
    · rw [List.nil_append, List.length_cons]; omega
    · rw [List.length_append, List.length_singleton, List.length_cons]; omega
end Go.Proofs.Ytobjiamdljjkjaa.Tb

/- Plain mathematics of tables: which bytes are a table, test by test. -/
namespace Go.Proofs.Ytobjiamdljjkjaa.Tb
set_option linter.unusedVariables false
set_option linter.unusedSimpArgs false
open Ik Sk Vn Vt Bk Bl

theorem tail5_app (a b c d e : Nat) (S : List Nat) : tail5 a b c d e ++ S = low a 4 ++ (low b 4 ++ (low c 4 ++ (low d 4 ++ (low e 4 ++ S)))) := by simp [tail5]
theorem tail5_len (a b c d e : Nat) : (tail5 a b c d e).length = 20 := by
  unfold tail5
  rw [List.length_append, List.length_append, List.length_append, List.length_append, low_length, low_length, low_length, low_length, low_length]
theorem tail5_at (a b c d e : Nat) (S : List Nat) : (tail5 a b c d e ++ S).take 4 = low a 4 ∧ ((tail5 a b c d e ++ S).drop 4).take 4 = low b 4 ∧ ((tail5 a b c d e ++ S).drop 8).take 4 = low c 4 ∧ ((tail5 a b c d e ++ S).drop 12).take 4 = low d 4 ∧ ((tail5 a b c d e ++ S).drop 16).take 4 = low e 4 := by
  rw [tail5_app]
  have l : ∀ x, (low x 4).length = 4 := fun x => low_length x 4
  have t : ∀ (x : Nat) (R : List Nat), (low x 4 ++ R).take 4 = low x 4 := fun x R => List.take_left' (l x)
  have dd : ∀ (x n : Nat) (R : List Nat), (low x 4 ++ R).drop (4 + n) = R.drop n := fun x n R => by rw [← List.drop_drop, List.drop_left' (l x)]
  refine ⟨t _ _, ?_, ?_, ?_, ?_⟩
  · rw [List.drop_left' (l a), t]
  · rw [show (8 : Nat) = 4 + 4 from rfl, dd, List.drop_left' (l b), t]
  · rw [show (12 : Nat) = 4 + (4 + 4) from rfl, dd, dd, List.drop_left' (l c), t]
  · rw [show (16 : Nat) = 4 + (4 + (4 + 4)) from rfl, dd, dd, dd, List.drop_left' (l d), t]
/-- The parts of what was built. -/
theorem tab_parts {every bits : Nat} {ps : List (List T)} (hb : bits ≤ 40) (hne : ∀ p, p ∈ ps → p ≠ []) (hm : may ps.flatten = 0) :
    (tabP every bits ps).length = (data every ps).length + (bloomB (users none ps.flatten) bits).length + (blk 1 (idx every 0 ps)).length + 24 ∧
    (tabP every bits ps).drop ((tabP every bits ps).length - 4) = sum4 (((tabP every bits ps).drop ((tabP every bits ps).length - 24)).take 20) ∧
    (ft (tabP every bits ps) 0 = (data every ps).length ∧ ft (tabP every bits ps) 4 = (bloomB (users none ps.flatten) bits).length ∧ ft (tabP every bits ps) 8 = (data every ps).length + (bloomB (users none ps.flatten) bits).length ∧
      ft (tabP every bits ps) 12 = (blk 1 (idx every 0 ps)).length ∧ ft (tabP every bits ps) 16 = ps.flatten.length) ∧
    data every ps <+: tabP every bits ps ∧ ((tabP every bits ps).drop (data every ps).length).take (bloomB (users none ps.flatten) bits).length = bloomB (users none ps.flatten) bits ∧
    ((tabP every bits ps).drop ((data every ps).length + (bloomB (users none ps.flatten) bits).length)).take (blk 1 (idx every 0 ps)).length = blk 1 (idx every 0 ps) ∧
    (tabP every bits ps).length ≤ 200000000 := by
  obtain ⟨hok, hr, hn⟩ := may_zero hm
  have l1 := data_le (every := every) ps hne hok
  have l2 : (bloomB (users none ps.flatten) bits).length ≤ 60000 := by
    rw [bloomB_len]
    have h1 := users_len ps.flatten none
    have h2 : (users none ps.flatten).length * bits ≤ 10000 * 40 := Nat.mul_le_mul (by omega) hb
    unfold mOf
    omega
  have hxo : ∀ t, t ∈ idx every 0 ps → okT t = true := fun x hx => by
    obtain ⟨p, a, n, h2, rfl⟩ := idx_mem ps 0 x hx
    exact ptr_okT (hok _ (List.mem_flatten.2 ⟨p, h2, lastT_mem (hne p h2)⟩))
  have l3 := blk_le (every := 1) hxo
  rw [idx_len] at l3
  have l4 := flat_len ps hne
  unfold tabP
  dsimp only
  revert l1 l2 l3
  generalize data every ps = D
  generalize bloomB (users none ps.flatten) bits = F
  generalize blk 1 (idx every 0 ps) = X
  intro l1 l2 l3
  have hT := tail5_len D.length F.length (D.length + F.length) X.length ps.flatten.length
  have hA := tail5_at D.length F.length (D.length + F.length) X.length ps.flatten.length
  generalize hS : sum4 (tail5 D.length F.length (D.length + F.length) X.length ps.flatten.length) = S
  have hSl : S.length = 4 := by rw [← hS]; exact sum4_len _
  have hA' := hA S
  generalize tail5 D.length F.length (D.length + F.length) X.length ps.flatten.length = E at hT hS hA' ⊢
  have hlen : (D ++ (F ++ (X ++ (E ++ S)))).length = D.length + F.length + X.length + 24 := by
    simp only [List.length_append, hT, hSl]; omega
  have hz : (D ++ (F ++ (X ++ (E ++ S)))).drop ((D ++ (F ++ (X ++ (E ++ S)))).length - 24) = E ++ S := by
    rw [hlen, show D ++ (F ++ (X ++ (E ++ S))) = (D ++ F ++ X) ++ (E ++ S) from by simp only [List.append_assoc]]
    exact List.drop_left' (by rw [List.length_append, List.length_append]; omega)
  have hft : ∀ i, ft (D ++ (F ++ (X ++ (E ++ S)))) i = num (((E ++ S).drop i).take 4) := fun i => by
    unfold ft
    rw [← List.drop_drop, hz]
  obtain ⟨a0, a4, a8, a12, a16⟩ := hA'
  refine ⟨hlen, ?_, ⟨?_, ?_, ?_, ?_, ?_⟩, List.prefix_append _ _, ?_, ?_, by omega⟩
  · rw [hz, List.take_left' hT, hS, hlen, show D ++ (F ++ (X ++ (E ++ S))) = (D ++ F ++ X ++ E) ++ S from by simp only [List.append_assoc]]
    exact List.drop_left' (by simp only [List.length_append, hT]; omega)
  · rw [hft, List.drop_zero, a0, num_low _ _ (by omega)]
  · rw [hft, a4, num_low _ _ (by omega)]
  · rw [hft, a8, num_low _ _ (by omega)]
  · rw [hft, a12, num_low _ _ (by omega)]
  · rw [hft, a16, num_low _ _ (by omega)]
  · rw [List.drop_left, List.take_left]
  · rw [← List.append_assoc, List.drop_left' (by rw [List.length_append]), List.take_left]
/-- The tests that bytes have passed before everything else is looked at. -/
structure Ctx (bs : List Nat) (X : List T) (ps : List (List T)) : Prop where
  h24 : ¬ bs.length < 24
  sum : bs.drop (bs.length - 4) = sum4 ((bs.drop (bs.length - 24)).take 20)
  f1 : ft bs 0 + ft bs 4 = ft bs 8
  f2 : ft bs 8 + ft bs 12 = bs.length - 24
  ix : allB (ixb bs) = (X, 0)
  ne : X ≠ []
  one : blk 1 X = ixb bs
  walk : walk bs (ft bs 0) 0 X = .ok ps
/-- Everything else. -/
def Rest (bs : List Nat) (X : List T) (ps : List (List T)) : Prop := fin 0 X = ft bs 0 ∧ may ps.flatten = 0 ∧ twins ps.flatten = false ∧ ft bs 16 = ps.flatten.length ∧ lowS ps 1 ≤ highS ps 1048576 ∧
  (∃ every, 1 ≤ every ∧ every ≤ 100 ∧ data every ps <+: bs) ∧ ∃ bits, 1 ≤ bits ∧ bits ≤ 40 ∧ bloomB (users none ps.flatten) bits = (bs.drop (ft bs 0)).take (ft bs 4)
/-- What was built passes all tests. -/
theorem isT_ctx {bs : List Nat} {ts : List T} (h : IsT bs ts) : ∃ ps every size, Ctx bs (idx every 0 ps) ps ∧ ps = parts size [] ts ∧ Rest bs (idx every 0 ps) ps ∧ ps.flatten = ts ∧ bs.length ≤ 200000000 ∧ 1 ≤ every ∧ every ≤ 100 := by
  obtain ⟨hmt, size, every, bits, s1, s2, e1, e2, b1, b2, rfl⟩ := h
  obtain ⟨hm, ht, hne0⟩ := mayT_zero hmt
  have hfl : (parts size [] ts).flatten = ts := by rw [parts_flat, List.nil_append]
  have hne := parts_some size ts []
  have hfit := parts_fits s1 ts
  have hpn : parts size [] ts ≠ [] := fun h => by rw [h] at hfl; exact hne0 hfl.symm
  unfold tab
  rw [← hfl] at hm ht
  generalize parts size [] ts = ps at *
  obtain ⟨p1, p2, ⟨p30, p34, p38, p312, p316⟩, p4, p5, p6, p7⟩ := tab_parts (every := every) b2 hne hm
  have hix : ixb (tabP every bits ps) = blk 1 (idx every 0 ps) := by unfold ixb; rw [p38, p312, p6]
  have hmi := idx_may (every := every) 0 hne hm ht
  obtain ⟨R, hR⟩ := p4
  have hw := walk_built (bs := tabP every bits ps) (R := R) (fp := (data every ps).length) ⟨e1, e2⟩ ps 0 (fun p hp => ⟨hne p hp, part_may hm p hp⟩) (by rw [List.drop_zero, hR]) (by rw [Nat.zero_add]) (by omega)
  have hfin := walk_data _ 0 ps hw (Nat.zero_le _) (by omega) (by rw [List.drop_zero]; exact ⟨R, hR⟩)
  refine ⟨ps, every, size, ⟨by omega, p2, by omega, by omega, ?_, ?_, hix.symm, by rw [p30]; exact hw⟩, ?_, ⟨?_, hm, ht, p316, (sized_iff hne).2 ⟨size, s1, s2, hfit⟩, ⟨every, e1, e2, ⟨R, hR⟩⟩, bits, b1, b2, ?_⟩, hfl, p7, e1, e2⟩
  · rw [hix]
    exact allB_ok ⟨hmi, 1, Nat.le_refl _, by omega, rfl⟩
  · intro h
    have := idx_len every ps 0
    rw [h] at this
    exact hpn (List.length_eq_zero_iff.1 this.symm)
  · have := fits_parts s1 ps hfit
    rw [hfl] at this
    exact this.symm
  · rw [p30, hfin.2.1, Nat.zero_add]
  · rw [p30, p34, p5]
theorem chunks (l : List Nat) : l.take 20 = l.take 4 ++ ((l.drop 4).take 4 ++ ((l.drop 8).take 4 ++ ((l.drop 12).take 4 ++ (l.drop 16).take 4))) := by
  have e : ∀ n k, (l.drop n).take (4 + k) = (l.drop n).take 4 ++ (l.drop (n + 4)).take k := fun n k => by rw [List.take_add, List.drop_drop]
  have e0 := e 0 16
  have e4 := e 4 12
  have e8 := e 8 8
  have e12 := e 12 4
  simp only [List.drop_zero, Nat.reduceAdd] at e0 e4 e8 e12
  rw [e0, e4, e8, e12]
/-- Bytes that pass every test were built. -/
theorem rest_isT {bs : List Nat} {X : List T} {ps : List (List T)} (h8 : ∀ x, x ∈ bs → x < 256) (c : Ctx bs X ps) (h : Rest bs X ps) : IsT bs ps.flatten := by
  obtain ⟨q1, q2, q3, q4, q5, ⟨every, e1, e2, q6⟩, bits, b1, b2, q7⟩ := h
  have hne := walk_some X 0 ps c.walk
  obtain ⟨size, s1, s2, hfit⟩ := (sized_iff hne).1 q5
  have hpl := walk_len X 0 ps c.walk
  have hpn : ps ≠ [] := fun h => by rw [h] at hpl; exact c.ne (List.length_eq_zero_iff.1 hpl.symm)
  have hfn : ps.flatten ≠ [] := fun h => by
    have := flat_len ps hne
    rw [h] at this
    exact hpn (List.length_eq_zero_iff.1 (Nat.le_zero.1 this))
  have f1 := c.f1
  have f2 := c.f2
  obtain ⟨d1, d2, d3⟩ := walk_data (every := every) X 0 ps c.walk (Nat.zero_le _) (by omega) (by rw [List.drop_zero]; exact q6)
  rw [q1, Nat.zero_add] at d2
  have hm : mayT ps.flatten = 0 := by
    unfold mayT
    rw [if_neg (by omega), if_neg (by rw [q3]; decide), if_neg hfn]
  refine ⟨hm, size, every, bits, s1, s2, e1, e2, b1, b2, ?_⟩
  unfold tab
  rw [fits_parts s1 ps hfit]
  have hz : (bs.drop (bs.length - 24)).length = 24 := by rw [List.length_drop]; have := c.h24; omega
  have hlow : ∀ i, i ≤ 20 → low (ft bs i) 4 = ((bs.drop (bs.length - 24)).drop i).take 4 := fun i hi => by
    unfold ft
    rw [← List.drop_drop]
    have h4 : (((bs.drop (bs.length - 24)).drop i).take 4).length = 4 := by rw [List.length_take, List.length_drop, hz]; omega
    have := low_num (((bs.drop (bs.length - 24)).drop i).take 4) (fun x hx => h8 x (List.mem_of_mem_drop (List.mem_of_mem_drop (List.mem_of_mem_take hx))))
    rw [h4] at this
    exact this
  have hE : tail5 (ft bs 0) (ft bs 4) (ft bs 8) (ft bs 12) (ft bs 16) = (bs.drop (bs.length - 24)).take 20 := by
    rw [chunks]
    unfold tail5
    rw [hlow 0 (by omega), hlow 4 (by omega), hlow 8 (by omega), hlow 12 (by omega), hlow 16 (by omega), List.drop_zero]
  have hS := c.sum
  unfold tabP
  dsimp only
  rw [q7, ← d1, c.one]
  have hl1 : ((bs.drop (ft bs 0)).take (ft bs 4)).length = ft bs 4 := by rw [List.length_take, List.length_drop]; omega
  have hl2 : (ixb bs).length = ft bs 12 := by unfold ixb; rw [List.length_take, List.length_drop]; omega
  rw [← d2, hl1, hl2, f1, ← q4, hE, ← hS]
  obtain ⟨R, hR⟩ := q6
  have hD : data every ps = bs.take (ft bs 0) := by
    have := congrArg (List.take (data every ps).length) hR
    rw [List.take_left] at this
    rw [d2]
    exact this
  rw [hD]
  unfold ixb
  have a1 : (bs.drop (bs.length - 24)).take 20 ++ bs.drop (bs.length - 4) = bs.drop (bs.length - 24) := by
    conv => rhs; rw [← List.take_append_drop 20 (bs.drop (bs.length - 24)), List.drop_drop]
    rw [show bs.length - 24 + 20 = bs.length - 4 from by have := c.h24; omega]
  have a2 : (bs.drop (ft bs 8)).take (ft bs 12) ++ bs.drop (bs.length - 24) = bs.drop (ft bs 8) := by
    rw [← f2, ← List.drop_drop, List.take_append_drop]
  have a3 : (bs.drop (ft bs 0)).take (ft bs 4) ++ bs.drop (ft bs 8) = bs.drop (ft bs 0) := by
    rw [← f1, ← List.drop_drop, List.take_append_drop]
  rw [a1, a2, a3, List.take_append_drop]
theorem ctx_unique {bs : List Nat} {X Y : List T} {ps qs : List (List T)} (c : Ctx bs X ps) (d : Ctx bs Y qs) : X = Y ∧ ps = qs := by
  have h1 := c.ix
  rw [d.ix] at h1
  have h2 : Y = X := congrArg Prod.fst h1
  subst h2
  have h3 := c.walk
  rw [d.walk] at h3
  injection h3 with h3
  exact ⟨rfl, h3.symm⟩
theorem rest_iff {bs : List Nat} {X : List T} {ps : List (List T)} (h8 : ∀ x, x ∈ bs → x < 256) (c : Ctx bs X ps) : Rest bs X ps ↔ IsT bs ps.flatten :=
  ⟨rest_isT h8 c, fun h => by
    obtain ⟨qs, every, size, d, -, r, -, -⟩ := isT_ctx h
    obtain ⟨rfl, rfl⟩ := ctx_unique c d
    exact r⟩
/-! ### What is answered -/
theorem tallB_short {bs : List Nat} (h : bs.length < 24) : tallB bs = ([], [], 4) := by unfold tallB; rw [if_pos h]
theorem tallB_sum {bs : List Nat} (h : ¬ bs.length < 24) (h2 : bs.drop (bs.length - 4) ≠ sum4 ((bs.drop (bs.length - 24)).take 20)) : tallB bs = ([], [], 5) := by unfold tallB; rw [if_neg h, if_pos h2]
theorem tallB_foot {bs : List Nat} (h : ¬ bs.length < 24) (h2 : bs.drop (bs.length - 4) = sum4 ((bs.drop (bs.length - 24)).take 20)) (h3 : ft bs 0 + ft bs 4 ≠ ft bs 8 ∨ ft bs 8 + ft bs 12 ≠ bs.length - 24) : tallB bs = ([], [], 2) := by
  unfold tallB; rw [if_neg h, if_neg (Classical.not_not.2 h2), if_pos h3]
theorem tallB_ix {bs : List Nat} (h : ¬ bs.length < 24) (h2 : bs.drop (bs.length - 4) = sum4 ((bs.drop (bs.length - 24)).take 20)) (h3 : ft bs 0 + ft bs 4 = ft bs 8) (h4 : ft bs 8 + ft bs 12 = bs.length - 24) (h5 : (allB (ixb bs)).2 ≠ 0) :
    tallB bs = ([], [], inner (allB (ixb bs)).2) := by
  unfold tallB; rw [if_neg h, if_neg (Classical.not_not.2 h2), if_neg (by omega), if_pos h5]
theorem tallB_one {bs : List Nat} (h : ¬ bs.length < 24) (h2 : bs.drop (bs.length - 4) = sum4 ((bs.drop (bs.length - 24)).take 20)) (h3 : ft bs 0 + ft bs 4 = ft bs 8) (h4 : ft bs 8 + ft bs 12 = bs.length - 24) (h5 : (allB (ixb bs)).2 = 0)
    (h6 : (allB (ixb bs)).1 = [] ∨ blk 1 (allB (ixb bs)).1 ≠ ixb bs) : tallB bs = ([], [], 2) := by
  unfold tallB; rw [if_neg h, if_neg (Classical.not_not.2 h2), if_neg (by omega), if_neg (by omega), if_pos h6]
theorem tallB_walk {bs : List Nat} (h : ¬ bs.length < 24) (h2 : bs.drop (bs.length - 4) = sum4 ((bs.drop (bs.length - 24)).take 20)) (h3 : ft bs 0 + ft bs 4 = ft bs 8) (h4 : ft bs 8 + ft bs 12 = bs.length - 24) (h5 : (allB (ixb bs)).2 = 0)
    (h6 : (allB (ixb bs)).1 ≠ []) (h7 : blk 1 (allB (ixb bs)).1 = ixb bs) {e : Nat} (h9 : walk bs (ft bs 0) 0 (allB (ixb bs)).1 = .error e) : tallB bs = ([], [], e) := by
  unfold tallB; rw [if_neg h, if_neg (Classical.not_not.2 h2), if_neg (by omega), if_neg (by omega), if_neg (by rintro (a | a); exact h6 a; exact a h7), h9]
theorem tallB_rest {bs : List Nat} {X : List T} {ps : List (List T)} (c : Ctx bs X ps) (h : ¬ IsT bs ps.flatten) : tallB bs = ([], [], 2) := by
  have hix := c.ix
  unfold tallB
  rw [if_neg c.h24, if_neg (Classical.not_not.2 c.sum), if_neg (by have := c.f1; have := c.f2; omega), hix, if_neg (by simp), if_neg (by rintro (a | a); exact c.ne a; exact a c.one)]
  dsimp only
  rw [c.walk]
  dsimp only
  rw [if_neg h]
theorem tallB_ctx {bs : List Nat} {X : List T} {ps : List (List T)} (c : Ctx bs X ps) (h : IsT bs ps.flatten) : tallB bs = (ps.flatten, X, 0) := by
  have hix := c.ix
  unfold tallB
  rw [if_neg c.h24, if_neg (Classical.not_not.2 c.sum), if_neg (by have := c.f1; have := c.f2; omega), hix, if_neg (by simp), if_neg (by rintro (a | a); exact c.ne a; exact a c.one)]
  dsimp only
  rw [c.walk]
  dsimp only
  rw [if_pos h]
theorem tallB_ok {bs : List Nat} {ts : List T} (h : IsT bs ts) : ∃ every size, 1 ≤ every ∧ every ≤ 100 ∧ tallB bs = (ts, idx every 0 (parts size [] ts), 0) ∧ Ctx bs (idx every 0 (parts size [] ts)) (parts size [] ts) ∧ Rest bs (idx every 0 (parts size [] ts)) (parts size [] ts) := by
  obtain ⟨ps, every, size, c, rfl, r, hf, -, e1, e2⟩ := isT_ctx h
  refine ⟨every, size, e1, e2, ?_, c, r⟩
  rw [tallB_ctx c (by rw [hf]; exact h), hf]
end Go.Proofs.Ytobjiamdljjkjaa.Tb

/- The document's tables: what entries count, whether two are alike, the user keys. -/
namespace Go.Proofs.Ytobjiamdljjkjaa.Tb
set_option linter.unusedVariables false
set_option linter.unusedSimpArgs false
open Go.RowKit Lift Ik Sk Vn Bk Bl Sq
theorem take_next {α : Type} {l : List α} {j : Nat} {x : α} (h : l[j]? = some x) : l.take (j + 1) = l.take j ++ [x] := by
  rw [List.take_add_one, h]; rfl
theorem runs {w : World} {B c : Nat} {A : Option Addr} {bs : List Nat} (hl : Lies w B A (bs.map vb)) : Sem.run Try.prog (convert 25 9 (.slice A bs.length c)) w = .ok (.string (str bs)) w :=
  run_string_lies (P := Try.prog) (c := c) _ _ 5 Try.underlying25 Try.underlying5 Try.underlying9 hl
theorem twins_iff : ∀ ts : List T, twins ts = true ↔ ∃ i a b, ts[i]? = some a ∧ ts[i + 1]? = some b ∧ a.k.key = b.k.key ∧ a.k.seq = b.k.seq
  | [] => by simp [twins]
  | [a] => by
    constructor
    · intro h; cases h
    · rintro ⟨i, x, y, -, h, -⟩; simp at h
  | a :: b :: l => by
    have e : twins (a :: b :: l) = ((decide (a.k.key = b.k.key) && decide (a.k.seq = b.k.seq)) || twins (b :: l)) := rfl
    rw [e, Bool.or_eq_true, twins_iff (b :: l)]
    constructor
    · rintro (h | ⟨i, x, y, h1, h2, h3⟩)
      · simp at h
        exact ⟨0, a, b, rfl, rfl, h.1, h.2⟩
      · exact ⟨i + 1, x, y, h1, h2, h3⟩
    · rintro ⟨i, x, y, h1, h2, h3, h4⟩
      cases i with
      | zero =>
        simp at h1 h2
        subst h1; subst h2
        left; simp [h3, h4]
      | succ i => exact .inr ⟨i, x, y, h1, h2, h3, h4⟩
theorem users_take : ∀ (ts : List T) (j : Nat) (t : T) (last : Option (List Nat)), ts[j]? = some t → users last (ts.take (j + 1)) = users last (ts.take j) ++ (if (if j = 0 then last else (ts[j - 1]?).map fun u => u.k.key) = some t.k.key then [] else [t.k.key])
  | [], j, t, last, h => by simp at h
  | a :: ts, 0, t, last, h => by
    simp at h
    subst h
    simp [users]
  | a :: ts, j + 1, t, last, h => by
    have ih := users_take ts j t (some a.k.key) h
    rw [List.take_succ_cons, List.take_succ_cons]
    unfold users
    rw [ih, List.append_assoc]
    congr 2
    cases j with
    | zero => simp
    | succ j => simp
/-- Slices of bytes, told. -/
def Users (w : World) (U : List (List Nat)) (e : Ending) (w' : World) : Prop := ∃ (A : Option Addr) (c : Nat) (Es : List E), e = .returned (.slice A Es.length c) ∧ Es.map E.bs = U ∧ Seqs w' w'.heap.size A c Es ∧ Below w.heap.size w w'
end Go.Proofs.Ytobjiamdljjkjaa.Tb

/- The document's tables: an entry of the index. -/
namespace Go.Proofs.Ytobjiamdljjkjaa.Tb
set_option linter.unusedVariables false
set_option linter.unusedSimpArgs false
open Go.RowKit Lift Ik Sk Vn Bk Bl Sq
theorem held_row {P : Program} {w : World} {ops : Array Oper} {o : Oper} {a : Act} {K' : Act → World → Prop} {Q : Exit → Act → World → Prop} (hw : Region.wanted o (yielded ops a.tmps) = true) (ty : TypeId) (x y : Operand)
    (ho : o.op = .store ty x y) (g : Nat) (cells : Array Value) (hx : a.eval x = .pointer (some ⟨g, 0, none⟩)) (hy : a.eval y = .agg cells) (t : TypeId) (old : Array Value) (hg : w.heap[g]? = some (.cells old t (0, 0)))
    (hi : (P.info? ty).map (·.size) = some cells.size) (hold : old.size = cells.size) (h1 : cells.all (·.oneCell') = true) (h : K' (a.put o.dst undef) (w.setRow g cells)) :
    if Region.wanted o (yielded ops a.tmps) = true then Oper.wp P o a w K' Q else K' (a.put o.dst undef) w := by
  rw [if_pos hw]
  exact wp_store_row ty x y ho g cells hx hy t old hg hi hold h1 h
/-- A slice of bytes of the call's own lies outside of a box of another type. -/
theorem own_apart3 {w : World} {base n X c : Nat} {A : Option Addr} {bs : List Nat} {us : List Value} (h : w.ownsRow base 5 1 (.slice A n c) n (bs.map vb)) (hx : Lift.Box w X 48 us) : LiesP w (fun k => Fresh base w k ∧ k ≠ X) A (bs.map vb) := by
  refine LiesP.later (LiesP.of_own h) (fun _ _ => rfl) fun k hk => ?_
  obtain ⟨hk0, hk1, cs, fr, hk2⟩ := hk
  refine ⟨⟨hk0, hk1, cs, fr, hk2⟩, fun e => ?_⟩
  subst e
  unfold Lift.Box at hx
  rw [hk2] at hx
  injection hx with hx
  injection hx with _ h2
  exact absurd h2 (by decide)
/-- An entry that is told. -/
def Ptr (B : Nat) (w : World) (t : T) (e : Ending) (w' : World) : Prop := ∃ d : D, e = .returned d.v ∧ d.t = t ∧ d.Ok w' (fun k => k < B ∨ Fresh w.heap.size w' k) ∧ Below w.heap.size w w'
end Go.Proofs.Ytobjiamdljjkjaa.Tb

/- The document's tables: whether parts could be, whether blocks and a filter are alike. -/
namespace Go.Proofs.Ytobjiamdljjkjaa.Tb
set_option linter.unusedVariables false
set_option linter.unusedSimpArgs false
open Go.RowKit Lift Ik Sk Vn Bk Bl Sq
/-- A part, as it lies. -/
structure P where
  a : Option Addr
  c : Nat
  L : List D
abbrev P.v (p : P) : Value := .slice p.a p.L.length p.c
abbrev P.ts (p : P) : List T := p.L.map D.t
/-- Parts, as they lie. -/
structure Pts (w : World) (A : Option Addr) (c : Nat) (Ps : List P) : Prop where
  lies : Lies w w.heap.size A (Ps.map P.v)
  len : Ps.length ≤ c
  cap : c ≤ maxLen
  ok : ∀ p, p ∈ Ps → Ents w (· < w.heap.size) p.a p.c p.L
theorem Pts.next {w w' : World} {A : Option Addr} {c : Nat} {Ps : List P} (h : Pts w A c Ps) (hb : Below w.heap.size w w') : Pts w' A c Ps := ⟨(h.lies.below hb).up hb.size, h.len, h.cap, fun p hp => (h.ok p hp).next hb⟩
theorem Pts.place {w : World} {A : Option Addr} {c : Nat} {Ps : List P} (h : Pts w A c Ps) {i : Nat} {p : P} (he : Ps[i]? = some p) : ∃ ad : Addr, A = some ad ∧ ad.block < w.heap.size ∧ w.cell? (ad.add i) = some (.slice p.a p.L.length p.c) := by
  have hl := (List.getElem?_eq_some_iff.1 he).1
  obtain ⟨ad, ha, hb, hc⟩ := h.lies.place (by rw [List.length_map]; omega)
  exact ⟨ad, ha, hb, hc i _ (by rw [List.getElem?_map, he]; rfl)⟩
theorem cut_ents (A : Option Addr) (n c k : Nat) (h : k ≤ c) (hc : n ≤ c) (hm : c ≤ maxLen) (W : World) : Sem.run Try.prog (Instr.slice 22 (.slice A n c) none (some (.int .i64 (k : Int))) none) W = .ok (.slice A k c) W := by
  unfold maxLen at hm
  go_simp
theorem ents_front {w : World} {R : Nat → Prop} {A : Option Addr} {c : Nat} {L : List D} (h : Ents w R A c L) (n : Nat) : Ents w R A c (L.take n) := by
  refine ⟨?_, by rw [List.length_take]; exact Nat.le_trans (Nat.min_le_right _ _) h.len, h.cap, fun d hd => h.ok d (List.mem_of_mem_take hd)⟩
  rcases h.lies with h0 | ⟨ad, ha, hb, hc⟩
  · left
    have := cellsL_length L
    rw [h0] at this
    have : L = [] := List.length_eq_zero_iff.1 (by simp at this; omega)
    subst this
    simp [cellsL]
  · refine .inr ⟨ad, ha, hb, fun j u hu => hc j u ?_⟩
    have e : cellsL L = cellsL (L.take n) ++ cellsL (L.drop n) := by rw [← cellsL_append, List.take_append_drop]
    rw [e, List.getElem?_append_left (List.getElem?_eq_some_iff.1 hu).1]
    exact hu
def minS : List (List T) → Nat → Nat
  | [], m => m
  | p :: ps, m => minS ps (min m (weigh p))
theorem highS_min : ∀ (ps : List (List T)) (m : Nat), highS ps m = minS ps.dropLast m
  | [], m => rfl
  | [p], m => rfl
  | p :: q :: ps, m => by
    rw [List.dropLast_cons_cons]
    show highS (q :: ps) (min m (weigh p)) = minS (q :: ps).dropLast (min m (weigh p))
    exact highS_min (q :: ps) _
theorem minS_snoc : ∀ (ps : List (List T)) (p : List T) (m : Nat), minS (ps ++ [p]) m = min (minS ps m) (weigh p)
  | [], p, m => rfl
  | q :: ps, p, m => by
    show minS (ps ++ [p]) (min m (weigh q)) = _
    rw [minS_snoc ps]; rfl
theorem lowS_snoc : ∀ (ps : List (List T)) (p : List T) (m : Nat), lowS (ps ++ [p]) m = max (lowS ps m) (weigh p.dropLast + 1)
  | [], p, m => rfl
  | q :: ps, p, m => by
    show lowS (ps ++ [p]) (max m (weigh q.dropLast + 1)) = _
    rw [lowS_snoc ps]; rfl
theorem minS_le : ∀ (ps : List (List T)) (m : Nat), minS ps m ≤ m
  | [], m => Nat.le_refl _
  | q :: ps, m => Nat.le_trans (minS_le ps _) (Nat.min_le_left _ _)
/-- How far parts may go. -/
structure Fine (p : P) : Prop where
  ne : p.L ≠ []
  len : p.L.length ≤ 10000
  ok : ∀ d, d ∈ p.L → okT d.t = true
theorem okT_len {d : D} (h : okT d.t = true) : d.k.key.length ≤ 300 ∧ d.val.length ≤ 5000 := by
  have h1 := okT_key h
  have h2 := okT_val h
  have h3 := of_decide_eq_true h1
  have h4 : d.k.key.length ≤ 256 := h3.2.1
  have h5 : d.val.length ≤ 4096 := h2
  omega
theorem weigh_max : ∀ ts : List T, (∀ t, t ∈ ts → t.k.key.length ≤ 300 ∧ t.val.length ≤ 5000) → weigh ts ≤ 5400 * ts.length
  | [], _ => by simp [weigh]
  | t :: ts, h => by
    have h1 := weigh_max ts fun u hu => h u (List.mem_cons_of_mem _ hu)
    have h2 := h t (List.mem_cons_self ..)
    rw [weigh_cons, List.length_cons]
    unfold wgt
    omega
theorem fine_weigh {p : P} (h : Fine p) (n : Nat) : weigh ((p.L.take n).map D.t) ≤ 54000000 := by
  have h1 := weigh_max ((p.L.take n).map D.t) fun t ht => by
    obtain ⟨d, hd, rfl⟩ := List.mem_map.1 ht
    exact okT_len (h.ok d (List.mem_of_mem_take hd))
  rw [List.length_map, List.length_take] at h1
  have := h.len
  omega
end Go.Proofs.Ytobjiamdljjkjaa.Tb

/- The document's tables: whether blocks, and a filter, are those of some numbers. -/
namespace Go.Proofs.Ytobjiamdljjkjaa.Tb
set_option linter.unusedVariables false
set_option linter.unusedSimpArgs false
open Go.RowKit Lift Ik Sk Vn Bk Bl Sq
/-- A verdict. -/
def Says (w : World) (p : Prop) (e : Ending) (w' : World) : Prop := ∃ r : Bool, e = .returned (.bool r) ∧ (r = true ↔ p) ∧ Below w.heap.size w w'
theorem data_snoc (every : Nat) (ps : List (List T)) (p : List T) : data every (ps ++ [p]) = data every ps ++ blk every p := by unfold data; rw [List.flatMap_append, List.flatMap_cons, List.flatMap_nil, List.append_nil]
theorem data_max (every : Nat) : ∀ Ps : List P, (∀ p, p ∈ Ps → Fine p) → (data every (Ps.map P.ts)).length ≤ 45000000 * Ps.length
  | [], _ => by simp [data]
  | p :: Ps, h => by
    have h1 := data_max every Ps fun q hq => h q (List.mem_cons_of_mem _ hq)
    have h2 := h p (List.mem_cons_self ..)
    have h3 := blk_le (every := every) (ts := p.ts) (fun t ht => by obtain ⟨d, hd, rfl⟩ := List.mem_map.1 ht; exact h2.ok d hd)
    have h4 : p.ts.length = p.L.length := List.length_map ..
    have h5 := h2.len
    rw [List.map_cons, data_cons, List.length_append, List.length_cons]
    omega
theorem data_byte (every : Nat) : ∀ Ps : List P, (∀ p, p ∈ Ps → ∀ d, d ∈ p.L → okT d.t = true ∧ d.k.ok ∧ ∀ c, c ∈ d.val → c < 256) → ∀ x, x ∈ data every (Ps.map P.ts) → x < 256
  | [], _, x, hx => by simp [data] at hx
  | p :: Ps, h, x, hx => by
    rw [List.map_cons, data_cons] at hx
    rcases List.mem_append.1 hx with h1 | h1
    · exact blk_byte (h p (List.mem_cons_self ..)) x h1
    · exact data_byte every Ps (fun q hq => h q (List.mem_cons_of_mem _ hq)) x h1
end Go.Proofs.Ytobjiamdljjkjaa.Tb

/- Bytes and entries of the call's own, beside each other, while both grow. -/
namespace Go.Proofs.Ytobjiamdljjkjaa.Tb
set_option linter.unusedVariables false
set_option linter.unusedSimpArgs false
open Go.RowKit Lift Ik Sk Vn Bk Bl Sq
/-- A block that no append to b can touch: old, or bytes apart from b's own. -/
def Rb (B : Nat) (w : World) (b : Value) (k : Nat) : Prop := k < w.heap.size ∧ ¬ b.ownBlock = some k ∧ (k < B ∨ ∃ cs fr, w.heap[k]? = some (.cells cs 5 fr))
/-- Bytes b (X) and entries v (L), both of the call's own. -/
structure Tw (B : Nat) (w : World) (v b : Value) (L : List D) (X : List Nat) : Prop where
  iown : w.ownsRow B 48 4 v L.length (cellsL L)
  bown : w.ownsRow B 5 1 b X.length (X.map vb)
  ok : ∀ d, d ∈ L → d.Ok w (Rb B w b)
  base : B ≤ w.heap.size
section
variable {B : Nat} {w w' : World} {v b : Value} {L : List D} {X : List Nat}
theorem Tw.start (w : World) : Tw w.heap.size w (.slice none 0 0) (.slice none 0 0) [] [] := ⟨World.ownsRow_nil _ _ _ _, World.ownsRow_nil _ _ _ _, fun d hd => (by cases hd), Nat.le_refl _⟩
theorem Rb.below (hb : Below w.heap.size w w') (k : Nat) (h : Rb B w b k) : Rb B w' b k :=
  ⟨Nat.lt_of_lt_of_le h.1 hb.size, h.2.1, h.2.2.imp id fun ⟨cs, fr, h3⟩ => ⟨cs, fr, (hb.block k h.1).trans h3⟩⟩
theorem Tw.below (h : Tw B w v b L X) (hb : Below w.heap.size w w') : Tw B w' v b L X :=
  ⟨own_later h.iown hb, own_later h.bown hb, fun d hd => (h.ok d hd).later (fun k hk => hb.block k hk.1) (Rb.below hb), Nat.le_trans h.base hb.size⟩
theorem own_type {e e' : TypeId} {v : Value} {base n size k : Nat} {xs : List Value} (h : w.ownsRow base e size v n xs) (hk : v.ownBlock = some k) {cs : Array Value} {fr : Nat × Nat} (h2 : w.heap[k]? = some (.cells cs e' fr)) : e = e' := by
  obtain ⟨cs2, fr2, h3⟩ := own_blk h hk
  rw [h2] at h3
  injection h3 with h3
  injection h3 with _ h3
  exact h3.symm
/-- One entry more. -/
theorem Tw.entry (h : Tw B w v b L X) {d : D} (hd : d.Ok w (Rb B w b)) (hL : L.length ≤ 100000000) :
    ∃ v' w', Sem.run Try.prog (Builtin.append_ #[22, 22] 22 #[v, .slice (some ⟨w.heap.size, 0, none⟩) 1 1]) (w.alloc (ebox d)) = .ok v' w' ∧ Tw B w' v' b (L ++ [d]) X ∧ Below B w w' ∧
      ∀ (base n : Nat) (u : Value) (xs : List Value), w.ownsRow base 5 1 u n xs → w'.ownsRow base 5 1 u n xs := by
  have hb := below_box w d
  have hl : Lies (w.alloc (ebox d)) (w.heap.size + 1) (some ⟨w.heap.size, 0, none⟩) d.cells := lies_block (cs := d.cells.toArray) (heap_alloc_new w _) (Nat.lt_succ_self _)
  have h1 := h.below hb
  obtain ⟨v', w', hr, ho, hon⟩ := run_append_onto (P := Try.prog) (m := 1) (c := 1) 22 22 48 (.agg #[.slice none 0 0, .int .u64 0, .int .i64 0, .slice none 0 0]) 4 64 Try.underlying22 (by kernel_rfl) rfl (by decide)
    (fun u hu => by simp [D.cells] at hu; rcases hu with rfl | rfl | rfl | rfl <;> rfl) h1.iown hl rfl (by unfold maxLen; omega) (by omega) h1.base
  have hbel : Below B w w' := (hb.mono h.base).trans (hon.below h1.iown h1.base)
  have hbytes : ∀ (base n : Nat) (u : Value) (xs : List Value), w.ownsRow base 5 1 u n xs → w'.ownsRow base 5 1 u n xs := fun base n u xs hu => by
    have hu1 := own_later hu hb
    exact own_kept hu1 hon.keep fun k hk hv => by
      obtain ⟨cs, fr, h3⟩ := own_blk hu1 hk
      exact absurd (own_type h1.iown hv h3) (by decide)
  have hk : ∀ k, Rb B w b k → w'.heap[k]? = w.heap[k]? := fun k hk => by
    have hk1 := Rb.below hb k hk
    rw [hon.keep.block k hk1.1 (fun hv => ?_), hb.block k hk.1]
    rcases hk1.2.2 with h2 | ⟨cs, fr, h3⟩
    · exact absurd (h1.iown.lt k hv).1 (Nat.not_le_of_lt h2)
    · exact absurd (own_type h1.iown hv h3) (by decide)
  have hf : ∀ k, Rb B w b k → Rb B w' b k := fun k hk2 => ⟨Nat.lt_of_lt_of_le hk2.1 hbel.size, hk2.2.1, hk2.2.2.imp id fun ⟨cs, fr, h3⟩ => ⟨cs, fr, (hk k hk2).trans h3⟩⟩
  refine ⟨v', w', hr, ⟨by rw [List.length_append, cellsL_append]; simpa [cellsL] using ho, hbytes _ _ _ _ h.bown, fun e he => ?_, Nat.le_trans h.base hbel.size⟩, hbel, hbytes⟩
  rcases List.mem_append.1 he with he | he
  · exact (h.ok e he).later hk hf
  · simp at he
    subst he
    exact hd.later hk hf
/-- Bytes more. -/
theorem Tw.bytes (h : Tw B w v b L X) {A : Option Addr} {B2 c : Nat} {ts : List Nat} (hl : Lies w B2 A (ts.map vb)) (hn : X.length + ts.length ≤ 140737488355000) :
    ∃ b' w', Sem.run Try.prog (Builtin.append_ #[25, 25] 25 #[b, .slice A ts.length c]) w = .ok b' w' ∧ Tw B w' v b' L (X ++ ts) ∧ Below B w w' ∧ Onto b b' w w' := by
  obtain ⟨b', w', hr, ho, hon⟩ := append_bytes (c := c) h.bown hl hn h.base
  have hbel := hon.below h.bown h.base
  have hk : ∀ k, Rb B w b k → w'.heap[k]? = w.heap[k]? := fun k hk => hon.keep.block k hk.1 hk.2.1
  refine ⟨b', w', hr, ⟨own_kept h.iown hon.keep fun k hk1 hv => ?_, ho, fun d hd => (h.ok d hd).later hk fun k hk2 => ⟨Nat.lt_of_lt_of_le hk2.1 hbel.size, fun hv => ?_, hk2.2.2.imp id fun ⟨cs, fr, h3⟩ => ⟨cs, fr, (hk k hk2).trans h3⟩⟩, Nat.le_trans h.base hbel.size⟩, hbel, hon⟩
  · obtain ⟨cs, fr, h3⟩ := own_blk h.iown hk1
    exact absurd (own_type h.bown hv h3) (by decide)
  · rcases hon.place k hv with h4 | h4
    · exact hk2.2.1 h4
    · exact absurd hk2.1 (Nat.not_lt_of_le h4)
/-- What a later call has made lies outside of b's block. -/
theorem off_new {A : Option Addr} {base base2 n n2 c : Nat} {Y : List Nat} (h : w.ownsRow base 5 1 b n (X.map vb)) (hlt : ∀ k, b.ownBlock = some k → k < base2) (h2 : w.ownsRow base2 5 1 (.slice A n2 c) n2 (Y.map vb)) : Off b w A (Y.map vb) := by
  refine LiesP.later (LiesP.of_own h2) (fun _ _ => rfl) fun k hk => ⟨hk.2.1, fun hv => ?_⟩
  have := hlt k hv
  exact absurd hk.1 (Nat.not_le_of_lt this)
end
theorem key_load {w : World} {d : D} {p : Addr} (q0 : w.cell? p = some (.slice d.ka d.k.key.length d.kc)) (q1 : w.cell? ⟨p.block, p.off + 1, none⟩ = some (.int .u64 (d.k.seq : Int))) (q2 : w.cell? ⟨p.block, p.off + 2, none⟩ = some (.int .i64 d.k.kind)) :
    Sem.run Try.prog (loadVar 38 p) w = .ok (key d.ka d.kc d.k) w := KD.load (d := ⟨d.ka, d.kc, d.k⟩) q0 q1 q2
theorem cut_ents_mid (A : Option Addr) (n c p k : Nat) (h : p + k ≤ n) (hc : n ≤ c) (hm : c ≤ maxLen) :
    ∃ A' : Option Addr, (0 < k → A' = A.map (·.add (p * 4))) ∧ ∀ (W : World) (q : Int), q = (p : Int) + (k : Int) → Sem.run Try.prog (Instr.slice 22 (.slice A n c) (some (.int .i64 (p : Int))) (some (.int .i64 q)) none) W = .ok (.slice A' k (c - p)) W := by
  unfold maxLen at hm
  by_cases hcp : c = p
  · refine ⟨A, fun h0 => by omega, fun W q hq => ?_⟩
    obtain rfl : k = 0 := by omega
    obtain rfl : n = p := by omega
    subst hcp hq
    go_simp
  · refine ⟨A.map (·.add (p * 4)), fun _ => rfl, fun W q hq => ?_⟩
    subst hq
    go_simp
    rw [if_pos ⟨by omega, by omega⟩, if_pos (by omega), show ((p : Int) + (k : Int)).toNat - p = k by omega]
theorem ents_mid {w : World} {R : Nat → Prop} {A A' : Option Addr} {c p k : Nat} {L : List D} (h : Ents w R A c L) (hp : p + k ≤ L.length) (hA : 0 < k → A' = A.map (·.add (p * 4))) : Ents w R A' (c - p) ((L.drop p).take k) := by
  have hlen : ((L.drop p).take k).length = k := by rw [List.length_take, List.length_drop]; omega
  have h1 := h.len
  have h2 := h.cap
  refine ⟨?_, by rw [hlen]; omega, by omega, fun d hd => h.ok d (List.mem_of_mem_drop (List.mem_of_mem_take hd))⟩
  by_cases h0 : k = 0
  · left
    have : (L.drop p).take k = [] := by rw [h0]; rfl
    rw [this]; rfl
  · rcases h.lies with h3 | ⟨ad, ha, hb, hc⟩
    · have := cellsL_length L
      rw [h3] at this
      simp at this
      omega
    · rw [hA (by omega), ha]
      refine .inr ⟨ad.add (p * 4), rfl, by rw [add_block]; exact hb, fun j u hu => ?_⟩
      rw [Lift.add_add]
      refine hc _ _ ?_
      have e : cellsL L = cellsL (L.take p) ++ (cellsL ((L.drop p).take k) ++ cellsL ((L.drop p).drop k)) := by rw [← cellsL_append, ← cellsL_append, List.take_append_drop, List.take_append_drop]
      have hl : (cellsL (L.take p)).length = p * 4 := by rw [cellsL_length, List.length_take]; congr 1; omega
      rw [e, List.getElem?_append_right (by omega), hl, Nat.add_sub_cancel_left, List.getElem?_append_left (List.getElem?_eq_some_iff.1 hu).1]
      exact hu
end Go.Proofs.Ytobjiamdljjkjaa.Tb

/- The document's tables: Table. -/
namespace Go.Proofs.Ytobjiamdljjkjaa.Tb
set_option linter.unusedVariables false
set_option linter.unusedSimpArgs false
open Go.RowKit Lift Ik Sk Vn Bk Bl Sq
def clampS (n : Int) : Nat := (min (max n 1) 1048576).toNat
theorem clampS_in (n : Int) : 1 ≤ clampS n ∧ clampS n ≤ 1048576 := by unfold clampS; omega
def tabB (size every bits : Int) (ts : List T) : List Nat := if mayT ts = 0 then tab (clampS size) (clamp every) (clampB bits) ts else []
theorem tabB_no {size every bits : Int} {ts : List T} (h : mayT ts ≠ 0) : tabB size every bits ts = [] := if_neg h
theorem tabB_ok {size every bits : Int} {ts : List T} (h : mayT ts = 0) : tabB size every bits ts = tab (clampS size) (clamp every) (clampB bits) ts := if_pos h
/-- What Build answers. -/
def Tabd (w : World) (size every bits : Int) (ts : List T) (e : Ending) (w' : World) : Prop :=
  ∃ v, e = .returned (.tuple #[v, .int .i64 (mayT ts : Nat)]) ∧ w'.ownsRow w.heap.size 5 1 v (tabB size every bits ts).length ((tabB size every bits ts).map vb) ∧ Below w.heap.size w w'
theorem Tabd.no {w w' : World} {size every bits : Int} {ts : List T} {n : Nat} (h : mayT ts = n) (hn : n ≠ 0) (hb : Below w.heap.size w w') : Tabd w size every bits ts (.returned (.tuple #[.slice none 0 0, .int .i64 (n : Int)])) w' :=
  ⟨_, by rw [h], by rw [tabB_no (by omega)]; exact World.ownsRow_nil _ _ _ _, hb⟩
theorem idx_snoc (every : Nat) : ∀ (ps : List (List T)) (p : List T) (a : Nat), idx every a (ps ++ [p]) = idx every a ps ++ [ptr (lastT p) (a + (data every ps).length) (blk every p).length]
  | [], p, a => by simp [idx, data]
  | q :: ps, p, a => by
    have h := idx_snoc every ps p (a + (blk every q).length)
    show ptr (lastT q) a (blk every q).length :: idx every (a + (blk every q).length) (ps ++ [p]) = _
    rw [h, data_cons, List.length_append, Nat.add_assoc]
    rfl
theorem lastT_snoc (a : List T) (t : T) : lastT (a ++ [t]) = t := by unfold lastT; rw [List.getLastD_eq_getLast?, List.getLast?_concat]; rfl
theorem cut_more {ts : List T} {f j : Nat} {t : T} (hf : f ≤ j) (ht : ts[j]? = some t) : (ts.drop f).take (j + 1 - f) = (ts.drop f).take (j - f) ++ [t] := by
  rw [show j + 1 - f = (j - f) + 1 from by omega]
  exact take_next (by rw [List.getElem?_drop, show f + (j - f) = j from by omega]; exact ht)
theorem drop_at {ts : List T} {j : Nat} {t : T} (ht : ts[j]? = some t) : ts.drop j = t :: ts.drop (j + 1) := by
  obtain ⟨h, e⟩ := List.getElem?_eq_some_iff.1 ht
  rw [List.drop_eq_getElem_cons h, e]
end Go.Proofs.Ytobjiamdljjkjaa.Tb

/- Entries, parts and an index beside each other; the walk over an index, step by step. -/
namespace Go.Proofs.Ytobjiamdljjkjaa.Tb
set_option linter.unusedVariables false
set_option linter.unusedSimpArgs false
open Go.RowKit Lift Ik Sk Vn Bk Bl Sq
open Vt (res)
/-- A new block that no append to va or vp can touch. -/
def Ra (B : Nat) (w : World) (va vp : Value) (k : Nat) : Prop := B ≤ k ∧ k < w.heap.size ∧ ¬ va.ownBlock = some k ∧ ¬ vp.ownBlock = some k
/-- All entries (va), the parts (vp), the index (X). -/
structure Va (B : Nat) (w : World) (va vp : Value) (La : List D) (Ps : List P) (Ax : Option Addr) (cx : Nat) (X : List D) : Prop where
  aown : w.ownsRow B 48 4 va La.length (cellsL La)
  pown : w.ownsRow B 22 1 vp Ps.length (Ps.map P.v)
  aok : ∀ d, d ∈ La → d.Ok w (Ra B w va vp)
  pok : ∀ p, p ∈ Ps → Ents w (Ra B w va vp) p.a p.c p.L
  xok : Ents w (Ra B w va vp) Ax cx X
  base : B ≤ w.heap.size
section
variable {B : Nat} {w w' : World} {va vp : Value} {La : List D} {Ps : List P} {Ax : Option Addr} {cx : Nat} {X : List D}
theorem Ra.below (hb : Below w.heap.size w w') (k : Nat) (h : Ra B w va vp k) : Ra B w' va vp k := ⟨h.1, Nat.lt_of_lt_of_le h.2.1 hb.size, h.2.2⟩
theorem Va.below (h : Va B w va vp La Ps Ax cx X) (hb : Below w.heap.size w w') : Va B w' va vp La Ps Ax cx X :=
  have hk : ∀ k, Ra B w va vp k → w'.heap[k]? = w.heap[k]? := fun k hk => hb.block k hk.2.1
  ⟨own_later h.aown hb, own_later h.pown hb, fun d hd => (h.aok d hd).later hk (Ra.below hb), fun p hp => (h.pok p hp).later hk (Ra.below hb), h.xok.later hk (Ra.below hb), Nat.le_trans h.base hb.size⟩
/-- What a later call has made lies apart. -/
theorem Va.apart (h : Va B w va vp La Ps Ax cx X) (hb : Below w.heap.size w w') {k : Nat} (hk : w.heap.size ≤ k ∧ k < w'.heap.size) : Ra B w' va vp k :=
  ⟨Nat.le_trans h.base hk.1, hk.2, fun hv => absurd (h.aown.lt k hv).2 (Nat.not_lt_of_le hk.1), fun hv => absurd (h.pown.lt k hv).2 (Nat.not_lt_of_le hk.1)⟩
/-- A part more. -/
theorem Va.part (h : Va B w va vp La Ps Ax cx X) {p : P} (hp : Ents w (Ra B w va vp) p.a p.c p.L) (hn : Ps.length ≤ 100000000) :
    ∃ vp' w', Sem.run Try.prog (Builtin.append_ #[115, 115] 115 #[vp, .slice (some ⟨w.heap.size, 0, none⟩) 1 1]) (w.alloc (.cells #[p.v] 22)) = .ok vp' w' ∧ Va B w' va vp' La (Ps ++ [p]) Ax cx X ∧ Below B w w' ∧ Ents w' (Ra B w' va vp') p.a p.c p.L := by
  have hb : Below w.heap.size w (w.alloc (.cells #[p.v] 22)) := Joins.below_alloc1 w _
  have hl : Lies (w.alloc (.cells #[p.v] 22)) (w.heap.size + 1) (some ⟨w.heap.size, 0, none⟩) [p.v] := lies_block (cs := #[p.v]) (heap_alloc_new w _) (Nat.lt_succ_self _)
  have h1 := h.below hb
  obtain ⟨vp', w', hr, ho, hon⟩ := run_append_onto (P := Try.prog) (m := 1) (c := 1) 115 115 22 (.slice none 0 0) 1 24 Try.underlying115 (by kernel_rfl) rfl (by decide)
    (fun u hu => by simp at hu; subst hu; rfl) h1.pown hl rfl (by unfold maxLen; omega) (by omega) h1.base
  have hbel : Below B w w' := (hb.mono h.base).trans (hon.below h1.pown h1.base)
  have hk : ∀ k, Ra B w va vp k → w'.heap[k]? = w.heap[k]? := fun k hk => by rw [hon.keep.block k (Nat.lt_of_lt_of_le hk.2.1 hb.size) hk.2.2.2, hb.block k hk.2.1]
  have hR : ∀ k, Ra B w va vp k → Ra B w' va vp' k := fun k hk2 => ⟨hk2.1, Nat.lt_of_lt_of_le hk2.2.1 hbel.size, hk2.2.2.1, fun hv => by
    rcases hon.place k hv with h4 | h4
    · exact hk2.2.2.2 h4
    · exact absurd (Nat.lt_of_lt_of_le hk2.2.1 hb.size) (Nat.not_lt_of_le h4)⟩
  have hp' := hp.later hk hR
  refine ⟨vp', w', hr, ⟨own_kept h1.aown hon.keep fun k hk1 hv => ?_, by rw [List.length_append, List.map_append]; exact ho, fun d hd => (h.aok d hd).later hk hR, fun q hq => ?_, h.xok.later hk hR, Nat.le_trans h.base hbel.size⟩, hbel, hp'⟩
  · obtain ⟨cs, fr, h3⟩ := own_blk h1.aown hk1
    exact absurd (own_type h1.pown hv h3) (by decide)
  · rcases List.mem_append.1 hq with h5 | h5
    · exact (h.pok q h5).later hk hR
    · simp at h5
      subst h5
      exact hp'
/-- Entries more. -/
theorem Va.more (h : Va B w va vp La Ps Ax cx X) {A : Option Addr} {c : Nat} {L : List D} (hL : Ents w (Ra B w va vp) A c L) (hn : La.length + L.length ≤ 100000000) :
    ∃ va' w', Sem.run Try.prog (Builtin.append_ #[22, 22] 22 #[va, .slice A L.length c]) w = .ok va' w' ∧ Va B w' va' vp (La ++ L) Ps Ax cx X ∧ Below B w w' := by
  obtain ⟨va', w', hr, ho, hon⟩ := run_append_onto (P := Try.prog) (m := L.length) (c := c) 22 22 48 (.agg #[.slice none 0 0, .int .u64 0, .int .i64 0, .slice none 0 0]) 4 64 Try.underlying22 (by kernel_rfl) rfl (by decide)
    (fun u hu => cellsL_one u hu) h.aown (LiesP.lies hL.lies (fun k hk => hk.2.1)) (cellsL_length L) (by unfold maxLen; omega) (by omega) h.base
  have hbel := hon.below h.aown h.base
  have hk : ∀ k, Ra B w va vp k → w'.heap[k]? = w.heap[k]? := fun k hk => hon.keep.block k hk.2.1 hk.2.2.1
  have hR : ∀ k, Ra B w va vp k → Ra B w' va' vp k := fun k hk2 => ⟨hk2.1, Nat.lt_of_lt_of_le hk2.2.1 hbel.size, fun hv => by
    rcases hon.place k hv with h4 | h4
    · exact hk2.2.2.1 h4
    · exact absurd hk2.2.1 (Nat.not_lt_of_le h4), hk2.2.2.2⟩
  refine ⟨va', w', hr, ⟨by rw [List.length_append, cellsL_append]; exact ho, own_kept h.pown hon.keep fun k hk1 hv => ?_, fun d hd => ?_, fun q hq => (h.pok q hq).later hk hR, h.xok.later hk hR, Nat.le_trans h.base hbel.size⟩, hbel⟩
  · obtain ⟨cs, fr, h3⟩ := own_blk h.pown hk1
    exact absurd (own_type h.aown hv h3) (by decide)
  · rcases List.mem_append.1 hd with h5 | h5
    · exact (h.aok d h5).later hk hR
    · exact (hL.ok d h5).later hk hR
end
/-! ### The walk over an index -/
section
variable {bs : List Nat} {fp at' : Nat} {t : T} {X : List T}
abbrev nOf (t : T) : Nat := (res t.val ((res t.val 0).2.1 : Nat)).1
theorem walk_e1 (h : (res t.val 0).2.2 ≠ 0) : walk bs fp at' (t :: X) = .error 2 := by unfold walk; rw [if_pos h]
theorem walk_e2 (h : (res t.val 0).2.2 = 0) (h2 : (res t.val ((res t.val 0).2.1 : Nat)).2.2 ≠ 0 ∨ (res t.val ((res t.val 0).2.1 : Nat)).2.1 ≠ t.val.length ∨ (res t.val 0).1 ≠ at' ∨ fp - at' < nOf t) : walk bs fp at' (t :: X) = .error 2 := by
  unfold walk; rw [if_neg (by omega), if_pos h2]
theorem walk_e3 (h : (res t.val 0).2.2 = 0) (h2 : ¬ ((res t.val ((res t.val 0).2.1 : Nat)).2.2 ≠ 0 ∨ (res t.val ((res t.val 0).2.1 : Nat)).2.1 ≠ t.val.length ∨ (res t.val 0).1 ≠ at' ∨ fp - at' < nOf t)) (h3 : (allB ((bs.drop at').take (nOf t))).2 ≠ 0) :
    walk bs fp at' (t :: X) = .error (inner (allB ((bs.drop at').take (nOf t))).2) := by
  unfold walk; rw [if_neg (by omega), if_neg h2]; dsimp only; rw [if_pos h3]
theorem walk_e4 (h : (res t.val 0).2.2 = 0) (h2 : ¬ ((res t.val ((res t.val 0).2.1 : Nat)).2.2 ≠ 0 ∨ (res t.val ((res t.val 0).2.1 : Nat)).2.1 ≠ t.val.length ∨ (res t.val 0).1 ≠ at' ∨ fp - at' < nOf t)) (h3 : (allB ((bs.drop at').take (nOf t))).2 = 0)
    (h4 : (allB ((bs.drop at').take (nOf t))).1 = [] ∨ t ≠ ptr (lastT (allB ((bs.drop at').take (nOf t))).1) at' (nOf t)) : walk bs fp at' (t :: X) = .error 2 := by
  unfold walk; rw [if_neg (by omega), if_neg h2]; dsimp only; rw [if_neg (fun hh => hh h3), if_pos h4]
theorem walk_go (h : (res t.val 0).2.2 = 0) (h2 : ¬ ((res t.val ((res t.val 0).2.1 : Nat)).2.2 ≠ 0 ∨ (res t.val ((res t.val 0).2.1 : Nat)).2.1 ≠ t.val.length ∨ (res t.val 0).1 ≠ at' ∨ fp - at' < nOf t)) (h3 : (allB ((bs.drop at').take (nOf t))).2 = 0)
    (h4 : ¬ ((allB ((bs.drop at').take (nOf t))).1 = [] ∨ t ≠ ptr (lastT (allB ((bs.drop at').take (nOf t))).1) at' (nOf t))) : walk bs fp at' (t :: X) = (walk bs fp (at' + nOf t) X).map ((allB ((bs.drop at').take (nOf t))).1 :: ·) := by
  conv => lhs; unfold walk
  rw [if_neg (by omega), if_neg h2]; dsimp only; rw [if_neg (fun hh => hh h3), if_neg h4]
/-- What has been walked, and what is left. -/
def Left (bs : List Nat) (fp : Nat) (Xs : List T) (at' : Nat) (rest : List T) (ps : List (List T)) : Prop := walk bs fp 0 Xs = (walk bs fp at' rest).map (ps ++ ·) ∧ fin 0 Xs = fin at' rest
theorem Left.start (bs : List Nat) (fp : Nat) (Xs : List T) : Left bs fp Xs 0 Xs [] := ⟨by cases walk bs fp 0 Xs <;> rfl, rfl⟩
theorem Left.err {Xs rest : List T} {ps : List (List T)} {e : Nat} (h : Left bs fp Xs at' rest ps) (he : walk bs fp at' rest = .error e) : walk bs fp 0 Xs = .error e := by rw [h.1, he]; rfl
theorem Left.next {Xs : List T} {ps : List (List T)} {p : List T} (h : Left bs fp Xs at' (t :: X) ps) (he : walk bs fp at' (t :: X) = (walk bs fp (at' + nOf t) X).map (p :: ·)) : Left bs fp Xs (at' + nOf t) X (ps ++ [p]) := by
  refine ⟨?_, h.2⟩
  rw [h.1, he]
  cases walk bs fp (at' + nOf t) X with
  | error e => rfl
  | ok q => simp [Except.map]
theorem Left.done {Xs : List T} {ps : List (List T)} (h : Left bs fp Xs at' [] ps) : walk bs fp 0 Xs = .ok ps ∧ fin 0 Xs = at' := by
  refine ⟨?_, h.2⟩
  rw [h.1]
  unfold walk
  simp [Except.map]
end
theorem blk_few {a b : Nat} {X : List T} (h : X.length ≤ 1) : blk a X = blk b X := by
  obtain ⟨h1, h2⟩ := same_by (a := a) (b := b) X 0 [] 0 (fun j h1 h2 => by
    have : j = 0 := by omega
    subst this
    simp)
  unfold blk bare
  rw [h1, h2]
/-- What TableAll answers. -/
def Tall (w : World) (bs : List Nat) (e : Ending) (w' : World) : Prop :=
  Below w.heap.size w w' ∧ ∃ (A1 : Option Addr) (c1 : Nat) (L1 : List D) (A2 : Option Addr) (c2 : Nat) (L2 : List D), e = .returned (.tuple #[.slice A1 L1.length c1, .slice A2 L2.length c2, .int .i64 ((tallB bs).2.2 : Nat)]) ∧ L1.map D.t = (tallB bs).1 ∧ L2.map D.t = (tallB bs).2.1 ∧
    Ents w' (fun k => w.heap.size ≤ k ∧ k < w'.heap.size) A1 c1 L1 ∧ Ents w' (fun k => w.heap.size ≤ k ∧ k < w'.heap.size) A2 c2 L2
theorem tall_bad {w w' : World} {bs : List Nat} {n : Nat} (h : tallB bs = ([], [], n)) (hb : Below w.heap.size w w') : Tall w bs (.returned (.tuple #[.slice none 0 0, .slice none 0 0, .int .i64 (n : Int)])) w' :=
  ⟨hb, none, 0, [], none, 0, [], by rw [h]; rfl, by rw [h]; rfl, by rw [h]; rfl, Ents.zero _ _, Ents.zero _ _⟩
end Go.Proofs.Ytobjiamdljjkjaa.Tb

/- Plain mathematics of tables: lengths and bytes of what is built. -/
namespace Go.Proofs.Ytobjiamdljjkjaa.Tb
set_option linter.unusedVariables false
set_option linter.unusedSimpArgs false
open Go.RowKit Lift Ik Sk Vn Bk Bl Sq
/-- An entry that is right and holds bytes. -/
def TOk (t : T) : Prop := okT t = true ∧ t.k.ok ∧ ∀ c, c ∈ t.val → c < 256
theorem blkT_byte {every : Nat} {ts : List T} (h : ∀ t, t ∈ ts → TOk t) : ∀ x, x ∈ blk every ts → x < 256 := by
  intro x hx
  unfold blk at hx
  rcases List.mem_append.1 hx with h1 | h1
  · unfold bare foot at h1
    rcases List.mem_append.1 h1 with h2 | h2
    · exact body_byte every ts 0 [] h x h2
    · rcases List.mem_append.1 h2 with h3 | h3
      · exact flat4_byte _ x h3
      · exact low_byte _ 4 x h3
  · exact sum4_byte _ x h1
theorem dataT_byte (every : Nat) : ∀ ps : List (List T), (∀ t, t ∈ ps.flatten → TOk t) → ∀ x, x ∈ data every ps → x < 256
  | [], _, x, hx => by simp [data] at hx
  | p :: ps, h, x, hx => by
    rw [List.flatten_cons] at h
    rw [data_cons] at hx
    rcases List.mem_append.1 hx with h1 | h1
    · exact blkT_byte (fun t ht => h t (List.mem_append_left _ ht)) x h1
    · exact dataT_byte every ps (fun t ht => h t (List.mem_append_right _ ht)) x h1
theorem idx_ok {every : Nat} : ∀ (ps : List (List T)) (a : Nat), (∀ p, p ∈ ps → p ≠ []) → (∀ t, t ∈ ps.flatten → TOk t) → a + (data every ps).length < 18446744073709551616 → ∀ x, x ∈ idx every a ps → TOk x
  | [], _, _, _, _, x, hx => by cases hx
  | p :: ps, a, hne, h, hb, x, hx => by
    rw [List.flatten_cons] at h
    rw [data_cons, List.length_append] at hb
    unfold idx at hx
    rcases List.mem_cons.1 hx with rfl | hx
    · obtain ⟨h1, h2, -⟩ := h _ (List.mem_append_left _ (lastT_mem (hne p (List.mem_cons_self ..))))
      refine ⟨ptr_okT h1, ⟨h2.1, h2.2.1, by show (-9223372036854775808 : Int) ≤ 1; decide, by show (1 : Int) ≤ 9223372036854775807; decide⟩, fun c hc => ?_⟩
      rcases List.mem_append.1 hc with h3 | h3
      · exact enc_byte _ (by omega) c h3
      · exact enc_byte _ (by omega) c h3
    · exact idx_ok ps _ (fun q hq => hne q (List.mem_cons_of_mem _ hq)) (fun t ht => h t (List.mem_append_right _ ht)) (by omega) x hx
theorem tabP_byte {every bits : Nat} {ps : List (List T)} (hne : ∀ p, p ∈ ps → p ≠ []) (h : ∀ t, t ∈ ps.flatten → TOk t) (hb : (data every ps).length < 18446744073709551616) : ∀ x, x ∈ tabP every bits ps → x < 256 := by
  intro x hx
  unfold tabP at hx
  dsimp only at hx
  rcases List.mem_append.1 hx with h1 | h1
  · exact dataT_byte every ps h x h1
  · rcases List.mem_append.1 h1 with h2 | h2
    · exact bloomB_byte _ _ x h2
    · rcases List.mem_append.1 h2 with h3 | h3
      · exact blkT_byte (idx_ok ps 0 hne h (by omega)) x h3
      · rcases List.mem_append.1 h3 with h4 | h4
        · unfold tail5 at h4
          simp only [List.mem_append] at h4
          rcases h4 with h | h | h | h | h <;> exact low_byte _ 4 x h
        · exact sum4_byte _ x h4
theorem tabB_byte {size every bits : Int} {ts : List T} (h : ∀ t, t ∈ ts → t.k.ok ∧ ∀ c, c ∈ t.val → c < 256) : ∀ x, x ∈ tabB size every bits ts → x < 256 := by
  by_cases hm : mayT ts = 0
  · obtain ⟨hm1, -, -⟩ := mayT_zero hm
    obtain ⟨hok, -, hn⟩ := may_zero hm1
    have hf : (parts (clampS size) [] ts).flatten = ts := by rw [parts_flat, List.nil_append]
    have hne := parts_some (clampS size) ts []
    have hl := data_le (every := clamp every) _ hne (by rw [hf]; exact hok)
    rw [hf] at hl
    rw [tabB_ok hm]
    exact tabP_byte hne (by rw [hf]; exact fun t ht => ⟨hok t ht, (h t ht).1, (h t ht).2⟩) (by omega)
  · rw [tabB_no hm]; intro x hx; cases hx
theorem tabB_is {size every bits : Int} {ts : List T} (hm : mayT ts = 0) : IsT (tabB size every bits ts) ts := by
  rw [tabB_ok hm]
  exact ⟨hm, clampS size, clamp every, clampB bits, (clampS_in _).1, (clampS_in _).2, (clamp_in _).1, (clamp_in _).2, (clampB_in _).1, (clampB_in _).2, rfl⟩
theorem tabB_len {size every bits : Int} {ts : List T} (hm : mayT ts = 0) (hn : ts.length ≤ 200) : 24 < (tabB size every bits ts).length ∧ (tabB size every bits ts).length ≤ 3000000 := by
  obtain ⟨hm1, -, -⟩ := mayT_zero hm
  obtain ⟨hok, -, -⟩ := may_zero hm1
  have hf : (parts (clampS size) [] ts).flatten = ts := by rw [parts_flat, List.nil_append]
  have hne := parts_some (clampS size) ts []
  have hl := data_le (every := clamp every) _ hne (by rw [hf]; exact hok)
  have h1 := (tab_parts (every := clamp every) (bits := clampB bits) (clampB_in bits).2 hne (by rw [hf]; exact hm1)).1
  have hx := blk_le (every := 1) (ts := idx (clamp every) 0 (parts (clampS size) [] ts)) (fun x hx => by
    obtain ⟨p, a, n, h2, rfl⟩ := idx_mem _ 0 x hx
    exact ptr_okT (hok _ (by rw [← hf]; exact List.mem_flatten.2 ⟨p, h2, lastT_mem (hne p h2)⟩)))
  have h3 := flat_len _ hne
  rw [hf] at hl h3
  rw [idx_len] at hx
  have hfl : (bloomB (users none (parts (clampS size) [] ts).flatten) (clampB bits)).length ≤ 60000 := by
    rw [bloomB_len, hf]
    have h4 := users_len ts none
    have h5 : (users none ts).length * clampB bits ≤ 10000 * 40 := Nat.mul_le_mul (by omega) (clampB_in bits).2
    unfold mOf
    omega
  have hf1 : 1 ≤ (bloomB (users none (parts (clampS size) [] ts).flatten) (clampB bits)).length := by rw [bloomB_len]; omega
  rw [tabB_ok hm]
  show 24 < (tabP _ _ _).length ∧ (tabP _ _ _).length ≤ _
  rw [h1]
  omega
theorem tabB_max {size every bits : Int} {ts : List T} (hn : ts.length ≤ 200) : (tabB size every bits ts).length ≤ 3000000 := by
  by_cases hm : mayT ts = 0
  · exact (tabB_len hm hn).2
  · rw [tabB_no hm]; simp
theorem tabB_tall {size every bits : Int} {ts : List T} (hm : mayT ts = 0) : ∃ ev sz, tallB (tabB size every bits ts) = (ts, idx ev 0 (parts sz [] ts), 0) := by
  obtain ⟨ev, sz, -, -, h, -⟩ := tallB_ok (tabB_is (size := size) (every := every) (bits := bits) hm)
  exact ⟨ev, sz, h⟩
theorem mayT_le (ts : List T) : mayT ts ≤ 10 := by
  unfold mayT
  have := may_le ts
  split
  · exact this
  · split
    · omega
    · split <;> omega
/-- What was built by given numbers passes all tests. -/
theorem tab_ctx {size every bits : Nat} {ts : List T} (hmt : mayT ts = 0) (s1 : 1 ≤ size) (s2 : size ≤ 1048576) (e1 : 1 ≤ every) (e2 : every ≤ 100) (b1 : 1 ≤ bits) (b2 : bits ≤ 40) :
    Ctx (tab size every bits ts) (idx every 0 (parts size [] ts)) (parts size [] ts) ∧ Rest (tab size every bits ts) (idx every 0 (parts size [] ts)) (parts size [] ts) := by
  obtain ⟨hm, ht, hne0⟩ := mayT_zero hmt
  have hfl : (parts size [] ts).flatten = ts := by rw [parts_flat, List.nil_append]
  have hne := parts_some size ts []
  have hfit := parts_fits s1 ts
  have hpn : parts size [] ts ≠ [] := fun h => by rw [h] at hfl; exact hne0 hfl.symm
  unfold tab
  rw [← hfl] at hm ht
  generalize parts size [] ts = ps at *
  obtain ⟨p1, p2, ⟨p30, p34, p38, p312, p316⟩, p4, p5, p6, p7⟩ := tab_parts (every := every) b2 hne hm
  have hix : ixb (tabP every bits ps) = blk 1 (idx every 0 ps) := by unfold ixb; rw [p38, p312, p6]
  have hmi := idx_may (every := every) 0 hne hm ht
  obtain ⟨R, hR⟩ := p4
  have hw := walk_built (bs := tabP every bits ps) (R := R) (fp := (data every ps).length) ⟨e1, e2⟩ ps 0 (fun p hp => ⟨hne p hp, part_may hm p hp⟩) (by rw [List.drop_zero, hR]) (by rw [Nat.zero_add]) (by omega)
  have hfin := walk_data _ 0 ps hw (Nat.zero_le _) (by omega) (by rw [List.drop_zero]; exact ⟨R, hR⟩)
  refine ⟨⟨by omega, p2, by omega, by omega, ?_, ?_, hix.symm, by rw [p30]; exact hw⟩, ?_, hm, ht, p316, (sized_iff hne).2 ⟨size, s1, s2, hfit⟩, ⟨every, e1, e2, ⟨R, hR⟩⟩, bits, b1, b2, ?_⟩
  · rw [hix]
    exact allB_ok ⟨hmi, 1, Nat.le_refl _, by omega, rfl⟩
  · intro h
    have := idx_len every ps 0
    rw [h] at this
    exact hpn (List.length_eq_zero_iff.1 this.symm)
  · rw [p30, hfin.2.1, Nat.zero_add]
  · rw [p30, p34, p5]
theorem tabB_told {size every bits : Int} {ts : List T} (hm : mayT ts = 0) : tallB (tabB size every bits ts) = (ts, idx (clamp every) 0 (parts (clampS size) [] ts), 0) ∧ Ctx (tabB size every bits ts) (idx (clamp every) 0 (parts (clampS size) [] ts)) (parts (clampS size) [] ts) := by
  obtain ⟨c, r⟩ := tab_ctx (size := clampS size) (every := clamp every) (bits := clampB bits) hm (clampS_in _).1 (clampS_in _).2 (clamp_in _).1 (clamp_in _).2 (clampB_in _).1 (clampB_in _).2
  have hf : (parts (clampS size) [] ts).flatten = ts := by rw [parts_flat, List.nil_append]
  have h := tabB_is (size := size) (every := every) (bits := bits) hm
  rw [tabB_ok hm] at h ⊢
  refine ⟨?_, c⟩
  rw [tallB_ctx c (by rw [hf]; exact h), hf]
theorem isT_few {bs : List Nat} {ts : List T} (h : IsT bs ts) : ts.length ≤ 10000 := (may_zero (mayT_zero h.1).1).2.2
theorem tallB_few (bs : List Nat) : (tallB bs).1.length ≤ 10000 := by
  unfold tallB
  split
  · exact Nat.zero_le _
  · split
    · exact Nat.zero_le _
    · split
      · exact Nat.zero_le _
      · split
        · exact Nat.zero_le _
        · split
          · exact Nat.zero_le _
          · split
            · exact Nat.zero_le _
            · split
              · rename_i h; exact isT_few h
              · exact Nat.zero_le _
theorem tallB_le (bs : List Nat) : (tallB bs).2.2 ≤ 10 := by
  have hw : ∀ (X : List T) (a : Nat) (e : Nat), walk bs (ft bs 0) a X = .error e → e ≤ 10 := by
    intro X
    induction X with
    | nil => intro a e h; unfold walk at h; cases h
    | cons t X ih =>
      intro a e h
      unfold walk at h
      split at h
      · injection h with h; omega
      · split at h
        · injection h with h; omega
        · dsimp only at h
          split at h
          · injection h with h
            rw [← h]; unfold inner; split <;> omega
          · split at h
            · injection h with h; omega
            · cases hq : walk bs (ft bs 0) (a + (Vt.res t.val ((Vt.res t.val 0).2.1 : Nat)).1) X with
              | error e2 =>
                rw [hq] at h
                injection h with h
                rw [← h]
                exact ih _ _ hq
              | ok q => rw [hq] at h; cases h
  unfold tallB
  split
  · show 4 ≤ 10; decide
  · split
    · show 5 ≤ 10; decide
    · split
      · show 2 ≤ 10; decide
      · split
        · show inner _ ≤ 10
          unfold inner; split <;> omega
        · split
          · show 2 ≤ 10; decide
          · split
            · rename_i e h; exact hw _ _ _ h
            · split
              · exact Nat.zero_le _
              · show 2 ≤ 10; decide
end Go.Proofs.Ytobjiamdljjkjaa.Tb

/- Plain mathematics of tables: the project's own answer to bytes, its sizes and intervals; where it is the document's. -/
namespace Go.Proofs.Ytobjiamdljjkjaa.Tb
set_option linter.unusedVariables false
set_option linter.unusedSimpArgs false
open Go.RowKit Lift Ik Sk Vn Bk Bl Sq
open Vt (res)

/-! ### A table with a filter of whatever bytes -/
def tabF (size every : Nat) (F : List Nat) (ts : List T) : List Nat :=
  let ps := parts size [] ts
  let e := tail5 (data every ps).length F.length ((data every ps).length + F.length) (blk 1 (idx every 0 ps)).length ts.length
  data every ps ++ (F ++ (blk 1 (idx every 0 ps) ++ (e ++ sum4 e)))
theorem tab_F (size every bits : Nat) (ts : List T) : tab size every bits ts = tabF size every (bloomB (users none ts) bits) ts := by
  have h : (parts size [] ts).flatten = ts := by rw [parts_flat, List.nil_append]
  unfold tab tabP tabF
  dsimp only
  rw [h]

/-! ### The interval that a block tells -/
theorem evB_blk {every : Nat} (h1 : 1 ≤ every) {ts : List T} (hm : may ts = 0) (hs : (blk every ts).length < 4294967296) : evB (blk every ts) = if ts.length ≤ every then max ts.length 1 else every := by
  unfold evB
  rw [blk_spots hm, blk_rest hm hs]
  unfold ival
  have hel := ends_len every ts 0 [] 0 h1
  have e2 : (0 + every - 1) / every = 0 := Nat.div_eq_of_lt (by omega)
  rw [e2, Nat.sub_zero, Nat.zero_add] at hel
  by_cases hl : ts.length ≤ every
  · have h2 : (ends every 0 [] 0 ts).length < 2 := by
      rw [hel, Nat.div_lt_iff_lt_mul (by omega)]
      omega
    rw [if_pos h2, if_pos hl, offs_len]
  · have h2 : ¬ (ends every 0 [] 0 ts).length < 2 := by
      rw [hel, Nat.div_lt_iff_lt_mul (by omega)]
      omega
    rw [if_neg h2, if_neg hl]
    have h3 := ends_second h1 ts
    obtain ⟨x, hx⟩ : ∃ x, (ends every 0 [] 0 ts)[1]? = some x := ⟨_, List.getElem?_eq_getElem (by omega)⟩
    have h4 : (ends every 0 [] 0 ts).getD 1 0 = x := by rw [List.getD_eq_getElem?_getD, hx]; rfl
    rw [h4, count_rise _ every x (offs_rise every ts 0 [] 0).1 (by rw [← h3]; exact hx)]
theorem blk_in {a b : Nat} {X : List T} (ha : X.length ≤ a) (hb : X.length ≤ b) : blk a X = blk b X := by
  obtain ⟨h1, h2⟩ := same_by (a := a) (b := b) X 0 [] 0 (fun j h1 h2 => by
    by_cases hz : j = 0
    · subst hz; simp
    · rw [Nat.mod_eq_of_lt (by omega), Nat.mod_eq_of_lt (by omega)])
  unfold blk bare
  rw [h1, h2]
/-- An index block is built by the interval 1, and only then its interval is 1. -/
theorem evB_one {bs : List Nat} (h : (allB bs).2 = 0) (hs : bs.length < 4294967296) : evB bs = 1 ↔ blk 1 (allB bs).1 = bs := by
  obtain ⟨hm, ev, e1, e2, hev⟩ := allB_is h
  have h1 := evB_blk e1 hm (by rw [hev]; exact hs)
  rw [hev] at h1
  constructor
  · intro h2
    rw [h2] at h1
    by_cases hl : (allB bs).1.length ≤ ev
    · rw [if_pos hl] at h1
      conv => rhs; rw [← hev]
      exact blk_in (by omega) hl
    · rw [if_neg hl] at h1
      conv => rhs; rw [← hev]
      rw [← h1]
  · intro h2
    have h3 := evB_blk (every := 1) (Nat.le_refl _) hm (by rw [h2]; exact hs)
    rw [h2] at h3
    rw [h3]
    split <;> omega
/-- The greatest of the intervals of blocks. -/
def evs (bs : List Nat) : Nat → List T → Nat → Nat
  | _, [], m => m
  | at', t :: X, m => evs bs (at' + nOf t) X (max m (evB ((bs.drop at').take (nOf t))))
def evP (every : Nat) (p : List T) : Nat := if p.length ≤ every then max p.length 1 else every
theorem evs_idx {bs R : List Nat} {every : Nat} (he : 1 ≤ every) : ∀ (ps : List (List T)) (at' m : Nat), (∀ p, p ∈ ps → p ≠ [] ∧ may p = 0) → bs.drop at' = data every ps ++ R → at' + (data every ps).length < 4294967296 →
    evs bs at' (idx every at' ps) m = ps.foldl (fun m p => max m (evP every p)) m
  | [], at', m, _, _, _ => by unfold idx evs; rfl
  | p :: ps, at', m, hp, hd, hs => by
    obtain ⟨hne, hm⟩ := hp p (List.mem_cons_self ..)
    rw [data_cons] at hd hs
    rw [List.length_append] at hs
    obtain ⟨r1, r2⟩ := ptr_res (lastT p) (at' := at') (n := (blk every p).length) (by omega) (by omega)
    have hn : nOf (ptr (lastT p) at' (blk every p).length) = (blk every p).length := by
      unfold nOf
      rw [r1]
      dsimp only
      rw [r2]
    have hsl : (bs.drop at').take (blk every p).length = blk every p := by rw [hd, List.append_assoc, List.take_left]
    have ih := evs_idx (bs := bs) (R := R) he ps (at' + (blk every p).length) (max m (evP every p)) (fun q hq => hp q (List.mem_cons_of_mem _ hq)) (by
      have := congrArg (List.drop (blk every p).length) hd
      rw [List.drop_drop, List.append_assoc, List.drop_left] at this
      exact this) (by omega)
    unfold idx evs
    rw [hn, hsl, evB_blk he hm (by omega), List.foldl_cons]
    exact ih
theorem fold_max {f : List T → Nat} : ∀ (ps : List (List T)) (m s : Nat), ps.foldl (fun m p => max m (f p)) m ≤ s ↔ m ≤ s ∧ ∀ p, p ∈ ps → f p ≤ s
  | [], m, s => by simp
  | p :: ps, m, s => by
    rw [List.foldl_cons, fold_max ps]
    constructor
    · rintro ⟨h1, h2⟩
      exact ⟨by omega, fun q hq => (List.mem_cons.1 hq).elim (fun e => by rw [e]; omega) (h2 q)⟩
    · rintro ⟨h1, h2⟩
      exact ⟨by have := h2 p (List.mem_cons_self ..); omega, fun q hq => h2 q (List.mem_cons_of_mem _ hq)⟩
/-- The greatest of them builds all blocks again. -/
theorem blk_max {every : Nat} (h1 : 1 ≤ every) (h2 : every ≤ 100) {ps : List (List T)} {p : List T} (hp : p ∈ ps) : blk (clamp ((ps.foldl (fun m p => max m (evP every p)) 0 : Nat) : Int)) p = blk every p := by
  obtain ⟨E, hE⟩ : ∃ E, E = ps.foldl (fun m p => max m (evP every p)) 0 := ⟨_, rfl⟩
  rw [← hE]
  have ha := ((fold_max (f := evP every) ps 0 E).1 (by rw [hE]; exact Nat.le_refl _)).2 p hp
  have hb : E ≤ every := by
    rw [hE]
    refine (fold_max (f := evP every) ps 0 every).2 ⟨Nat.zero_le _, fun q _ => ?_⟩
    unfold evP
    split <;> omega
  unfold evP at ha
  by_cases he : E = every
  · rw [he, clamp_nat h1 h2]
  · split at ha
    · rename_i hl
      rw [clamp_nat (by omega) (by omega)]
      exact blk_in (by omega) hl
    · omega
theorem data_same {a b : Nat} (ps : List (List T)) : (∀ p, p ∈ ps → blk a p = blk b p) → data a ps = data b ps ∧ ∀ at', idx a at' ps = idx b at' ps := by
  induction ps with
  | nil => exact fun _ => ⟨by unfold data; rw [List.flatMap_nil, List.flatMap_nil], fun _ => by unfold idx; rfl⟩
  | cons p ps ih =>
    intro h
    obtain ⟨h1, h2⟩ := ih fun q hq => h q (List.mem_cons_of_mem _ hq)
    have h3 := h p (List.mem_cons_self ..)
    refine ⟨by rw [data_cons, data_cons, h3, h1], fun at' => ?_⟩
    show ptr (lastT p) at' (blk a p).length :: idx a (at' + (blk a p).length) ps = ptr (lastT p) at' (blk b p).length :: idx b (at' + (blk b p).length) ps
    rw [h3, h2]
theorem lowS_zero {ps : List (List T)} (h : ps ≠ []) : lowS ps 0 = lowS ps 1 := by
  cases ps with
  | nil => exact absurd rfl h
  | cons p ps =>
    have h1 : max 0 (weigh p.dropLast + 1) = max 1 (weigh p.dropLast + 1) := by omega
    show lowS ps (max 0 (weigh p.dropLast + 1)) = lowS ps (max 1 (weigh p.dropLast + 1))
    rw [h1]

/-! ### The project's own answer: the blocks may reach up to the index -/
open Classical in
noncomputable def tallO (bs : List Nat) : List T × List T × Nat :=
  if bs.length < 24 then ([], [], 4) else if bs.drop (bs.length - 4) ≠ sum4 ((bs.drop (bs.length - 24)).take 20) then ([], [], 5) else
  if ft bs 0 + ft bs 4 ≠ ft bs 8 ∨ ft bs 8 + ft bs 12 ≠ bs.length - 24 then ([], [], 2) else
  if (allB (ixb bs)).2 ≠ 0 then ([], [], inner (allB (ixb bs)).2) else
  if blk 1 (allB (ixb bs)).1 ≠ ixb bs then ([], [], 2) else
  match walk bs (ft bs 8) 0 (allB (ixb bs)).1 with
  | .error e => ([], [], e)
  | .ok ps => if IsT bs ps.flatten then (ps.flatten, (allB (ixb bs)).1, 0) else ([], [], 2)
/-- The tests that bytes have passed before everything else is looked at. -/
structure CtxO (bs : List Nat) (X : List T) (ps : List (List T)) : Prop where
  h24 : ¬ bs.length < 24
  sum : bs.drop (bs.length - 4) = sum4 ((bs.drop (bs.length - 24)).take 20)
  f1 : ft bs 0 + ft bs 4 = ft bs 8
  f2 : ft bs 8 + ft bs 12 = bs.length - 24
  ix : allB (ixb bs) = (X, 0)
  one : blk 1 X = ixb bs
  walk : walk bs (ft bs 8) 0 X = .ok ps
theorem tallO_short {bs : List Nat} (h : bs.length < 24) : tallO bs = ([], [], 4) := by unfold tallO; rw [if_pos h]
theorem tallO_sum {bs : List Nat} (h : ¬ bs.length < 24) (h2 : bs.drop (bs.length - 4) ≠ sum4 ((bs.drop (bs.length - 24)).take 20)) : tallO bs = ([], [], 5) := by unfold tallO; rw [if_neg h, if_pos h2]
theorem tallO_foot {bs : List Nat} (h : ¬ bs.length < 24) (h2 : bs.drop (bs.length - 4) = sum4 ((bs.drop (bs.length - 24)).take 20)) (h3 : ft bs 0 + ft bs 4 ≠ ft bs 8 ∨ ft bs 8 + ft bs 12 ≠ bs.length - 24) : tallO bs = ([], [], 2) := by
  unfold tallO; rw [if_neg h, if_neg (Classical.not_not.2 h2), if_pos h3]
theorem tallO_ix {bs : List Nat} (h : ¬ bs.length < 24) (h2 : bs.drop (bs.length - 4) = sum4 ((bs.drop (bs.length - 24)).take 20)) (h3 : ft bs 0 + ft bs 4 = ft bs 8) (h4 : ft bs 8 + ft bs 12 = bs.length - 24) (h5 : (allB (ixb bs)).2 ≠ 0) :
    tallO bs = ([], [], inner (allB (ixb bs)).2) := by
  unfold tallO; rw [if_neg h, if_neg (Classical.not_not.2 h2), if_neg (by omega), if_pos h5]
theorem tallO_one {bs : List Nat} (h : ¬ bs.length < 24) (h2 : bs.drop (bs.length - 4) = sum4 ((bs.drop (bs.length - 24)).take 20)) (h3 : ft bs 0 + ft bs 4 = ft bs 8) (h4 : ft bs 8 + ft bs 12 = bs.length - 24) (h5 : (allB (ixb bs)).2 = 0)
    (h6 : blk 1 (allB (ixb bs)).1 ≠ ixb bs) : tallO bs = ([], [], 2) := by
  unfold tallO; rw [if_neg h, if_neg (Classical.not_not.2 h2), if_neg (by omega), if_neg (by omega), if_pos h6]
theorem tallO_walk {bs : List Nat} (h : ¬ bs.length < 24) (h2 : bs.drop (bs.length - 4) = sum4 ((bs.drop (bs.length - 24)).take 20)) (h3 : ft bs 0 + ft bs 4 = ft bs 8) (h4 : ft bs 8 + ft bs 12 = bs.length - 24) (h5 : (allB (ixb bs)).2 = 0)
    (h7 : blk 1 (allB (ixb bs)).1 = ixb bs) {e : Nat} (h9 : walk bs (ft bs 8) 0 (allB (ixb bs)).1 = .error e) : tallO bs = ([], [], e) := by
  unfold tallO; rw [if_neg h, if_neg (Classical.not_not.2 h2), if_neg (by omega), if_neg (by omega), if_neg (Classical.not_not.2 h7), h9]
theorem tallO_rest {bs : List Nat} {X : List T} {ps : List (List T)} (c : CtxO bs X ps) (h : ¬ IsT bs ps.flatten) : tallO bs = ([], [], 2) := by
  have hix := c.ix
  unfold tallO
  rw [if_neg c.h24, if_neg (Classical.not_not.2 c.sum), if_neg (by have := c.f1; have := c.f2; omega), hix, if_neg (by simp), if_neg (Classical.not_not.2 c.one)]
  dsimp only
  rw [c.walk]
  dsimp only
  rw [if_neg h]
theorem tallO_ctx {bs : List Nat} {X : List T} {ps : List (List T)} (c : CtxO bs X ps) (h : IsT bs ps.flatten) : tallO bs = (ps.flatten, X, 0) := by
  have hix := c.ix
  unfold tallO
  rw [if_neg c.h24, if_neg (Classical.not_not.2 c.sum), if_neg (by have := c.f1; have := c.f2; omega), hix, if_neg (by simp), if_neg (Classical.not_not.2 c.one)]
  dsimp only
  rw [c.walk]
  dsimp only
  rw [if_pos h]

/-! ### The walk, by two limits -/
theorem walk_mono {bs : List Nat} {fp fq : Nat} (h : fp ≤ fq) : ∀ (X : List T) (at' : Nat) (ps : List (List T)), walk bs fp at' X = .ok ps → walk bs fq at' X = .ok ps
  | [], at', ps, hw => by unfold walk at hw ⊢; exact hw
  | t :: X, at', ps, hw => by
    by_cases h1 : (res t.val 0).2.2 = 0
    · by_cases h2 : (res t.val ((res t.val 0).2.1 : Nat)).2.2 ≠ 0 ∨ (res t.val ((res t.val 0).2.1 : Nat)).2.1 ≠ t.val.length ∨ (res t.val 0).1 ≠ at' ∨ fp - at' < nOf t
      · rw [walk_e2 h1 h2] at hw; cases hw
      · by_cases h3 : (allB ((bs.drop at').take (nOf t))).2 = 0
        · by_cases h4 : (allB ((bs.drop at').take (nOf t))).1 = [] ∨ t ≠ ptr (lastT (allB ((bs.drop at').take (nOf t))).1) at' (nOf t)
          · rw [walk_e4 h1 h2 h3 h4] at hw; cases hw
          · rw [walk_go h1 h2 h3 h4] at hw
            rw [walk_go h1 (by omega) h3 h4]
            cases hq : walk bs fp (at' + nOf t) X with
            | error e => rw [hq] at hw; cases hw
            | ok qs =>
              rw [walk_mono h X _ _ hq]
              rw [hq] at hw
              exact hw
        · rw [walk_e3 h1 h2 h3] at hw; cases hw
    · rw [walk_e1 h1] at hw; cases hw
theorem walk_idx {bs : List Nat} {fp fq every : Nat} (hp : fp < 18446744073709551616) : ∀ (ps : List (List T)) (at' : Nat), at' + (data every ps).length ≤ fp → at' + (data every ps).length ≤ fq → walk bs fp at' (idx every at' ps) = walk bs fq at' (idx every at' ps)
  | [], at', _, _ => by unfold idx walk; rfl
  | p :: ps, at', h1, h2 => by
    rw [data_cons, List.length_append] at h1 h2
    obtain ⟨r1, r2⟩ := ptr_res (lastT p) (at' := at') (n := (blk every p).length) (by omega) (by omega)
    have ih := walk_idx (bs := bs) (fq := fq) (every := every) hp ps (at' + (blk every p).length) (by omega) (by omega)
    have hn : nOf (ptr (lastT p) at' (blk every p).length) = (blk every p).length := by
      unfold nOf
      rw [r1]
      dsimp only
      rw [r2]
    have g1 : (res (ptr (lastT p) at' (blk every p).length).val 0).2.2 = 0 := by rw [r1]
    have hc : ∀ f, at' + (blk every p).length ≤ f → ¬ ((res (ptr (lastT p) at' (blk every p).length).val ((res (ptr (lastT p) at' (blk every p).length).val 0).2.1 : Nat)).2.2 ≠ 0 ∨ (res (ptr (lastT p) at' (blk every p).length).val ((res (ptr (lastT p) at' (blk every p).length).val 0).2.1 : Nat)).2.1 ≠ (ptr (lastT p) at' (blk every p).length).val.length ∨
        (res (ptr (lastT p) at' (blk every p).length).val 0).1 ≠ at' ∨ f - at' < nOf (ptr (lastT p) at' (blk every p).length)) := fun f hf => by
      rw [hn, r1]
      dsimp only
      rw [r2]
      dsimp only
      rintro (h | h | h | h)
      · exact h rfl
      · exact h rfl
      · exact h rfl
      · omega
    have i1 : idx every at' (p :: ps) = ptr (lastT p) at' (blk every p).length :: idx every (at' + (blk every p).length) ps := rfl
    rw [i1]
    by_cases h3 : (allB ((bs.drop at').take (nOf (ptr (lastT p) at' (blk every p).length)))).2 = 0
    · by_cases h4 : (allB ((bs.drop at').take (nOf (ptr (lastT p) at' (blk every p).length)))).1 = [] ∨ ptr (lastT p) at' (blk every p).length ≠ ptr (lastT (allB ((bs.drop at').take (nOf (ptr (lastT p) at' (blk every p).length)))).1) at' (nOf (ptr (lastT p) at' (blk every p).length))
      · rw [walk_e4 g1 (hc fp (by omega)) h3 h4, walk_e4 g1 (hc fq (by omega)) h3 h4]
      · rw [walk_go g1 (hc fp (by omega)) h3 h4, walk_go g1 (hc fq (by omega)) h3 h4, hn, ih]
    · rw [walk_e3 g1 (hc fp (by omega)) h3, walk_e3 g1 (hc fq (by omega)) h3]
theorem ctxO_of {bs : List Nat} {X : List T} {ps : List (List T)} (c : Ctx bs X ps) : CtxO bs X ps := ⟨c.h24, c.sum, c.f1, c.f2, c.ix, c.one, walk_mono (by have := c.f1; omega) _ _ _ c.walk⟩
theorem ctxO_unique {bs : List Nat} {X Y : List T} {ps qs : List (List T)} (c : CtxO bs X ps) (d : CtxO bs Y qs) : X = Y ∧ ps = qs := by
  have h1 := c.ix
  rw [d.ix] at h1
  have h2 : Y = X := congrArg Prod.fst h1
  subst h2
  have h3 := c.walk
  rw [d.walk] at h3
  injection h3 with h3
  exact ⟨rfl, h3.symm⟩
/-- A filter of some bits. -/
def filB (keys : List (List Nat)) (F : List Nat) : Prop := ∃ bits, 1 ≤ bits ∧ bits ≤ 40 ∧ bloomB keys bits = F
/-- What the project reckons from the blocks, and whether it comes to the same bytes. -/
theorem makes_iff {bs : List Nat} {X : List T} {ps : List (List T)} (c : CtxO bs X ps) :
    (mayT ps.flatten = 0 ∧ filB (users none ps.flatten) ((bs.drop (ft bs 0)).take (ft bs 4)) ∧ tabF (clampS ((lowS ps 0 : Nat) : Int)) (clamp ((evs bs 0 X 0 : Nat) : Int)) ((bs.drop (ft bs 0)).take (ft bs 4)) ps.flatten = bs) ↔ IsT bs ps.flatten := by
  constructor
  · rintro ⟨hm, ⟨bits, b1, b2, hb⟩, ht⟩
    rw [← hb, ← tab_F] at ht
    exact ⟨hm, _, _, bits, (clampS_in _).1, (clampS_in _).2, (clamp_in _).1, (clamp_in _).2, b1, b2, ht⟩
  · rintro ⟨hm, size, every, bits, s1, s2, e1, e2, b1, b2, ht⟩
    obtain ⟨c2, r⟩ := tab_ctx hm s1 s2 e1 e2 b1 b2
    have hfl : (parts size [] ps.flatten).flatten = ps.flatten := by rw [parts_flat, List.nil_append]
    have hne := parts_some size ps.flatten []
    have hpar := tab_parts (every := every) (ps := parts size [] ps.flatten) b2 hne (by rw [hfl]; exact (mayT_zero hm).1)
    have htp : tabP every bits (parts size [] ps.flatten) = bs := ht
    rw [ht] at c2
    rw [htp] at hpar
    obtain ⟨hX, hps⟩ := ctxO_unique c (ctxO_of c2)
    obtain ⟨p1, -, ⟨p30, p34, -, -, -⟩, ⟨R, hR⟩, p5, -, p7⟩ := hpar
    rw [hfl] at p34 p5
    have hF : (bs.drop (ft bs 0)).take (ft bs 4) = bloomB (users none ps.flatten) bits := by rw [p30, p34, p5]
    have hfit := parts_fits s1 ps.flatten
    rw [← hps] at hfit hne hR p1
    have hpn : ps ≠ [] := fun h => (mayT_zero hm).2.2 (by rw [h]; rfl)
    have hlow : 1 ≤ lowS ps 0 ∧ lowS ps 0 ≤ 1048576 ∧ parts (lowS ps 0) [] ps.flatten = ps := by
      rw [lowS_zero hpn]
      have h1 := (lowS_le ps 1 (lowS ps 1)).1 (Nat.le_refl _)
      obtain ⟨h4, h5⟩ := (fits_iff _ _).1 hfit
      have h2 : lowS ps 1 ≤ size := (lowS_le ps 1 size).2 ⟨s1, fun p hp => (h4 p hp).2⟩
      exact ⟨h1.1, by omega, fits_parts h1.1 ps ((fits_iff _ _).2 ⟨fun p hp => ⟨hne p hp, h1.2 p hp⟩, fun p hp => Nat.le_trans h2 (h5 p hp)⟩)⟩
    obtain ⟨l1, l2, l3⟩ := hlow
    have hcs : clampS ((lowS ps 0 : Nat) : Int) = lowS ps 0 := by unfold clampS; omega
    have hev : evs bs 0 X 0 = ps.foldl (fun m p => max m (evP every p)) 0 := by
      rw [hX, ← hps]
      exact evs_idx (R := R) e1 ps 0 0 (fun p hp => ⟨hne p hp, part_may (mayT_zero hm).1 p hp⟩) (by rw [List.drop_zero, hR]) (by omega)
    obtain ⟨d1, d2⟩ := data_same ps fun p hp => blk_max e1 e2 hp
    refine ⟨hm, ⟨bits, b1, b2, hF.symm⟩, ?_⟩
    rw [hF, hcs, hev]
    unfold tabF
    dsimp only
    rw [l3, d1, d2]
    rw [tab_F] at ht
    unfold tabF at ht
    dsimp only at ht
    rw [← hps] at ht
    exact ht
/-! ### Where both answers are one -/
theorem same_short {bs : List Nat} (h : bs.length < 24) : tallO bs = tallB bs := by rw [tallO_short h, tallB_short h]
theorem same_is {bs : List Nat} {ts : List T} (h : IsT bs ts) : tallO bs = tallB bs := by
  obtain ⟨ps, every, size, c, -, -, hf, -⟩ := isT_ctx h
  rw [tallO_ctx (ctxO_of c) (by rw [hf]; exact h), tallB_ctx c (by rw [hf]; exact h)]
theorem same_tab {size every bits : Int} {ts : List T} : tallO (tabB size every bits ts) = tallB (tabB size every bits ts) := by
  by_cases hm : mayT ts = 0
  · exact same_is (tabB_is hm)
  · rw [tabB_no hm]; exact same_short (by simp)
theorem allB_five {bs : List Nat} (h : allB bs = ([], 5)) (h8 : ¬ bs.length < 8) : bs.drop (bs.length - 4) ≠ sum4 (bs.take (bs.length - 4)) := fun hs => by
  by_cases hb : ∃ ts, IsB bs ts
  · obtain ⟨ts, hb⟩ := hb
    rw [allB_ok hb] at h
    cases h
  · rw [allB_bad h8 hs hb] at h
    cases h
/-- A byte of a table is turned. -/
theorem same_turned {bs : List Nat} {ts : List T} {p x y : Nat} (h : IsT bs ts) (hb : ∀ c, c ∈ bs → c < 256) (hp : bs[p]? = some x) (hy : y < 256) (hne : y ≠ x) : tallO (bs.set p y) = tallB (bs.set p y) := by
  obtain ⟨hm, size, every, bits, s1, s2, e1, e2, b1, b2, ht⟩ := h
  obtain ⟨c, -⟩ := tab_ctx hm s1 s2 e1 e2 b1 b2
  have hfl : (parts size [] ts).flatten = ts := by rw [parts_flat, List.nil_append]
  have hpar := tab_parts (every := every) (ps := parts size [] ts) b2 (parts_some size ts []) (by rw [hfl]; exact (mayT_zero hm).1)
  have htp : tabP every bits (parts size [] ts) = bs := ht
  rw [ht] at c
  rw [htp] at hpar
  obtain ⟨p1, -, ⟨p30, -, -, -, -⟩, -, -, -, hlen⟩ := hpar
  generalize parts size [] ts = ps at *
  obtain ⟨hlt, hx⟩ := List.getElem?_eq_some_iff.1 hp
  have h24 := c.h24
  have f1 := c.f1
  have f2 := c.f2
  have hl : (bs.set p y).length = bs.length := List.length_set ..
  obtain ⟨z, hz⟩ : ∃ z, z = bs.length - 24 := ⟨_, rfl⟩
  have hzl : (bs.drop z).length = 24 := by rw [List.length_drop]; omega
  by_cases hpz : p < z
  · have hft : ∀ i, ft (bs.set p y) i = ft bs i := fun i => by
      unfold ft
      rw [hl, List.drop_set_of_lt (by omega)]
    have hs1 : (bs.set p y).drop ((bs.set p y).length - 4) = sum4 (((bs.set p y).drop ((bs.set p y).length - 24)).take 20) := by
      rw [hl, List.drop_set_of_lt (by omega), List.drop_set_of_lt (by omega)]
      exact c.sum
    have g1 : ft (bs.set p y) 0 + ft (bs.set p y) 4 = ft (bs.set p y) 8 := by rw [hft, hft, hft]; exact f1
    have g2 : ft (bs.set p y) 8 + ft (bs.set p y) 12 = (bs.set p y).length - 24 := by rw [hft, hft, hl]; exact f2
    by_cases hpi : p < ft bs 8
    · have hix : ixb (bs.set p y) = ixb bs := by
        unfold ixb
        rw [hft, hft, List.drop_set_of_lt hpi]
      have h5 : (allB (ixb (bs.set p y))).2 = 0 := by rw [hix, c.ix]
      have h7 : blk 1 (allB (ixb (bs.set p y))).1 = ixb (bs.set p y) := by rw [hix, c.ix]; exact c.one
      have h6 : (allB (ixb (bs.set p y))).1 ≠ [] := by rw [hix, c.ix]; exact c.ne
      have hX : (allB (ixb (bs.set p y))).1 = idx every 0 ps := by rw [hix, c.ix]
      have hd : (data every ps).length = ft bs 0 := p30.symm
      have hw : walk (bs.set p y) (ft (bs.set p y) 0) 0 (allB (ixb (bs.set p y))).1 = walk (bs.set p y) (ft (bs.set p y) 8) 0 (allB (ixb (bs.set p y))).1 := by
        rw [hX]
        exact walk_idx (by rw [hft]; omega) ps 0 (by rw [hft]; omega) (by rw [hft]; omega)
      cases hwk : walk (bs.set p y) (ft (bs.set p y) 8) 0 (allB (ixb (bs.set p y))).1 with
      | error e =>
        rw [tallO_walk (by rw [hl]; exact h24) hs1 g1 g2 h5 h7 hwk, tallB_walk (by rw [hl]; exact h24) hs1 g1 g2 h5 h6 h7 (hw.trans hwk)]
      | ok qs =>
        have hXp : allB (ixb (bs.set p y)) = ((allB (ixb (bs.set p y))).1, 0) := by rw [← h5]
        have cB : Ctx (bs.set p y) (allB (ixb (bs.set p y))).1 qs := ⟨by rw [hl]; exact h24, hs1, g1, g2, hXp, h6, h7, hw.trans hwk⟩
        by_cases hT : IsT (bs.set p y) qs.flatten
        · rw [tallO_ctx (ctxO_of cB) hT, tallB_ctx cB hT]
        · rw [tallO_rest (ctxO_of cB) hT, tallB_rest cB hT]
    · have hXB := allB_is (bs := ixb bs) (by rw [c.ix])
      obtain ⟨i1, i2, -⟩ := isB_raw hXB
      have hset : ixb (bs.set p y) = (ixb bs).set (p - ft bs 8) y := by
        unfold ixb
        rw [hft, hft, List.drop_set, if_neg hpi, List.take_set]
      have hat : (ixb bs)[p - ft bs 8]? = some x := by
        unfold ixb
        rw [List.getElem?_take_of_lt (by omega), List.getElem?_drop, show ft bs 8 + (p - ft bs 8) = p from by omega]
        exact hp
      have h5 : allB (ixb (bs.set p y)) = ([], 5) := by
        rw [hset]
        refine turned i1 (fun c hc => hb c ?_) i2 hat hy hne
        unfold ixb at hc
        exact List.mem_of_mem_drop (List.mem_of_mem_take hc)
      have h5' : (allB (ixb (bs.set p y))).2 ≠ 0 := by rw [h5]; decide
      rw [tallO_ix (by rw [hl]; exact h24) hs1 g1 g2 h5', tallB_ix (by rw [hl]; exact h24) hs1 g1 g2 h5']
  · have hsum : (bs.set p y).drop ((bs.set p y).length - 4) ≠ sum4 (((bs.set p y).drop ((bs.set p y).length - 24)).take 20) := by
      have hcs := c.sum
      rw [← hz] at hcs
      have hsl : (bs.drop z).drop ((bs.drop z).length - 4) = sum4 ((bs.drop z).take ((bs.drop z).length - 4)) := by
        rw [hzl, List.drop_drop, show z + (24 - 4) = bs.length - 4 from by omega]
        exact hcs
      have hat : (bs.drop z)[p - z]? = some x := by rw [List.getElem?_drop, show z + (p - z) = p from by omega]; exact hp
      have h5 := allB_five (turned (by omega) (fun c hc => hb c (List.mem_of_mem_drop hc)) hsl hat hy hne) (by rw [List.length_set]; omega)
      rw [List.length_set, hzl] at h5
      rw [hl, ← hz, List.drop_set, List.drop_set, if_neg hpz]
      have e : ∀ s : List Nat, s = (bs.drop z).set (p - z) y → s.drop 20 ≠ sum4 (s.take 20) := fun s hs => by rw [hs]; exact h5
      have h6 := e ((bs.drop z).set (p - z) y) rfl
      intro hh
      refine h6 ?_
      rw [← hh, List.drop_set]
      by_cases h20 : p - z < 20
      · rw [if_pos h20, if_pos (by omega), List.drop_drop, show z + 20 = bs.length - 4 from by omega]
      · rw [if_neg h20, if_neg (by omega), List.drop_drop, show z + 20 = bs.length - 4 from by omega, show p - z - 20 = p - (bs.length - 4) from by omega]
    rw [tallO_sum (by rw [hl]; exact h24) hsum, tallB_sum (by rw [hl]; exact h24) hsum]
end Go.Proofs.Ytobjiamdljjkjaa.Tb
