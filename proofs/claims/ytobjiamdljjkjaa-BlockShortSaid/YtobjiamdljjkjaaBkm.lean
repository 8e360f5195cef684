/- Plain mathematics of packed entries: how they are packed, how bytes are read as entries, and that one undoes the other. -/
import Derived.Test.YtobjiamdljjkjaaKread
import Derived.Test.YtobjiamdljjkjaaSfn2
import Derived.Test.YtobjiamdljjkjaaGet
import Derived.Test.YtobjiamdljjkjaaMask
namespace Go.Proofs.Ytobjiamdljjkjaa.Bk
set_option linter.unusedVariables false
set_option linter.unusedSimpArgs false
open Ik Sk Vn Vt

/-- How many bytes two have at the beginning. -/
def com : List Nat → List Nat → Nat
  | a :: x, b :: y => if a = b then com x y + 1 else 0
  | _, _ => 0
theorem com_le : ∀ x y : List Nat, com x y ≤ x.length ∧ com x y ≤ y.length
  | [], _ => by simp [com]
  | _ :: _, [] => by simp [com]
  | a :: x, b :: y => by
    have := com_le x y
    unfold com
    split <;> simp <;> omega
theorem com_take : ∀ (x y : List Nat) (c : Nat), c ≤ com x y → x.take c = y.take c
  | [], y, c, h => by simp [com] at h; subst h; simp
  | _ :: _, [], c, h => by simp [com] at h; subst h; simp
  | a :: x, b :: y, 0, _ => by simp
  | a :: x, b :: y, c + 1, h => by
    unfold com at h
    split at h
    · rename_i e
      subst e
      rw [List.take_succ_cons, List.take_succ_cons, com_take x y c (by omega)]
    · omega
/-- One more byte in common. -/
theorem com_next {x y : List Nat} {n a b : Nat} (h : n ≤ com x y) (ha : x[n]? = some a) (hb : y[n]? = some b) (e : a = b) : n + 1 ≤ com x y := by
  induction n generalizing x y with
  | zero =>
    match x, y, ha, hb with
    | c :: x, d :: y, ha, hb =>
      simp at ha hb
      subst ha hb e
      unfold com
      rw [if_pos rfl]
      omega
  | succ n ih =>
    match x, y, ha, hb with
    | c :: x, d :: y, ha, hb =>
      unfold com at h ⊢
      split at h
      · rename_i e'
        rw [if_pos e']
        have := ih (x := x) (y := y) (by omega) (by simpa using ha) (by simpa using hb)
        omega
      · omega
theorem com_end {x y : List Nat} {n : Nat} (h : n ≤ com x y) (hs : x.length ≤ n ∨ y.length ≤ n ∨ ∃ a b, x[n]? = some a ∧ y[n]? = some b ∧ a ≠ b) : com x y = n := by
  have hl := com_le x y
  rcases hs with hs | hs | ⟨a, b, ha, hb, hne⟩
  · omega
  · omega
  · by_cases hlt : n < com x y
    · have := com_take x y (n + 1) hlt
      have h1 : (x.take (n + 1))[n]? = some a := by rw [List.getElem?_take_of_lt (by omega)]; exact ha
      rw [this, List.getElem?_take_of_lt (by omega), hb] at h1
      injection h1 with h1
      exact absurd h1.symm hne
    · omega

/-- An entry behind another one, of which it has the first c bytes. -/
def one (c : Nat) (t : T) : List Nat := enc c ++ (enc ((bytesK t.k).length - c) ++ (enc t.val.length ++ ((bytesK t.k).drop c ++ t.val)))
/-- How much of the last one an entry takes over. -/
def pre (every i : Nat) (last kb : List Nat) : Nat := if i % every = 0 then 0 else com last kb
/-- Entries, one behind the other; the first one is the i-th. -/
def body (every : Nat) : Nat → List Nat → List T → List Nat
  | _, _, [] => []
  | i, last, t :: ts => one (pre every i last (bytesK t.k)) t ++ body every (i + 1) (bytesK t.k) ts
/-- Where the restarts are; the first entry begins at o. -/
def ends (every : Nat) : Nat → List Nat → Nat → List T → List Nat
  | _, _, _, [] => []
  | i, last, o, t :: ts => (if i % every = 0 then [o] else []) ++ ends every (i + 1) (bytesK t.k) (o + (one (pre every i last (bytesK t.k)) t).length) ts
def foot (es : List Nat) : List Nat := es.flatMap (fun e => low e 4) ++ low es.length 4
def bare (every : Nat) (ts : List T) : List Nat := body every 0 [] ts ++ foot (ends every 0 [] 0 ts)
def sum4 (b : List Nat) : List Nat := low (Crc.maskN (Crc.crc Crc.ent b)) 4
/-- Packed entries. -/
def blk (every : Nat) (ts : List T) : List Nat := bare every ts ++ sum4 (bare every ts)
theorem sum4_len (b : List Nat) : (sum4 b).length = 4 := low_length _ _

/-- One entry, as it is read: the entry, its key's bytes, the place behind it. -/
def step (bs : List Nat) (p : Nat) (last : List Nat) : Option (T × List Nat × Nat) :=
  if (res bs p).2.2 ≠ 0 ∨ last.length < (res bs p).1 then none else
  if (res bs ((res bs p).2.1 : Nat)).2.2 ≠ 0 then none else
  if (res bs ((res bs ((res bs p).2.1 : Nat)).2.1 : Nat)).2.2 ≠ 0 ∨ bs.length - (res bs ((res bs ((res bs p).2.1 : Nat)).2.1 : Nat)).2.1 < (res bs ((res bs p).2.1 : Nat)).1 ∨
    bs.length - (res bs ((res bs ((res bs p).2.1 : Nat)).2.1 : Nat)).2.1 - (res bs ((res bs p).2.1 : Nat)).1 < (res bs ((res bs ((res bs p).2.1 : Nat)).2.1 : Nat)).1 then none else
  let c := (res bs p).1
  let n := (res bs ((res bs p).2.1 : Nat)).1
  let v := (res bs ((res bs ((res bs p).2.1 : Nat)).2.1 : Nat)).1
  let to := (res bs ((res bs ((res bs p).2.1 : Nat)).2.1 : Nat)).2.1
  let kb := last.take c ++ (bs.drop to).take n
  if resE kb ≠ 0 then none else some (⟨resK kb, (bs.drop (to + n)).take v⟩, kb, to + n + v)
/-- Bytes, read as entries from a place on. -/
def loose (bs : List Nat) : Nat → Nat → List Nat → Option (List T)
  | 0, _, _ => none
  | f + 1, p, last => if bs.length ≤ p then some [] else match step bs p last with
    | none => none
    | some (t, kb, to) => (loose bs f to kb).map (t :: ·)

theorem res_mid (p l : List Nat) (x : Nat) (hx : x < 18446744073709551616) : res (p ++ (enc x ++ l)) (p.length : Nat) = (x, p.length + (enc x).length, 0) := by
  have h := decAt_enc p l x hx
  unfold res
  rw [if_neg (by simp; omega), Int.toNat_natCast, h]
  simp
theorem kb_back {a : K} (h : okB a.key.length a.seq a.kind = true) : resK (bytesK a) = a ∧ resE (bytesK a) = 0 ∧ (bytesK a).length = a.key.length + 8 := by
  have h0 := h
  unfold okB at h0
  obtain ⟨h1, h2, h3, h4⟩ := of_decide_eq_true h0
  obtain ⟨key, seq, kind⟩ := a
  simp only at h h1 h2 h3 h4
  have hb : bytesK ⟨key, seq, kind⟩ = key ++ low (seq * 256 + kind.toNat) 8 := by unfold bytesK; rw [if_pos h]
  have hl : (bytesK ⟨key, seq, kind⟩).length = key.length + 8 := by rw [hb, List.length_append, low_length]
  have ht : (bytesK ⟨key, seq, kind⟩).take ((bytesK ⟨key, seq, kind⟩).length - 8) = key := by
    rw [hl, Nat.add_sub_cancel, hb]
    exact List.take_left' rfl
  have hd : (bytesK ⟨key, seq, kind⟩).drop ((bytesK ⟨key, seq, kind⟩).length - 8) = low (seq * 256 + kind.toNat) 8 := by
    rw [hl, Nat.add_sub_cancel, hb]
    exact List.drop_left' rfl
  have hn : num (low (seq * 256 + kind.toNat) 8) = seq * 256 + kind.toNat := num_low _ _ (by omega)
  have hr : rawK (bytesK ⟨key, seq, kind⟩) = ⟨key, seq, kind⟩ := by
    unfold rawK
    rw [ht, hd, hn]
    rcases h4 with rfl | rfl
    · simp
    · simp; omega
  have ho : okR (bytesK ⟨key, seq, kind⟩) = true := by
    unfold okR
    rw [hr]
    exact h
  refine ⟨?_, ?_, hl⟩
  · unfold resK
    rw [if_neg (by omega), if_pos ho, hr]
  · unfold resE
    rw [if_neg (by omega), if_pos ho]
theorem okT_key {t : T} (h : okT t = true) : okB t.k.key.length t.k.seq t.k.kind = true := by
  unfold okT at h
  simp only [Bool.and_eq_true] at h
  exact h.1.1
theorem okT_val {t : T} (h : okT t = true) : t.val.length ≤ 4096 := by
  unfold okT at h
  simp only [Bool.and_eq_true, decide_eq_true_eq] at h
  exact h.1.2
theorem kb_len {t : T} (h : okT t = true) : 9 ≤ (bytesK t.k).length ∧ (bytesK t.k).length ≤ 264 := by
  have h1 := (kb_back (okT_key h)).2.2
  have h2 := okT_key h
  unfold okB at h2
  have := of_decide_eq_true h2
  omega
/-- A packed entry is read back. -/
theorem step_one {t : T} (ht : okT t = true) {c : Nat} {last p r : List Nat} (hc : c ≤ com last (bytesK t.k)) : step (p ++ (one c t ++ r)) p.length last = some (t, bytesK t.k, p.length + (one c t).length) := by
  obtain ⟨hk, he, hl⟩ := kb_back (okT_key ht)
  have hv := okT_val ht
  have hkl := kb_len ht
  have hcl := com_le last (bytesK t.k)
  obtain ⟨bs, hbs⟩ : ∃ bs, bs = p ++ (one c t ++ r) := ⟨_, rfl⟩
  have e1 : bs = p ++ (enc c ++ (enc ((bytesK t.k).length - c) ++ (enc t.val.length ++ ((bytesK t.k).drop c ++ (t.val ++ r))))) := by
    rw [hbs]; unfold one; simp
  have r1 : res bs (p.length : Nat) = (c, p.length + (enc c).length, 0) := by rw [e1]; exact res_mid _ _ _ (by omega)
  have r2 : res bs ((p.length + (enc c).length : Nat)) = ((bytesK t.k).length - c, p.length + (enc c).length + (enc ((bytesK t.k).length - c)).length, 0) := by
    have := res_mid (p ++ enc c) (enc t.val.length ++ ((bytesK t.k).drop c ++ (t.val ++ r))) ((bytesK t.k).length - c) (by omega)
    rw [List.length_append] at this
    rw [e1, ← List.append_assoc]
    exact this
  have r3 : res bs ((p.length + (enc c).length + (enc ((bytesK t.k).length - c)).length : Nat)) = (t.val.length, p.length + (enc c).length + (enc ((bytesK t.k).length - c)).length + (enc t.val.length).length, 0) := by
    have := res_mid (p ++ enc c ++ enc ((bytesK t.k).length - c)) ((bytesK t.k).drop c ++ (t.val ++ r)) t.val.length (by omega)
    rw [List.length_append, List.length_append] at this
    rw [e1, ← List.append_assoc, ← List.append_assoc]
    exact this
  obtain ⟨q, hq⟩ : ∃ q, q = p.length + (enc c).length + (enc ((bytesK t.k).length - c)).length + (enc t.val.length).length := ⟨_, rfl⟩
  have hd : bs.drop q = (bytesK t.k).drop c ++ (t.val ++ r) := by
    rw [e1, hq]
    have : p ++ (enc c ++ (enc ((bytesK t.k).length - c) ++ (enc t.val.length ++ ((bytesK t.k).drop c ++ (t.val ++ r))))) = (p ++ enc c ++ enc ((bytesK t.k).length - c) ++ enc t.val.length) ++ ((bytesK t.k).drop c ++ (t.val ++ r)) := by simp
    rw [this]
    exact List.drop_left' (by simp; omega)
  have hd2 : bs.drop (q + ((bytesK t.k).length - c)) = t.val ++ r := by
    rw [← List.drop_drop, hd]
    exact List.drop_left' (by simp)
  have hlen : bs.length = q + ((bytesK t.k).length - c) + t.val.length + r.length := by
    rw [e1, hq]
    simp
    omega
  have hone : p.length + (one c t).length = q + ((bytesK t.k).length - c) + t.val.length := by
    rw [hq]; unfold one; simp; omega
  have hkb : last.take c ++ (bs.drop q).take ((bytesK t.k).length - c) = bytesK t.k := by
    rw [hd, List.take_left' (by simp), com_take _ _ _ hc]
    exact List.take_append_drop _ _
  rw [← hbs]
  unfold step
  rw [r1]
  simp only
  rw [if_neg (by omega), r2]
  simp only
  rw [if_neg (by simp), r3]
  simp only
  rw [← hq, if_neg (by omega), hkb, if_neg (by rw [he]; simp), hk, hd2, hone]
  rw [List.take_left' rfl]
theorem pre_le (every i : Nat) (last kb : List Nat) : pre every i last kb ≤ com last kb := by unfold pre; split <;> omega
theorem one_len (c : Nat) (t : T) : 3 ≤ (one c t).length := by
  unfold one
  have h1 := (enc_len c).1
  have h2 := (enc_len ((bytesK t.k).length - c)).1
  have h3 := (enc_len t.val.length).1
  simp
  omega
/-- Packed entries are read back. -/
theorem loose_body (every : Nat) : ∀ (ts : List T) (i : Nat) (last p : List Nat) (f : Nat), (∀ t, t ∈ ts → okT t = true) → ts.length < f → loose (p ++ body every i last ts) f p.length last = some ts := by
  intro ts
  induction ts with
  | nil =>
    intro i last p f _ hf
    obtain ⟨f, rfl⟩ : ∃ g, f = g + 1 := ⟨f - 1, by simp at hf; omega⟩
    unfold loose body
    rw [if_pos (by simp)]
  | cons t ts ih =>
    intro i last p f hok hf
    obtain ⟨f, rfl⟩ : ∃ g, f = g + 1 := ⟨f - 1, by simp at hf; omega⟩
    have h1 := one_len (pre every i last (bytesK t.k)) t
    have hs := step_one (hok t (by simp)) (last := last) (p := p) (r := body every (i + 1) (bytesK t.k) ts) (pre_le every i last (bytesK t.k))
    have h2 := ih (i + 1) (bytesK t.k) (p ++ one (pre every i last (bytesK t.k)) t) f (fun u hu => hok u (by simp [hu])) (by simp at hf; omega)
    rw [List.length_append, List.append_assoc] at h2
    unfold loose body
    rw [if_neg (by simp; omega), hs]
    simp only
    rw [h2]
    rfl
end Go.Proofs.Ytobjiamdljjkjaa.Bk
