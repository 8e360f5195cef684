/- Plain mathematics of the batches: the encoding, the decoding, and that one undoes the other. -/
import Derived.Test.YthhmjjmjicmhdaaVar
import Derived.Test.YthhmjjmjicmhdaaIkm
namespace Go.Proofs.Ythhmjjmjicmhdaa.Bt
set_option linter.unusedVariables false
set_option linter.unusedSimpArgs false
open Vn Ik

/-- An operation: its kind, its key, its value. -/
structure O where
  kind : Int
  key : List Nat
  val : List Nat
/-- A valid operation's form. -/
def okO (k : Int) (n m : Nat) : Bool := decide (1 ≤ n ∧ n ≤ 256 ∧ m ≤ 4096 ∧ ((k = 0 ∧ m = 0) ∨ k = 1))
def O.ok (o : O) : Bool := okO o.kind o.key.length o.val.length
/-- What Check answers. -/
def chkO (l : List O) : Nat := if l.length = 0 ∨ 100 < l.length then 3 else if l.all O.ok = true then 0 else 1
/-- May n operations be numbered from s on? -/
def fits (s n : Nat) : Bool := decide (1 ≤ s ∧ s + n ≤ 72057594037927936)
def text (t : List Nat) : List Nat := enc t.length ++ t
def encO (o : O) : List Nat := o.kind.toNat :: (text o.key ++ if o.kind = 1 then text o.val else [])
def encB (s : Nat) (l : List O) : List Nat := low s 8 ++ low l.length 4 ++ l.flatMap encO
def bytesE (s : Nat) (l : List O) : Nat := if chkO l ≠ 0 then chkO l else if fits s l.length = true then 0 else 1
def bytesB (s : Nat) (l : List O) : List Nat := if bytesE s l = 0 then encB s l else []

/-- A length from lo to hi and as many bytes: the error, the bytes, how many were read. -/
def fieldL (l : List Nat) (lo hi : Nat) : Nat × List Nat × Nat :=
  if (dec l 0 0).2.2 ≠ 0 then ((dec l 0 0).2.2, [], 0)
  else if (dec l 0 0).1 < lo ∨ hi < (dec l 0 0).1 then (2, [], 0)
  else if (l.drop (dec l 0 0).2.1).length < (dec l 0 0).1 then (4, [], 0)
  else (0, (l.drop (dec l 0 0).2.1).take (dec l 0 0).1, (dec l 0 0).2.1 + (dec l 0 0).1)
def noO : O := ⟨0, [], []⟩
/-- An operation: the error, the operation, how many bytes were read. -/
def opL : List Nat → Nat × O × Nat
  | [] => (4, noO, 0)
  | c :: r =>
    if 1 < c then (2, noO, 0)
    else if (fieldL r 1 256).1 ≠ 0 then ((fieldL r 1 256).1, noO, 0)
    else if c = 0 then (0, ⟨0, (fieldL r 1 256).2.1, []⟩, 1 + (fieldL r 1 256).2.2)
    else if (fieldL (r.drop (fieldL r 1 256).2.2) 0 4096).1 ≠ 0 then ((fieldL (r.drop (fieldL r 1 256).2.2) 0 4096).1, noO, 0)
    else (0, ⟨1, (fieldL r 1 256).2.1, (fieldL (r.drop (fieldL r 1 256).2.2) 0 4096).2.1⟩, 1 + (fieldL r 1 256).2.2 + (fieldL (r.drop (fieldL r 1 256).2.2) 0 4096).2.2)
/-- n operations from a place on, behind those that were read: the error, the operations, the place behind them. -/
def opsL : Nat → List Nat → Nat → List O → Nat × List O × Nat
  | 0, _, p, acc => (0, acc, p)
  | n + 1, bs, p, acc => if (opL (bs.drop p)).1 ≠ 0 then ((opL (bs.drop p)).1, [], 0) else opsL n bs (p + (opL (bs.drop p)).2.2) (acc ++ [(opL (bs.drop p)).2.1])
def headS (bs : List Nat) : Nat := num (bs.take 8)
def headN (bs : List Nat) : Nat := num ((bs.drop 8).take 4)
/-- What is answered of bytes: the error, the number, the operations. -/
def readB (bs : List Nat) : Nat × Nat × List O :=
  if bs.length < 12 then (4, 0, [])
  else if headN bs < 1 ∨ 100 < headN bs ∨ fits (headS bs) (headN bs) = false then (2, 0, [])
  else if (opsL (headN bs) bs 12 []).1 ≠ 0 then ((opsL (headN bs) bs 12 []).1, 0, [])
  else if (opsL (headN bs) bs 12 []).2.2 ≠ bs.length then (2, 0, [])
  else (0, headS bs, (opsL (headN bs) bs 12 []).2.1)

/-! ### Forwards -/

theorem dec_pre : ∀ (n x i y k : Nat), i + n = 9 → k < (encN n x).length → dec ((encN n x).take k) i y = (0, 0, 4) := by
  intro n
  induction n with
  | zero =>
    intro x i y k _ hk
    simp [encN] at hk
    subst hk
    rfl
  | succ n ih =>
    intro x i y k hi hk
    cases k with
    | zero => rfl
    | succ k =>
      unfold encN at hk ⊢
      split
      · rename_i h
        rw [if_pos h] at hk
        simp at hk
      · rename_i h
        rw [if_neg h, List.length_cons] at hk
        rw [List.take_succ_cons]
        simp only [dec]
        rw [if_neg (by omega), if_neg (by omega)]
        exact ih (x / 128) (i + 1) _ k (by omega) (by omega)
theorem dec_enc0 (x : Nat) (l : List Nat) (hx : x < 18446744073709551616) : dec (enc x ++ l) 0 0 = (x, (enc x).length, 0) := by
  have := dec_enc 9 x l 0 0 (by omega) (by omega) (by simp) (by omega)
  unfold enc
  rw [this]; simp
theorem field_good (t rest : List Nat) (lo hi : Nat) (h1 : lo ≤ t.length) (h2 : t.length ≤ hi) (h3 : hi < 1000000) : fieldL (text t ++ rest) lo hi = (0, t, (text t).length) := by
  have hd := dec_enc0 t.length (t ++ rest) (by omega)
  unfold fieldL text
  rw [List.append_assoc, hd]
  simp only
  rw [if_neg (by omega), if_neg (by omega), List.drop_left, if_neg (by simp), List.take_left, List.length_append]
theorem field_torn (t : List Nat) (lo hi k : Nat) (h1 : lo ≤ t.length) (h2 : t.length ≤ hi) (h3 : hi < 1000000) (hk : k < (text t).length) : (fieldL ((text t).take k) lo hi).1 = 4 := by
  unfold text at hk ⊢
  by_cases h : k < (enc t.length).length
  · rw [List.take_append_of_le_length (by omega)]
    have := dec_pre 9 t.length 0 0 k (by omega) h
    unfold fieldL
    rw [show (enc t.length).take k = (encN 9 t.length).take k from rfl, this]
    simp
  · have hd := dec_enc0 t.length (t.take (k - (enc t.length).length)) (by omega)
    rw [List.take_append, List.take_of_length_le (by omega)]
    unfold fieldL
    rw [hd]
    simp only
    rw [if_neg (by omega), if_neg (by omega), List.drop_left, if_pos]
    rw [List.length_append] at hk
    rw [List.length_take]
    omega
theorem ok_parts {o : O} (h : o.ok = true) : 1 ≤ o.key.length ∧ o.key.length ≤ 256 ∧ o.val.length ≤ 4096 ∧ ((o.kind = 0 ∧ o.val = []) ∨ o.kind = 1) := by
  simp [O.ok, okO] at h
  exact h
theorem op_good (o : O) (rest : List Nat) (h : o.ok = true) : opL (encO o ++ rest) = (0, o, (encO o).length) := by
  obtain ⟨h1, h2, h3, h4⟩ := ok_parts h
  obtain ⟨kind, key, val⟩ := o
  simp only at h1 h2 h3 h4
  rcases h4 with ⟨rfl, rfl⟩ | rfl
  · have e : encO ⟨0, key, []⟩ = 0 :: (text key ++ []) := rfl
    have hf := field_good key rest 1 256 h1 h2 (by decide)
    rw [e, List.cons_append, List.append_nil]
    simp only [opL]
    rw [hf]
    simp
    omega
  · have e : encO ⟨1, key, val⟩ = 1 :: (text key ++ text val) := rfl
    have hf := field_good key (text val ++ rest) 1 256 h1 h2 (by decide)
    have hg := field_good val rest 0 4096 (by omega) h3 (by decide)
    rw [e, List.cons_append, List.append_assoc]
    simp only [opL]
    rw [hf]
    simp only
    rw [List.drop_left, hg]
    simp
    omega
theorem op_torn (o : O) (k : Nat) (h : o.ok = true) (hk : k < (encO o).length) : (opL ((encO o).take k)).1 = 4 := by
  obtain ⟨h1, h2, h3, h4⟩ := ok_parts h
  obtain ⟨kind, key, val⟩ := o
  simp only at h1 h2 h3 h4
  cases k with
  | zero => rfl
  | succ k =>
    rcases h4 with ⟨rfl, rfl⟩ | rfl
    · have e : encO ⟨0, key, []⟩ = 0 :: (text key ++ []) := rfl
      rw [e, List.append_nil] at hk ⊢
      have hf := field_torn key 1 256 k h1 h2 (by decide) (by simpa using hk)
      rw [List.take_succ_cons]
      simp only [opL]
      rw [hf]
      simp
    · have e : encO ⟨1, key, val⟩ = 1 :: (text key ++ text val) := rfl
      rw [e] at hk ⊢
      rw [List.take_succ_cons]
      simp only [List.length_cons, List.length_append] at hk
      simp only [opL]
      by_cases hlt : k < (text key).length
      · have hf := field_torn key 1 256 k h1 h2 (by decide) hlt
        rw [List.take_append_of_le_length (by omega), hf]
        simp
      · rw [List.take_append, List.take_of_length_le (by omega)]
        have hf := field_good key ((text val).take (k - (text key).length)) 1 256 h1 h2 (by decide)
        have hg := field_torn val 0 4096 (k - (text key).length) (by omega) h3 (by decide) (by omega)
        rw [hf]
        simp only
        rw [List.drop_left, hg]
        simp
theorem encO_pos (o : O) : 0 < (encO o).length := by simp [encO]
theorem ops_good : ∀ (l : List O) (pre rest : List Nat) (acc : List O), l.all O.ok = true → opsL l.length (pre ++ (l.flatMap encO ++ rest)) pre.length acc = (0, acc ++ l, pre.length + (l.flatMap encO).length) := by
  intro l
  induction l with
  | nil => intro pre rest acc _; simp [opsL]
  | cons o l ih =>
    intro pre rest acc h
    rw [List.all_cons, Bool.and_eq_true] at h
    have hg := op_good o (l.flatMap encO ++ rest) h.1
    have hi := ih (pre ++ encO o) rest (acc ++ [o]) h.2
    rw [List.length_cons, List.flatMap_cons]
    simp only [opsL]
    rw [List.drop_left, List.append_assoc, hg]
    simp only
    rw [if_neg (by simp)]
    rw [List.append_assoc, List.length_append] at hi
    rw [hi]
    simp [Nat.add_assoc]
theorem ops_torn : ∀ (l : List O) (pre : List Nat) (acc : List O) (k : Nat), l.all O.ok = true → k < (l.flatMap encO).length → (opsL l.length (pre ++ (l.flatMap encO).take k) pre.length acc).1 = 4 := by
  intro l
  induction l with
  | nil => intro pre acc k _ hk; simp at hk
  | cons o l ih =>
    intro pre acc k h hk
    rw [List.all_cons, Bool.and_eq_true] at h
    rw [List.flatMap_cons, List.length_append] at hk
    rw [List.length_cons, List.flatMap_cons]
    simp only [opsL]
    rw [List.drop_left]
    by_cases hlt : k < (encO o).length
    · have hf := op_torn o k h.1 hlt
      rw [List.take_append_of_le_length (by omega), hf]
      simp
    · rw [List.take_append, List.take_of_length_le (by omega)]
      have hg := op_good o ((l.flatMap encO).take (k - (encO o).length)) h.1
      have hi := ih (pre ++ encO o) (acc ++ [o]) (k - (encO o).length) h.2 (by omega)
      rw [hg]
      simp only
      rw [if_neg (by simp)]
      rw [List.append_assoc, List.length_append] at hi
      exact hi
theorem fits_parts {s n : Nat} (h : fits s n = true) : 1 ≤ s ∧ s + n ≤ 72057594037927936 := by simpa [fits] using h
theorem chk_parts {l : List O} (h : chkO l = 0) : 1 ≤ l.length ∧ l.length ≤ 100 ∧ l.all O.ok = true := by
  unfold chkO at h
  split at h
  · omega
  · split at h
    · rename_i h1 h2; exact ⟨by omega, by omega, h2⟩
    · omega
theorem head_of {s n : Nat} (rest : List Nat) (hs : s < 18446744073709551616) (hn : n < 4294967296) : headS (low s 8 ++ low n 4 ++ rest) = s ∧ headN (low s 8 ++ low n 4 ++ rest) = n := by
  unfold headS headN
  rw [List.append_assoc, List.take_left' (low_length s 8), List.drop_left' (low_length s 8), List.take_left' (low_length n 4)]
  exact ⟨num_low s 8 (by omega), num_low n 4 (by omega)⟩
theorem read_good {s : Nat} {l : List O} (more : List Nat) (h : bytesE s l = 0) :
    readB (encB s l ++ more) = if more = [] then (0, s, l) else (2, 0, []) := by
  have hc : chkO l = 0 := by unfold bytesE at h; split at h; contradiction; rename_i hn; simpa using hn
  have hf : fits s l.length = true := by
    unfold bytesE at h
    rw [if_neg (by simp [hc])] at h
    split at h
    · assumption
    · omega
  obtain ⟨c1, c2, c3⟩ := chk_parts hc
  obtain ⟨f1, f2⟩ := fits_parts hf
  have e : encB s l ++ more = low s 8 ++ low l.length 4 ++ (l.flatMap encO ++ more) := by unfold encB; simp
  obtain ⟨e1, e2⟩ := head_of (s := s) (n := l.length) (l.flatMap encO ++ more) (by omega) (by omega)
  have h12 : (low s 8 ++ low l.length 4).length = 12 := by simp [low_length]
  have hg := ops_good l (low s 8 ++ low l.length 4) more [] c3
  rw [h12] at hg
  rw [e]
  unfold readB
  rw [e1, e2, hg]
  simp only [List.nil_append]
  rw [if_neg (by rw [List.length_append, h12]; omega), if_neg (by rw [hf]; intro q; rcases q with q | q | q; omega; omega; cases q), if_neg (by simp), List.length_append, h12, List.length_append]
  by_cases hm : more = []
  · subst hm; simp
  · rw [if_pos, if_neg hm]
    have : 0 < more.length := List.length_pos_iff.2 hm
    omega
theorem read_torn {s : Nat} {l : List O} (k : Nat) (h : bytesE s l = 0) (hk : k < (encB s l).length) : readB ((encB s l).take k) = (4, 0, []) := by
  have hc : chkO l = 0 := by unfold bytesE at h; split at h; contradiction; rename_i hn; simpa using hn
  have hf : fits s l.length = true := by
    unfold bytesE at h
    rw [if_neg (by simp [hc])] at h
    split at h
    · assumption
    · omega
  obtain ⟨c1, c2, c3⟩ := chk_parts hc
  obtain ⟨f1, f2⟩ := fits_parts hf
  have h12 : (low s 8 ++ low l.length 4).length = 12 := by simp [low_length]
  by_cases hlt : k < 12
  · unfold readB
    rw [if_pos (by rw [List.length_take]; omega)]
  · have e : (encB s l).take k = low s 8 ++ low l.length 4 ++ (l.flatMap encO).take (k - 12) := by
      unfold encB
      rw [List.take_append, List.take_of_length_le (by omega), h12]
    have hk2 : k - 12 < (l.flatMap encO).length := by
      have : (encB s l).length = 12 + (l.flatMap encO).length := by unfold encB; rw [List.length_append, h12]
      omega
    obtain ⟨e1, e2⟩ := head_of (s := s) (n := l.length) ((l.flatMap encO).take (k - 12)) (by omega) (by omega)
    have hg := ops_torn l (low s 8 ++ low l.length 4) [] (k - 12) c3 hk2
    rw [h12] at hg
    rw [e]
    unfold readB
    rw [e1, e2, hg]
    rw [if_neg (by rw [List.length_append, h12]; omega), if_neg (by rw [hf]; intro q; rcases q with q | q | q; omega; omega; cases q), if_pos (by decide)]

/-! ### Backwards -/

theorem dec_back : ∀ (n : Nat) (l : List Nat) (i y x k : Nat), i + n = 9 → y < 2 ^ (7 * i) → (∀ c, c ∈ l → c < 256) → dec l i y = (x, k, 0) →
    ∃ z rest, x = y + z * 2 ^ (7 * i) ∧ l = encN n z ++ rest ∧ k = i + (encN n z).length ∧ (0 < i → 0 < z) ∧ z < 2 * 128 ^ n := by
  intro n
  induction n with
  | zero =>
    intro l i y x k hi hy hb h
    cases l with
    | nil => simp [dec] at h
    | cons c l =>
      simp only [dec] at h
      split at h
      · simp at h
      · rename_i hn
        have hc : c < 128 := by omega
        rw [if_pos hc] at h
        simp only [Prod.mk.injEq] at h
        refine ⟨c, l, ?_, rfl, ?_, fun _ => by omega, by simp; omega⟩
        · rw [← h.1, put_add i y c hy, Nat.mod_eq_of_lt hc]
        · rw [← h.2.1]; rfl
  | succ n ih =>
    intro l i y x k hi hy hb h
    cases l with
    | nil => simp [dec] at h
    | cons c l =>
      have c8 := hb c (by simp)
      simp only [dec] at h
      split at h
      · simp at h
      · rename_i hn
        split at h
        · rename_i hc
          simp only [Prod.mk.injEq] at h
          refine ⟨c, l, ?_, ?_, ?_, fun _ => by omega, ?_⟩
          · rw [← h.1, put_add i y c hy, Nat.mod_eq_of_lt hc]
          · unfold encN; rw [if_pos hc]; rfl
          · unfold encN; rw [if_pos hc, ← h.2.1]; rfl
          · have : 0 < 128 ^ n := Nat.pow_pos (by decide)
            rw [Nat.pow_succ]; omega
        · rename_i hc
          obtain ⟨z, rest, e1, e2, e3, e4, e5⟩ := ih l (i + 1) _ x k (by omega) (put_lt i y c hy) (fun d hd => hb d (by simp [hd])) h
          have hz := e4 (by omega)
          have q1 : (c % 128 + 128 * z) % 128 = c % 128 := by omega
          have q2 : (c % 128 + 128 * z) / 128 = z := by omega
          have q3 : c % 128 + 128 = c := by omega
          have q4 : encN (n + 1) (c % 128 + 128 * z) = c :: encN n z := by
            conv => lhs; unfold encN
            rw [if_neg (by omega), q1, q2, q3]
          refine ⟨c % 128 + 128 * z, rest, ?_, ?_, ?_, fun _ => by omega, ?_⟩
          · rw [e1, put_add i y c hy, show 7 * (i + 1) = 7 * i + 7 by omega, Nat.pow_add, Nat.add_mul, Nat.add_assoc]
            congr 2
            rw [show (2 : Nat) ^ 7 = 128 from rfl, Nat.mul_comm (2 ^ (7 * i)) 128, ← Nat.mul_assoc, Nat.mul_comm z 128]
          · rw [q4, e2]; rfl
          · rw [q4, e3, List.length_cons]; omega
          · rw [Nat.pow_succ]; omega
theorem field_back {l : List Nat} {lo hi : Nat} (hb : ∀ c, c ∈ l → c < 256) (h : (fieldL l lo hi).1 = 0) :
    ∃ rest, l = text (fieldL l lo hi).2.1 ++ rest ∧ (fieldL l lo hi).2.2 = (text (fieldL l lo hi).2.1).length ∧ lo ≤ (fieldL l lo hi).2.1.length ∧ (fieldL l lo hi).2.1.length ≤ hi := by
  unfold fieldL at h ⊢
  split at h
  · rename_i h1
    exact absurd h h1
  · rename_i h1
    rw [if_neg h1]
    split at h
    · cases h
    · rename_i h2
      rw [if_neg h2]
      split at h
      · cases h
      · rename_i h3
        rw [if_neg h3]
        simp only
        obtain ⟨z, rest, e1, e2, e3, _, _⟩ := dec_back 9 l 0 0 (dec l 0 0).1 (dec l 0 0).2.1 (by omega) (by simp) hb (by
          have : (dec l 0 0).2.2 = 0 := by simpa using h1
          exact Prod.ext rfl (Prod.ext rfl this))
        generalize (dec l 0 0).1 = x at *
        generalize (dec l 0 0).2.1 = k at *
        simp only [Nat.zero_add, Nat.mul_zero, Nat.pow_zero, Nat.mul_one] at e1 e3
        subst e1 e3
        have e4 : l.drop (encN 9 x).length = rest := by rw [e2, List.drop_left]
        rw [e4] at h3 ⊢
        have hl : (rest.take x).length = x := by rw [List.length_take]; omega
        refine ⟨rest.drop x, ?_, ?_, ?_, ?_⟩
        · unfold text
          rw [hl, List.append_assoc, List.take_append_drop, e2]
          rfl
        · unfold text
          rw [List.length_append, hl]
          rfl
        · omega
        · omega
theorem op_back {l : List Nat} (hb : ∀ c, c ∈ l → c < 256) (h : (opL l).1 = 0) : ∃ rest, l = encO (opL l).2.1 ++ rest ∧ (opL l).2.2 = (encO (opL l).2.1).length ∧ (opL l).2.1.ok = true := by
  cases l with
  | nil => simp [opL] at h
  | cons c r =>
    have hr : ∀ d, d ∈ r → d < 256 := fun d hd => hb d (by simp [hd])
    simp only [opL] at h ⊢
    split at h
    · cases h
    · rename_i h1
      rw [if_neg h1]
      split at h
      · rename_i h2
        exact absurd h h2
      · rename_i h2
        rw [if_neg h2]
        obtain ⟨rest, e1, e2, e3, e4⟩ := field_back hr (by simpa using h2)
        generalize (fieldL r 1 256).2.1 = t at *
        generalize (fieldL r 1 256).2.2 = k at *
        split at h
        · rename_i h3
          subst h3
          rw [if_pos rfl]
          refine ⟨rest, ?_, ?_, ?_⟩
          · rw [e1]; simp [encO]
          · rw [e2]; simp [encO]; omega
          · simp [O.ok, okO]; omega
        · rename_i h3
          rw [if_neg h3]
          obtain rfl : c = 1 := by omega
          have e5 : r.drop k = rest := by rw [e2]; conv => lhs; rw [e1]; rw [List.drop_left]
          rw [e5] at h ⊢
          split at h
          · rename_i h4
            exact absurd h h4
          · rename_i h4
            rw [if_neg h4]
            have hb2 : ∀ d, d ∈ rest → d < 256 := fun d hd => hr d (by rw [e1]; simp [hd])
            obtain ⟨rest2, g1, g2, g3, g4⟩ := field_back hb2 (by simpa using h4)
            generalize (fieldL rest 0 4096).2.1 = u at *
            generalize (fieldL rest 0 4096).2.2 = m at *
            refine ⟨rest2, ?_, ?_, ?_⟩
            · rw [e1, g1]; simp [encO]
            · rw [e2, g2]; simp [encO]; omega
            · simp [O.ok, okO]; omega
theorem ops_back : ∀ (n : Nat) (bs : List Nat) (p : Nat) (acc : List O), (∀ c, c ∈ bs → c < 256) → (opsL n bs p acc).1 = 0 →
    ∃ l, (opsL n bs p acc).2.1 = acc ++ l ∧ l.length = n ∧ l.all O.ok = true ∧ bs.drop p = l.flatMap encO ++ bs.drop (opsL n bs p acc).2.2 := by
  intro n
  induction n with
  | zero => intro bs p acc _ _; exact ⟨[], by simp [opsL], rfl, rfl, by simp [opsL]⟩
  | succ n ih =>
    intro bs p acc hb h
    simp only [opsL] at h ⊢
    split at h
    · rename_i h1
      exact absurd h h1
    · rename_i h1
      rw [if_neg h1]
      obtain ⟨rest, e1, e2, e3⟩ := op_back (l := bs.drop p) (fun c hc => hb c (List.mem_of_mem_drop hc)) (by simpa using h1)
      generalize opL (bs.drop p) = q at *
      obtain ⟨l, g1, g2, g3, g4⟩ := ih bs _ _ hb h
      refine ⟨q.2.1 :: l, ?_, by simp [g2], by rw [List.all_cons, e3, g3]; rfl, ?_⟩
      · rw [g1]; simp
      · rw [List.flatMap_cons, List.append_assoc, ← g4, e2, ← List.drop_drop]
        rw [e1, List.drop_left]
theorem take_cut (bs : List Nat) (h : 12 ≤ bs.length) (hb : ∀ c, c ∈ bs → c < 256) : bs.take 12 = low (headS bs) 8 ++ low (headN bs) 4 := by
  unfold headS headN
  have e1 : (bs.take 8).length = 8 := by rw [List.length_take]; omega
  have e2 : ((bs.drop 8).take 4).length = 4 := by rw [List.length_take, List.length_drop]; omega
  have h1 := low_num (bs.take 8) fun c hc => hb c (List.mem_of_mem_take hc)
  have h2 := low_num ((bs.drop 8).take 4) fun c hc => hb c (List.mem_of_mem_drop (List.mem_of_mem_take hc))
  rw [e1] at h1
  rw [e2] at h2
  rw [h1, h2, ← List.take_add]
theorem read_back {bs : List Nat} (hb : ∀ c, c ∈ bs → c < 256) (h : (readB bs).1 = 0) : bytesE (readB bs).2.1 (readB bs).2.2 = 0 ∧ encB (readB bs).2.1 (readB bs).2.2 = bs := by
  unfold readB at h ⊢
  split at h
  · cases h
  · rename_i h1
    rw [if_neg h1]
    split at h
    · cases h
    · rename_i h2
      rw [if_neg h2]
      split at h
      · rename_i h3
        exact absurd h h3
      · rename_i h3
        rw [if_neg h3]
        split at h
        · cases h
        · rename_i h4
          rw [if_neg h4]
          simp only
          obtain ⟨l, e1, e2, e3, e4⟩ := ops_back (headN bs) bs 12 [] hb (by simpa using h3)
          have h4' : (opsL (headN bs) bs 12 []).2.2 = bs.length := by simpa using h4
          rw [h4', List.drop_length, List.append_nil] at e4
          rw [e1, List.nil_append]
          have hc : chkO l = 0 := by unfold chkO; rw [if_neg (by omega), if_pos e3]
          have hf : fits (headS bs) l.length = true := by
            rw [e2]
            cases hq : fits (headS bs) (headN bs)
            · exact absurd (.inr (.inr hq)) h2
            · rfl
          refine ⟨?_, ?_⟩
          · unfold bytesE; rw [if_neg (by simp [hc]), if_pos hf]
          · unfold encB
            rw [e2, ← take_cut bs (by omega) hb, ← e4, List.take_append_drop]
/-- In every way: the error is one of 0, 2, 4; where there is one there is nothing else. -/
theorem read_err (bs : List Nat) (h : (readB bs).1 ≠ 0) : (readB bs).2.1 = 0 ∧ (readB bs).2.2 = [] := by
  unfold readB at h ⊢
  split
  · exact ⟨rfl, rfl⟩
  · rename_i h1
    rw [if_neg h1] at h
    split
    · exact ⟨rfl, rfl⟩
    · rename_i h2
      rw [if_neg h2] at h
      split
      · exact ⟨rfl, rfl⟩
      · rename_i h3
        rw [if_neg h3] at h
        split
        · exact ⟨rfl, rfl⟩
        · rename_i h4
          rw [if_neg h4] at h
          exact absurd rfl h
end Go.Proofs.Ythhmjjmjicmhdaa.Bt
