/- Plain mathematics of the numbers in groups of seven bits: the encoding, the decoding, and that one undoes the other. -/
import Derived.WalkKit
namespace Go.Proofs.Ythhmjjmjicmhdaa.Vn

/-- The encoding with room for n further bytes. -/
def encN : Nat → Nat → List Nat
  | 0, x => [x]
  | n + 1, x => if x < 128 then [x] else (x % 128 + 128) :: encN n (x / 128)
def enc (x : Nat) : List Nat := encN 9 x

/-- One more group. -/
def put (i x c : Nat) : Nat := x ||| ((c % 128) <<< (7 * i))
/-- Bytes, their place, the number so far: the number, how many bytes it has, the error. -/
def dec : List Nat → Nat → Nat → Nat × Nat × Nat
  | [], _, _ => (0, 0, 4)
  | c :: l, i, x => if (i = 9 ∧ 1 < c) ∨ (0 < i ∧ c = 0) then (0, 0, 2) else if c < 128 then (put i x c, i + 1, 0) else dec l (i + 1) (put i x c)
def decAt (bs : List Nat) (at' : Nat) : Nat × Nat × Nat := dec (bs.drop at') 0 0

theorem put_add (i x c : Nat) (hx : x < 2 ^ (7 * i)) : put i x c = x + (c % 128) * 2 ^ (7 * i) := by
  unfold put
  rw [Nat.or_comm, Nat.shiftLeft_eq, Nat.mul_comm (c % 128), ← Nat.two_pow_add_eq_or_of_lt hx, Nat.add_comm]
theorem put_lt (i x c : Nat) (hx : x < 2 ^ (7 * i)) : put i x c < 2 ^ (7 * (i + 1)) := by
  rw [put_add i x c hx]
  have h1 : c % 128 < 128 := Nat.mod_lt _ (by decide)
  have h2 : 2 ^ (7 * (i + 1)) = 128 * 2 ^ (7 * i) := by rw [show 7 * (i + 1) = 7 + 7 * i by omega, Nat.pow_add]
  have h3 : (c % 128) * 2 ^ (7 * i) ≤ 127 * 2 ^ (7 * i) := Nat.mul_le_mul_right _ (by omega)
  omega

theorem dec_enc : ∀ (n x : Nat) (l : List Nat) (i y : Nat), i + n = 9 → x < 2 * 128 ^ n → y < 2 ^ (7 * i) → (0 < i → 0 < x) →
    dec (encN n x ++ l) i y = (y + x * 2 ^ (7 * i), i + (encN n x).length, 0) := by
  intro n
  induction n with
  | zero =>
    intro x l i y hi hx hy hpos
    have : ¬ ((i = 9 ∧ 1 < x) ∨ (0 < i ∧ x = 0)) := by
      have := hpos (by omega)
      omega
    simp only [encN, List.cons_append, List.nil_append, dec]
    rw [if_neg this, if_pos (by omega), put_add i y x hy, Nat.mod_eq_of_lt (by omega : x < 128)]
    rfl
  | succ n ih =>
    intro x l i y hi hx hy hpos
    by_cases h : x < 128
    · have : ¬ ((i = 9 ∧ 1 < x) ∨ (0 < i ∧ x = 0)) := by
        have := hpos
        omega
      simp only [encN, if_pos h, List.cons_append, List.nil_append, dec]
      rw [if_neg this, put_add i y x hy, Nat.mod_eq_of_lt h]
      rfl
    · have hn : ¬ ((i = 9 ∧ 1 < x % 128 + 128) ∨ (0 < i ∧ x % 128 + 128 = 0)) := by omega
      simp only [encN, if_neg h, List.cons_append, dec]
      rw [if_neg hn, if_neg (by omega)]
      have hp : put i y (x % 128 + 128) = y + x % 128 * 2 ^ (7 * i) := by
        rw [put_add i y _ hy, show (x % 128 + 128) % 128 = x % 128 by omega]
      have h2 : 2 ^ (7 * (i + 1)) = 128 * 2 ^ (7 * i) := by rw [show 7 * (i + 1) = 7 + 7 * i by omega, Nat.pow_add]
      rw [ih (x / 128) l (i + 1) _ (by omega) (by rw [Nat.pow_succ] at hx; omega) (put_lt _ _ _ hy) (by omega), hp, h2]
      have e : x % 128 * 2 ^ (7 * i) + x / 128 * (128 * 2 ^ (7 * i)) = x * 2 ^ (7 * i) := by
        rw [← Nat.mul_assoc, ← Nat.add_mul]
        congr 1
        omega
      simp only [Prod.mk.injEq, and_true]
      refine ⟨by rw [Nat.add_assoc, e], by simp; omega⟩

theorem decAt_enc (bs l : List Nat) (x : Nat) (hx : x < 18446744073709551616) : decAt (bs ++ (enc x ++ l)) bs.length = (x, (enc x).length, 0) := by
  unfold decAt
  rw [List.drop_left]
  unfold enc
  rw [dec_enc 9 x l 0 0 (by omega) (by omega) (by simp) (by omega)]
  simp

theorem dec_lt : ∀ (l : List Nat) (i y : Nat), i ≤ 9 → y < 2 ^ (7 * i) → (dec l i y).1 < 18446744073709551616 := by
  intro l
  induction l with
  | nil => intro i y _ _; simp [dec]
  | cons c l ih =>
    intro i y hi hy
    simp only [dec]
    split
    · simp
    · rename_i hn
      split
      · show put i y c < _
        rcases Nat.lt_or_eq_of_le hi with h9 | h9
        · have h := put_lt i y c hy
          have hp : 2 ^ (7 * (i + 1)) ≤ 2 ^ 63 := Nat.pow_le_pow_right (by decide) (by omega)
          have p63 : (2 : Nat) ^ 63 = 9223372036854775808 := by decide
          omega
        · subst h9
          have p63 : (2 : Nat) ^ (7 * 9) = 9223372036854775808 := by decide
          rw [put_add 9 y c hy]
          have : c % 128 ≤ 1 := Nat.le_trans (Nat.mod_le _ _) (by omega)
          rw [p63] at hy ⊢
          omega
      · rcases Nat.lt_or_eq_of_le hi with h9 | h9
        · exact ih (i + 1) _ (by omega) (put_lt i y c hy)
        · omega
theorem dec_zero : ∀ (l : List Nat) (i y : Nat), (dec l i y).2.2 ≠ 0 → (dec l i y).1 = 0 := by
  intro l
  induction l with
  | nil => intro i y _; simp [dec]
  | cons c l ih =>
    intro i y h
    simp only [dec] at h ⊢
    split
    · rfl
    · rename_i h1
      rw [if_neg h1] at h
      split
      · rename_i h2
        rw [if_pos h2] at h
        exact absurd rfl h
      · rename_i h2
        rw [if_neg h2] at h
        exact ih _ _ h
/-- Without its last byte it is no number. -/
theorem dec_cut : ∀ (n x i y : Nat), i + n = 9 → dec (encN n x).dropLast i y = (0, 0, 4) := by
  intro n
  induction n with
  | zero => intro x i y _; simp [encN, dec]
  | succ n ih =>
    intro x i y hi
    unfold encN
    split
    · simp [dec]
    · have hne : encN n (x / 128) ≠ [] := by
        intro h
        cases n with
        | zero => simp [encN] at h
        | succ n => unfold encN at h; split at h <;> simp at h
      rw [List.dropLast_cons_of_ne_nil hne]
      simp only [dec]
      rw [if_neg (by omega), if_neg (by omega)]
      exact ih (x / 128) (i + 1) _ (by omega)
theorem encN_pair (n m : Nat) : (encN n (2 * m)).length = (encN n (2 * m + 1)).length := by
  cases n with
  | zero => rfl
  | succ n =>
    unfold encN
    by_cases h : 2 * m < 128
    · rw [if_pos h, if_pos (by omega)]; rfl
    · rw [if_neg h, if_neg (by omega), show (2 * m + 1) / 128 = 2 * m / 128 by omega]; rfl
theorem enc_small (x : Nat) (h : x < 128) : enc x = [x] := by
  simp [enc, encN, h]
theorem encN_len (n x : Nat) : 1 ≤ (encN n x).length ∧ (encN n x).length ≤ n + 1 := by
  induction n generalizing x with
  | zero => simp [encN]
  | succ n ih =>
    unfold encN
    split
    · simp
    · have := ih (x / 128)
      simp only [List.length_cons]
      omega
theorem enc_len (x : Nat) : 1 ≤ (enc x).length ∧ (enc x).length ≤ 10 := encN_len 9 x
theorem encN_byte (n x : Nat) (hx : x < 2 * 128 ^ n) : ∀ c, c ∈ encN n x → c < 256 := by
  induction n generalizing x with
  | zero => intro c hc; simp [encN] at hc; omega
  | succ n ih =>
    intro c hc
    unfold encN at hc
    split at hc
    · simp at hc; omega
    · rcases List.mem_cons.1 hc with h | h
      · omega
      · exact ih (x / 128) (by rw [Nat.pow_succ] at hx; omega) c h
theorem enc_byte (x : Nat) (hx : x < 18446744073709551616) : ∀ c, c ∈ enc x → c < 256 := encN_byte 9 x (by omega)
end Go.Proofs.Ythhmjjmjicmhdaa.Vn
