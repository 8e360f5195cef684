/- Plain mathematics of the internal keys: bytes in order, keys in order, and a number in eight bytes, the lowest first. -/
import Derived.WalkKit
import Derived.Lib.Bytealg
namespace Go.Proofs.Ythhmjjmjicmhdaa.Ik

/-- Bytes in order: -1, 0, 1. -/
def cmpB : List Nat → List Nat → Int
  | [], [] => 0
  | [], _ :: _ => -1
  | _ :: _, [] => 1
  | a :: x, b :: y => if a < b then -1 else if b < a then 1 else cmpB x y
/-- Numbers in order. -/
def cmp3 (a b : Int) : Int := if a < b then -1 else if b < a then 1 else 0

theorem cmp3_one (a b : Int) : cmp3 a b = -1 ∨ cmp3 a b = 0 ∨ cmp3 a b = 1 := by unfold cmp3; split; simp; split <;> simp
theorem cmp3_swap (a b : Int) : cmp3 b a = -cmp3 a b := by unfold cmp3; split <;> split <;> (try split) <;> omega
theorem cmp3_zero (a b : Int) : cmp3 a b = 0 ↔ a = b := by unfold cmp3; split; omega; split <;> omega
theorem cmp3_lt (a b : Int) : cmp3 a b = -1 ↔ a < b := by unfold cmp3; split; omega; split <;> omega

theorem cmpB_one : ∀ x y : List Nat, cmpB x y = -1 ∨ cmpB x y = 0 ∨ cmpB x y = 1
  | [], [] => by simp [cmpB]
  | [], _ :: _ => by simp [cmpB]
  | _ :: _, [] => by simp [cmpB]
  | a :: x, b :: y => by
    unfold cmpB
    split
    · simp
    · split
      · simp
      · exact cmpB_one x y
theorem cmpB_swap : ∀ x y : List Nat, cmpB y x = -cmpB x y
  | [], [] => by simp [cmpB]
  | [], _ :: _ => by simp [cmpB]
  | _ :: _, [] => by simp [cmpB]
  | a :: x, b :: y => by
    have := cmpB_swap x y
    unfold cmpB
    by_cases h1 : a < b
    · rw [if_neg (by omega), if_pos h1, if_pos h1]; rfl
    · by_cases h2 : b < a
      · rw [if_pos h2, if_neg h1, if_pos h2]
      · rw [if_neg h2, if_neg h1, if_neg h1, if_neg h2]; exact this
theorem cmpB_zero : ∀ x y : List Nat, cmpB x y = 0 ↔ x = y
  | [], [] => by simp [cmpB]
  | [], _ :: _ => by simp [cmpB]
  | _ :: _, [] => by simp [cmpB]
  | a :: x, b :: y => by
    have := cmpB_zero x y
    unfold cmpB
    by_cases h1 : a < b
    · rw [if_pos h1]; simp; omega
    · by_cases h2 : b < a
      · rw [if_neg h1, if_pos h2]; simp; omega
      · rw [if_neg h1, if_neg h2, this]; simp; omega
theorem cmpB_self (x : List Nat) : cmpB x x = 0 := (cmpB_zero x x).2 rfl
theorem cmpB_trans : ∀ x y z : List Nat, cmpB x y = -1 → cmpB y z = -1 → cmpB x z = -1
  | [], [], _ => by simp [cmpB]
  | [], _ :: _, [] => by simp [cmpB]
  | [], _ :: _, _ :: _ => by simp [cmpB]
  | _ :: _, [], _ => by simp [cmpB]
  | _ :: _, _ :: _, [] => by simp [cmpB]
  | a :: x, b :: y, c :: z => by
    have ih := cmpB_trans x y z
    unfold cmpB
    intro h1 h2
    by_cases hab : a < b
    · by_cases hbc : b < c
      · rw [if_pos (by omega)]
      · by_cases hcb : c < b
        · rw [if_neg hbc, if_pos hcb] at h2; omega
        · rw [if_pos (by omega)]
    · by_cases hba : b < a
      · rw [if_neg hab, if_pos hba] at h1; omega
      · rw [if_neg hab, if_neg hba] at h1
        by_cases hbc : b < c
        · rw [if_pos (by omega)]
        · by_cases hcb : c < b
          · rw [if_neg hbc, if_pos hcb] at h2; omega
          · rw [if_neg hbc, if_neg hcb] at h2
            rw [if_neg (by omega), if_neg (by omega)]
            exact ih h1 h2

theorem drop_cons {α : Type} {x : List α} {k : Nat} {a : α} (h : x[k]? = some a) : x.drop k = a :: x.drop (k + 1) := by
  rw [List.drop_eq_getElem?_toList_append, h]; rfl
theorem cmpB_drop {x y : List Nat} {k a b : Nat} (hx : x[k]? = some a) (hy : y[k]? = some b) :
    cmpB (x.drop k) (y.drop k) = if a < b then -1 else if b < a then 1 else cmpB (x.drop (k + 1)) (y.drop (k + 1)) := by
  rw [drop_cons hx, drop_cons hy]
  conv => lhs; unfold cmpB
theorem cmpB_end {x y : List Nat} {k : Nat} (hk : k = x.length ∨ k = y.length) (h1 : k ≤ x.length) (h2 : k ≤ y.length) : cmpB (x.drop k) (y.drop k) = cmp3 x.length y.length := by
  unfold cmp3
  rcases hx : x.drop k with _ | ⟨a, x'⟩ <;> rcases hy : y.drop k with _ | ⟨b, y'⟩ <;> unfold cmpB <;>
    have e1 := congrArg List.length hx <;> have e2 := congrArg List.length hy <;> simp at e1 e2
  · rw [if_neg (by omega), if_neg (by omega)]
  · rw [if_pos (by omega)]
  · rw [if_neg (by omega), if_pos (by omega)]
  · omega

/-- Bytes as the model has them. -/
def u8s (x : List Nat) : List UInt8 := x.map fun a => UInt8.ofNat a
theorem u8_lt {a b : Nat} (ha : a < 256) (hb : b < 256) : (UInt8.ofNat a < UInt8.ofNat b) ↔ a < b := by
  rw [UInt8.lt_iff_toNat_lt]
  simp [UInt8.toNat_ofNat', Nat.mod_eq_of_lt ha, Nat.mod_eq_of_lt hb]
theorem u8_eq {a b : Nat} (ha : a < 256) (hb : b < 256) : (UInt8.ofNat a = UInt8.ofNat b) ↔ a = b := by
  constructor
  · intro h
    have := congrArg UInt8.toNat h
    simpa [UInt8.toNat_ofNat', Nat.mod_eq_of_lt ha, Nat.mod_eq_of_lt hb] using this
  · rintro rfl; rfl
theorem compareBytes_eq : ∀ x y : List Nat, (∀ a, a ∈ x → a < 256) → (∀ a, a ∈ y → a < 256) → Lib.compareBytes (u8s x) (u8s y) = cmpB x y
  | [], [], _, _ => by simp [u8s, Lib.compareBytes, cmpB]
  | [], _ :: _, _, _ => by simp [u8s, Lib.compareBytes, cmpB]
  | _ :: _, [], _, _ => by simp [u8s, Lib.compareBytes, cmpB]
  | a :: x, b :: y, hx, hy => by
    have ih := compareBytes_eq x y (fun c h => hx c (by simp [h])) (fun c h => hy c (by simp [h]))
    have ha := hx a (by simp)
    have hb := hy b (by simp)
    unfold u8s at ih ⊢
    simp only [List.map_cons, Lib.compareBytes, cmpB, u8_lt ha hb, u8_lt hb ha, ih]
theorem bytesLess_eq : ∀ x y : List Nat, (∀ a, a ∈ x → a < 256) → (∀ a, a ∈ y → a < 256) → Op.bytesLess (u8s x) (u8s y) = decide (cmpB x y < 0)
  | [], [], _, _ => by simp [u8s, Op.bytesLess, cmpB]
  | [], _ :: _, _, _ => by simp [u8s, Op.bytesLess, cmpB]
  | _ :: _, [], _, _ => by simp [u8s, Op.bytesLess, cmpB]
  | a :: x, b :: y, hx, hy => by
    have ih := bytesLess_eq x y (fun c h => hx c (by simp [h])) (fun c h => hy c (by simp [h]))
    have ha := hx a (by simp)
    have hb := hy b (by simp)
    unfold u8s at ih ⊢
    simp only [List.map_cons, Op.bytesLess, cmpB, ih]
    by_cases h1 : a < b
    · have : UInt8.ofNat a < UInt8.ofNat b := (u8_lt ha hb).2 h1
      simp [this, h1]
    · have n1 : ¬ UInt8.ofNat a < UInt8.ofNat b := fun h => h1 ((u8_lt ha hb).1 h)
      by_cases h2 : b < a
      · have n2 : ¬ UInt8.ofNat a = UInt8.ofNat b := fun h => by have := (u8_eq ha hb).1 h; omega
        simp [n1, n2, h1, h2]
      · obtain rfl : a = b := by omega
        simp
theorem u8s_inj {x y : List Nat} (hx : ∀ a, a ∈ x → a < 256) (hy : ∀ a, a ∈ y → a < 256) : u8s x = u8s y ↔ x = y := by
  constructor
  · intro h
    have := compareBytes_eq x y hx hy
    rw [h, compareBytes_eq y y hy hy, cmpB_self] at this
    exact (cmpB_zero x y).1 this.symm
  · rintro rfl; rfl

/-- A key: its bytes, its number, its kind. -/
structure K where
  key : List Nat
  seq : Nat
  kind : Int
/-- Keys in order. -/
def cmpK (a b : K) : Int := if cmpB a.key b.key ≠ 0 then cmpB a.key b.key else if cmp3 b.seq a.seq ≠ 0 then cmp3 b.seq a.seq else cmp3 b.kind a.kind
def K.ok (a : K) : Prop := (∀ c, c ∈ a.key → c < 256) ∧ a.seq < 18446744073709551616 ∧ -9223372036854775808 ≤ a.kind ∧ a.kind ≤ 9223372036854775807

theorem cmpK_one (a b : K) : cmpK a b = -1 ∨ cmpK a b = 0 ∨ cmpK a b = 1 := by
  unfold cmpK
  split
  · exact cmpB_one _ _
  · split
    · exact cmp3_one _ _
    · exact cmp3_one _ _
theorem cmpK_swap (a b : K) : cmpK b a = -cmpK a b := by
  unfold cmpK
  rw [cmpB_swap a.key b.key, cmp3_swap a.seq b.seq, cmp3_swap a.kind b.kind, cmp3_swap b.seq a.seq, cmp3_swap b.kind a.kind]
  have e1 := cmp3_swap (a.seq : Int) b.seq
  have e2 := cmp3_swap a.kind b.kind
  split <;> split <;> (try split) <;> (try split) <;> omega
theorem cmpK_far {a b : K} (h : a.key ≠ b.key) : cmpK a b = cmpB a.key b.key := by
  have e1 : cmpB a.key b.key ≠ 0 := fun e => h ((cmpB_zero _ _).1 e)
  unfold cmpK
  rw [if_pos e1]
theorem cmpK_near {a b : K} (h : a.key = b.key) : cmpK a b = if a.seq = b.seq then cmp3 b.kind a.kind else cmp3 b.seq a.seq := by
  have e1 := (cmpB_zero a.key b.key).2 h
  have e2 := cmp3_zero (b.seq : Int) a.seq
  unfold cmpK
  rw [if_neg (by omega)]
  by_cases h2 : a.seq = b.seq
  · rw [if_neg (by omega), if_pos h2]
  · rw [if_pos (by omega), if_neg h2]
theorem cmpK_zero (a b : K) : cmpK a b = 0 ↔ a.key = b.key ∧ a.seq = b.seq ∧ a.kind = b.kind := by
  by_cases h1 : a.key = b.key
  · rw [cmpK_near h1]
    by_cases h2 : a.seq = b.seq
    · rw [if_pos h2, cmp3_zero]
      exact ⟨fun h => ⟨h1, h2, h.symm⟩, fun h => h.2.2.symm⟩
    · rw [if_neg h2, cmp3_zero]
      exact ⟨fun h => absurd (by omega) h2, fun h => absurd h.2.1 h2⟩
  · rw [cmpK_far h1, cmpB_zero]
    exact ⟨fun h => absurd h h1, fun h => h.1⟩
theorem cmpK_self (a : K) : cmpK a a = 0 := (cmpK_zero a a).2 ⟨rfl, rfl, rfl⟩
theorem cmpK_lt (a b : K) : cmpK a b = -1 ↔ cmpB a.key b.key = -1 ∨ (a.key = b.key ∧ (b.seq < a.seq ∨ (a.seq = b.seq ∧ b.kind < a.kind))) := by
  by_cases h1 : a.key = b.key
  · have e0 := (cmpB_zero a.key b.key).2 h1
    rw [cmpK_near h1]
    by_cases h2 : a.seq = b.seq
    · rw [if_pos h2, cmp3_lt]
      exact ⟨fun h => .inr ⟨h1, .inr ⟨h2, h⟩⟩, fun h => by omega⟩
    · rw [if_neg h2, cmp3_lt]
      exact ⟨fun h => .inr ⟨h1, .inl (by omega)⟩, fun h => by omega⟩
  · rw [cmpK_far h1]
    exact ⟨fun h => .inl h, fun h => h.elim id fun h => absurd h.1 h1⟩
theorem cmpK_trans (a b c : K) (h1 : cmpK a b ≤ 0) (h2 : cmpK b c ≤ 0) : cmpK a c ≤ 0 := by
  have q1 : cmpK a b = -1 ∨ cmpK a b = 0 := by rcases cmpK_one a b with h | h | h <;> omega
  have q2 : cmpK b c = -1 ∨ cmpK b c = 0 := by rcases cmpK_one b c with h | h | h <;> omega
  suffices h : cmpK a c = -1 ∨ cmpK a c = 0 by omega
  rw [cmpK_lt, cmpK_zero] at q1 q2 ⊢
  rcases q1 with (h1 | ⟨k1, h1⟩) | ⟨k1, s1, n1⟩ <;> rcases q2 with (h2 | ⟨k2, h2⟩) | ⟨k2, s2, n2⟩
  · exact .inl (.inl (cmpB_trans _ _ _ h1 h2))
  · exact .inl (.inl (by rw [← k2]; exact h1))
  · exact .inl (.inl (by rw [← k2]; exact h1))
  · exact .inl (.inl (by rw [k1]; exact h2))
  · exact .inl (.inr ⟨k1.trans k2, by omega⟩)
  · exact .inl (.inr ⟨k1.trans k2, by omega⟩)
  · exact .inl (.inl (by rw [k1]; exact h2))
  · exact .inl (.inr ⟨k1.trans k2, by omega⟩)
  · exact .inr ⟨k1.trans k2, by omega, by omega⟩

/-- A number in n bytes, the lowest first. -/
def low (x : Nat) : Nat → List Nat
  | 0 => []
  | n + 1 => x % 256 :: low (x / 256) n
/-- The number that bytes are. -/
def num : List Nat → Nat
  | [] => 0
  | c :: l => c + 256 * num l
theorem low_length (x n : Nat) : (low x n).length = n := by
  induction n generalizing x with
  | zero => rfl
  | succ n ih => simp [low, ih]
theorem low_byte (x n : Nat) : ∀ c, c ∈ low x n → c < 256 := by
  induction n generalizing x with
  | zero => intro c h; simp [low] at h
  | succ n ih =>
    intro c h
    rcases List.mem_cons.1 h with rfl | h
    · exact Nat.mod_lt _ (by decide)
    · exact ih _ c h
theorem low_snoc (x n : Nat) : low x (n + 1) = low x n ++ [x / 256 ^ n % 256] := by
  induction n generalizing x with
  | zero => simp [low]
  | succ n ih =>
    rw [low, ih (x / 256)]
    rw [show low x (n + 1) = x % 256 :: low (x / 256) n from rfl, Nat.div_div_eq_div_mul, Nat.pow_succ, Nat.mul_comm 256]
    rfl
theorem num_low (x n : Nat) (h : x < 256 ^ n) : num (low x n) = x := by
  induction n generalizing x with
  | zero => simp [low, num]; simp at h; omega
  | succ n ih =>
    rw [low, num, ih (x / 256) (by rw [Nat.pow_succ] at h; exact Nat.div_lt_of_lt_mul (by omega))]
    omega
theorem num_lt (l : List Nat) (h : ∀ c, c ∈ l → c < 256) : num l < 256 ^ l.length := by
  induction l with
  | nil => simp [num]
  | cons c l ih =>
    have h1 := h c (by simp)
    have h2 := ih fun d hd => h d (by simp [hd])
    rw [num, List.length_cons, Nat.pow_succ]
    omega
theorem num_snoc (l : List Nat) (c : Nat) : num (l ++ [c]) = num l + c * 256 ^ l.length := by
  induction l with
  | nil => simp [num]
  | cons d l ih =>
    rw [List.cons_append, num, ih, num, List.length_cons, Nat.pow_succ, Nat.mul_add]
    rw [show 256 * (c * 256 ^ l.length) = c * (256 ^ l.length * 256) by rw [Nat.mul_comm (256 ^ _), ← Nat.mul_assoc, Nat.mul_comm 256 c, Nat.mul_assoc], Nat.add_assoc]
theorem low_num (l : List Nat) (h : ∀ c, c ∈ l → c < 256) : low (num l) l.length = l := by
  induction l with
  | nil => rfl
  | cons c l ih =>
    have h1 := h c (by simp)
    rw [List.length_cons, low, num, show (c + 256 * num l) % 256 = c by omega, show (c + 256 * num l) / 256 = num l by omega, ih fun d hd => h d (by simp [hd])]
end Go.Proofs.Ythhmjjmjicmhdaa.Ik
