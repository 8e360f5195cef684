/- How the walk spells one more group of seven bits, and what number it is. -/
import Derived.WalkKit
import Derived.Laws.BitsAllLaws
import Derived.Laws.BitsLemmas
import Derived.Test.YthhmjjmjicmhdaaVar
namespace Go.Proofs.Ythhmjjmjicmhdaa.Vn
open Go

theorem u8_low (c : Nat) (h : c < 256) : bits .andNot .u8 (c : Int) 128 = ((c % 128 : Nat) : Int) := by
  have e := u8_andNot_nat c 128 h (by decide)
  rw [show ((128 : Nat) : Int) = 128 from rfl] at e
  rw [e]
  have : c &&& (255 - 128) = c % 128 := Nat.and_two_pow_sub_one_eq_mod c 7
  rw [this]
theorem u8_low' (c : Nat) (h : c < 256) : bits .and .u8 (c : Int) 127 = ((c % 128 : Nat) : Int) := by
  have e := u8_and_nat c 127 h (by decide)
  rw [show ((127 : Nat) : Int) = 127 from rfl] at e
  rw [e]
  have : c &&& 127 = c % 128 := Nat.and_two_pow_sub_one_eq_mod c 7
  rw [this]
theorem u64_in (n : Nat) (h : n < 18446744073709551616) : IntKind.u64.wrap (n : Int) = (n : Int) := by
  simp only [IntKind.wrap_u64]; omega
theorem pow_cast (k : Nat) : (2 : Int) ^ (7 * k) = ((2 ^ (7 * k) : Nat) : Int) := by
  rw [Int.natCast_pow]; rfl

/-- The group c, put at place k of y. -/
theorem group (k y m : Nat) (hk : 7 * k ≤ 63) (hy : y < 2 ^ (7 * k)) (hm : m * 2 ^ (7 * k) < 18446744073709551616) (h128 : m < 128) :
    bits .or .u64 (y : Int) (IntKind.u64.wrap (IntKind.u64.wrap (m : Int) * ((2 ^ (7 * k) : Nat) : Int))) = ((y ||| (m <<< (7 * k)) : Nat) : Int) := by
  have hp : 2 ^ (7 * k) ≤ 2 ^ 63 := Nat.pow_le_pow_right (by decide) hk
  have p63 : (2 : Nat) ^ 63 = 9223372036854775808 := by decide
  rw [u64_in m (by omega), ← Int.natCast_mul, u64_in _ hm, u64_or_nat _ _ (by omega) hm, Nat.shiftLeft_eq]

theorem group_low (k y c : Nat) (hk : k < 9) (hy : y < 2 ^ (7 * k)) (hc : c < 256) :
    bits .or .u64 (y : Int) (IntKind.u64.wrap (IntKind.u64.wrap (bits .andNot .u8 (c : Int) 128) * 2 ^ (7 * k))) = ((put k y c : Nat) : Int) := by
  have hp : 2 ^ (7 * k) ≤ 2 ^ 56 := Nat.pow_le_pow_right (by decide) (by omega)
  have p56 : (2 : Nat) ^ 56 = 72057594037927936 := by decide
  have hmod : c % 128 < 128 := Nat.mod_lt _ (by decide)
  have hm : c % 128 * 2 ^ (7 * k) ≤ 127 * 2 ^ 56 := Nat.mul_le_mul (by omega) hp
  rw [u8_low c hc, pow_cast, group k y _ (by omega) hy (by omega) hmod]
  rfl
theorem group_low' (k y c : Nat) (hk : k < 9) (hy : y < 2 ^ (7 * k)) (hc : c < 256) :
    bits .or .u64 (y : Int) (IntKind.u64.wrap (IntKind.u64.wrap (bits .and .u8 (c : Int) 127) * 2 ^ (7 * k))) = ((put k y c : Nat) : Int) := by
  rw [u8_low' c hc, ← u8_low c hc]
  exact group_low k y c hk hy hc
theorem group_top (y c : Nat) (hy : y < 2 ^ (7 * 9)) (hc : c ≤ 1) :
    bits .or .u64 (y : Int) (IntKind.u64.wrap (IntKind.u64.wrap (bits .andNot .u8 (c : Int) 128) * 9223372036854775808)) = ((put 9 y c : Nat) : Int) := by
  have p63 : (2 : Nat) ^ (7 * 9) = 9223372036854775808 := by decide
  have hmod : c % 128 ≤ 1 := Nat.le_trans (Nat.mod_le _ _) hc
  have h := group 9 y (c % 128) (by omega) hy (by rw [p63]; omega) (by omega)
  rw [p63] at h
  rw [u8_low c (by omega)]
  exact h
theorem group_top' (y c : Nat) (hy : y < 2 ^ (7 * 9)) (hc : c ≤ 1) :
    bits .or .u64 (y : Int) (IntKind.u64.wrap (IntKind.u64.wrap (bits .and .u8 (c : Int) 127) * 9223372036854775808)) = ((put 9 y c : Nat) : Int) := by
  rw [u8_low' c (by omega), ← u8_low c (by omega)]
  exact group_top y c hy hc
theorem group_last (k y c : Nat) (h9 : k = 9) (hy : y < 2 ^ (7 * k)) (hc : c ≤ 1) :
    bits .or .u64 (y : Int) (IntKind.u64.wrap (IntKind.u64.wrap (bits .andNot .u8 (c : Int) 128) * 2 ^ (7 * k))) = ((put k y c : Nat) : Int) := by
  subst h9
  rw [pow_cast]
  exact group_top y c hy hc
theorem group_last' (k y c : Nat) (h9 : k = 9) (hy : y < 2 ^ (7 * k)) (hc : c ≤ 1) :
    bits .or .u64 (y : Int) (IntKind.u64.wrap (IntKind.u64.wrap (bits .and .u8 (c : Int) 127) * 2 ^ (7 * k))) = ((put k y c : Nat) : Int) := by
  subst h9
  rw [pow_cast]
  exact group_top' y c hy hc
end Go.Proofs.Ythhmjjmjicmhdaa.Vn
