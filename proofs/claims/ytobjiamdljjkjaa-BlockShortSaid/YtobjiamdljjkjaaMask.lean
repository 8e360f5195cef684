/- What Mask and Unmask of package crc, and the document's own, answer. -/
import Derived.Test.YtobjiamdljjkjaaStep
namespace Go.Proofs.Ytobjiamdljjkjaa.Crc
set_option linter.unusedVariables false
open Go.RowKit Lift

def maskN (x : Nat) : Nat := (x / 32768 + x % 32768 * 131072 + 2726488792) % 4294967296
def back (x : Nat) : Nat := (x + 1568478504) % 4294967296
def unmaskN (x : Nat) : Nat := back x % 131072 * 32768 + back x / 131072
theorem maskN_lt (x : Nat) : maskN x < 4294967296 := Nat.mod_lt _ (by decide)
theorem back_lt (x : Nat) : back x < 4294967296 := Nat.mod_lt _ (by decide)
theorem unmaskN_lt (x : Nat) : unmaskN x < 4294967296 := by have := back_lt x; unfold unmaskN; omega
theorem un_mask (x : Nat) (h : x < 4294967296) : unmaskN (maskN x) = x := by
  obtain ⟨p, hp⟩ : ∃ p, p = x / 32768 := ⟨_, rfl⟩
  obtain ⟨q, hq⟩ : ∃ q, q = x % 32768 := ⟨_, rfl⟩
  have hx : x = p * 32768 + q := by omega
  have hb : back (maskN x) = p + q * 131072 := by unfold back maskN; rw [← hp, ← hq]; omega
  unfold unmaskN
  rw [hb, hx]
  omega
theorem mask_un (x : Nat) (h : x < 4294967296) : maskN (unmaskN x) = x := by
  have hb := back_lt x
  have hk : (back x + 2726488792) % 4294967296 = x := by unfold back; omega
  generalize hy : back x = y at hb hk
  have hu : unmaskN x = y % 131072 * 32768 + y / 131072 := by unfold unmaskN; rw [hy]
  have h1 : unmaskN x / 32768 = y % 131072 := by rw [hu]; omega
  have h2 : unmaskN x % 32768 = y / 131072 := by rw [hu]; omega
  unfold maskN
  rw [h1, h2, show y % 131072 + y / 131072 * 131072 = y by omega, hk]

/-- High bits and low bits apart. -/
theorem or_apart (a b n : Nat) (h : a < 2 ^ n) : a ||| b * 2 ^ n = a + b * 2 ^ n := by
  rw [Nat.or_comm, Nat.mul_comm b, ← Nat.two_pow_add_eq_or_of_lt h, Nat.add_comm]
theorem or_17 (x : Nat) (h : x < 4294967296) : bits .or .u32 ((x : Int) / 32768) ((x : Int) * 131072 % 4294967296) = ((x / 32768 + x % 32768 * 131072 : Nat) : Int) := by
  have e1 : (x : Int) / 32768 = ((x / 32768 : Nat) : Int) := rfl
  have e2 : (x : Int) * 131072 % 4294967296 = ((x % 32768 * 131072 : Nat) : Int) := by omega
  rw [e1, e2, u32_or_nat _ _ (by omega) (by omega)]
  have h2 := or_apart (x / 32768) (x % 32768) 17 (by omega)
  rw [show (2 : Nat) ^ 17 = 131072 by decide] at h2
  rw [h2]
theorem or_17' (x : Nat) (h : x < 4294967296) : bits .or .u32 ((x : Int) * 131072 % 4294967296) ((x : Int) / 32768) = ((x / 32768 + x % 32768 * 131072 : Nat) : Int) := by
  rw [← or_17 x h]
  have e1 : (x : Int) / 32768 = ((x / 32768 : Nat) : Int) := rfl
  have e2 : (x : Int) * 131072 % 4294967296 = ((x % 32768 * 131072 : Nat) : Int) := by omega
  rw [e1, e2, u32_or_nat _ _ (by omega) (by omega), u32_or_nat _ _ (by omega) (by omega), Nat.or_comm]
theorem or_15 (x : Nat) (h : x < 4294967296) : bits .or .u32 ((x : Int) * 32768 % 4294967296) ((x : Int) / 131072) = ((x % 131072 * 32768 + x / 131072 : Nat) : Int) := by
  have e1 : (x : Int) / 131072 = ((x / 131072 : Nat) : Int) := rfl
  have e2 : (x : Int) * 32768 % 4294967296 = ((x % 131072 * 32768 : Nat) : Int) := by omega
  rw [e1, e2, u32_or_nat _ _ (by omega) (by omega)]
  have h2 := or_apart (x / 131072) (x % 131072) 15 (by omega)
  rw [show (2 : Nat) ^ 15 = 32768 by decide] at h2
  rw [Nat.or_comm, h2, Nat.add_comm]
theorem back_int (x : Nat) (h : x ≤ 4294967295) : ((x : Int) - 2726488792) % 4294967296 = ((back x : Nat) : Int) := by unfold back; omega
theorem mask_int (x : Nat) : (((x / 32768 + x % 32768 * 131072 : Nat) : Int) + 2726488792) % 4294967296 = ((maskN x : Nat) : Int) := by unfold maskN; omega

theorem rot_17 (x : Nat) (w : World) (hx : x ≤ 4294967295) :
    Calls Try.prog 93 #[.int .u32 x, .int .i64 (-15)] w fun e w' => e = .returned (.int .u32 ((x / 32768 + x % 32768 * 131072 : Nat) : Int)) ∧ w = w' := by
  have e : bits .and .u64 (IntKind.u64.wrap (-15)) 31 = 17 := by decide +kernel
  go_enter Try.func93, Try.ntmps93
  go_wp2_with fail
  go_ret
  exact ⟨ret_u32 (or_17' x (by omega)), rfl⟩
theorem rot_15 (x : Nat) (w : World) (hx : x ≤ 4294967295) :
    Calls Try.prog 93 #[.int .u32 x, .int .i64 15] w fun e w' => e = .returned (.int .u32 ((x % 131072 * 32768 + x / 131072 : Nat) : Int)) ∧ w = w' := by
  have e : bits .and .u64 (IntKind.u64.wrap 15) 31 = 15 := by decide +kernel
  have e' : bits .and .u64 15 31 = 15 := by decide +kernel
  go_enter Try.func93, Try.ntmps93
  go_wp2_with fail
  go_ret
  exact ⟨ret_u32 (or_15 x (by omega)), rfl⟩
theorem rmask_any (x : Nat) (w : World) (hx : x ≤ 4294967295) :
    Calls Try.prog 72 #[.int .u32 x] w fun e w' => e = .returned (.int .u32 (maskN x : Nat)) ∧ w = w' := by
  go_enter Try.func72, Try.ntmps72
  go_wp2_with fail
  go_ret
  exact ⟨ret_u32 (by rw [or_17 x (by omega), mask_int]), rfl⟩
theorem mask_any (x : Nat) (w : World) (hx : x ≤ 4294967295) :
    Calls Try.prog 58 #[.int .u32 x] w fun e w' => e = .returned (.int .u32 (maskN x : Nat)) ∧ w = w' := by
  go_enter Try.func58, Try.ntmps58
  go_wp2_with fail
  refine (rot_17 x _ hx).mono ?_; rintro e w' ⟨rfl, rfl⟩
  have hx' : x / 32768 + x % 32768 * 131072 ≤ 4294967295 := by omega
  have hm := Lib.hid (mask_int x)
  generalize x / 32768 + x % 32768 * 131072 = y at hx' hm
  go_wp2_with fail
  go_ret
  exact ⟨ret_u32 (by rw [hm.out]), rfl⟩
end Go.Proofs.Ytobjiamdljjkjaa.Crc
