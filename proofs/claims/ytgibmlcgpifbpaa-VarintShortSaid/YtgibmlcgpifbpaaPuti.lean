/- What PutInt of package varint, and the document's own PutInt, make of bytes and a number on either side of nothing. -/
import Derived.Test.YtgibmlcgpifbpaaPutv
namespace Go.Proofs.Ytgibmlcgpifbpaa.Vt
set_option linter.unusedVariables false
open Go.RowKit Lift Vn

/-- The number that stands for n. -/
def zig (n : Int) : Nat := if n < 0 then (-2 * n - 1).toNat else (2 * n).toNat
theorem unz_zig (n : Int) : unz (zig n) = n := by
  unfold unz zig
  split <;> split <;> omega
theorem zig_lt (n : Int) (h1 : -9223372036854775808 ≤ n) (h2 : n ≤ 9223372036854775807) : zig n < 18446744073709551616 := by
  unfold zig; split <;> omega

theorem fold_neg (n : Int) (h1 : -9223372036854775808 ≤ n) (h : n < 0) : bits .xor .u64 IntKind.u64.max (IntKind.u64.wrap (IntKind.u64.wrap n * 2)) = ((zig n : Nat) : Int) := by
  obtain ⟨m, hm⟩ : ∃ m : Nat, n = -((m : Int) + 1) := ⟨(-n - 1).toNat, by omega⟩
  have e1 : IntKind.u64.wrap (IntKind.u64.wrap n * 2) = ((18446744073709551616 - 2 * (m + 1) : Nat) : Int) := by
    simp only [IntKind.wrap_u64]; omega
  have e2 : IntKind.u64.max = ((18446744073709551615 : Nat) : Int) := by decide +kernel
  have e3 : zig n = 2 * m + 1 := by unfold zig; rw [if_pos h]; omega
  have hx := BitVec.allOnes_xor (x := BitVec.ofNat 64 (18446744073709551616 - 2 * (m + 1)))
  have hx' := congrArg BitVec.toNat hx
  rw [BitVec.toNat_not, BitVec.toNat_xor, BitVec.toNat_allOnes, BitVec.toNat_ofNat, Nat.mod_eq_of_lt (by omega)] at hx'
  rw [e1, e2, u64_xor_nat _ _ (by decide) (by omega), e3]
  have e4 : (18446744073709551615 : Nat) = 2 ^ 64 - 1 := by decide
  rw [e4, hx']
  have e5 : (2 : Nat) ^ 64 = 18446744073709551616 := by decide
  rw [e5]
  omega
theorem or_one (n : Int) (h1 : -9223372036854775808 ≤ n) (h : n < 0) : bits .or .u64 (-(n + 1) * 2) 1 = ((zig n : Nat) : Int) := by
  obtain ⟨m, hm⟩ : ∃ m : Nat, n = -((m : Int) + 1) := ⟨(-n - 1).toNat, by omega⟩
  have e1 : -(n + 1) * 2 = ((2 * m : Nat) : Int) := by omega
  have h2 := u64_or_nat (2 * m) 1 (by omega) (by decide)
  rw [show ((1 : Nat) : Int) = 1 from rfl] at h2
  have h3 := Nat.two_pow_add_eq_or_of_lt (i := 1) (b := 1) (by decide) m
  rw [Nat.pow_one] at h3
  rw [e1, h2, ← h3]
  unfold zig; rw [if_pos h]; omega

set_option maxHeartbeats 400000 in
theorem fold_any (n : Int) (w : World) (h1 : -9223372036854775808 ≤ n) (h2 : n ≤ 9223372036854775807) :
    Calls Try.prog 19 #[.int .i64 n] w fun e w' => e = .returned (.int .u64 (zig n)) ∧ w = w' := by
  by_cases hneg : n < 0
  · go_enter Try.func19, Try.ntmps19
    go_wp2_with fail
    go_ret
    exact ⟨ret_num (fold_neg n h1 hneg), rfl⟩
  · go_enter Try.func19, Try.ntmps19
    go_wp2_with fail
    go_ret
    exact ⟨ret_num (by unfold zig; rw [if_neg (by omega)]; omega), rfl⟩

set_option maxHeartbeats 400000 in
theorem putvi_calls (A : Option Addr) (c : Nat) (n : Int) (bs : List Nat) (w : World) (hl : Lies w w.heap.size A (bs.map vb)) (hm : bs.length ≤ 140737488355000) (h1 : -9223372036854775808 ≤ n) (h2 : n ≤ 9223372036854775807) :
    Calls Try.prog 12 #[.slice A bs.length c, .int .i64 n] w (Made w.heap.size w (bs ++ enc (zig n))) := by
  by_cases hneg : n < 0
  · go_enter Try.func12, Try.ntmps12
    go_wp2_with fail
    rw [or_one n h1 hneg]
    refine (putv_calls A c (zig n) bs w hl hm (zig_lt n h1 h2)).mono ?_; rintro e w' ⟨v, rfl, ho, hb⟩
    have HO := Lib.hid ho
    have HB := Lib.hid hb
    clear ho hb hl
    go_wp2_with fail
    go_ret
    exact ⟨v, rfl, HO.out, HB.out⟩
  · go_enter Try.func12, Try.ntmps12
    go_wp2_with fail
    rw [show n * 2 = ((zig n : Nat) : Int) by unfold zig; rw [if_neg (by omega)]; omega]
    refine (putv_calls A c (zig n) bs w hl hm (zig_lt n h1 h2)).mono ?_; rintro e w' ⟨v, rfl, ho, hb⟩
    have HO := Lib.hid ho
    have HB := Lib.hid hb
    clear ho hb hl
    go_wp2_with fail
    go_ret
    exact ⟨v, rfl, HO.out, HB.out⟩

set_option maxHeartbeats 400000 in
theorem puti_calls (A : Option Addr) (c : Nat) (n : Int) (bs : List Nat) (w : World) (hl : Lies w w.heap.size A (bs.map vb)) (hm : bs.length ≤ 140737488355000) (h1 : -9223372036854775808 ≤ n) (h2 : n ≤ 9223372036854775807) :
    Calls Try.prog 10 #[.slice A bs.length c, .int .i64 n] w (Made w.heap.size w (bs ++ enc (zig n))) := by
  go_enter Try.func10, Try.ntmps10
  go_wp2_with fail
  refine (fold_any n w h1 h2).mono ?_; rintro e w' ⟨rfl, rfl⟩
  go_wp2_with fail
  refine (put_calls A c (zig n) bs w hl hm (zig_lt n h1 h2)).mono ?_; rintro e w' ⟨v, rfl, ho, hb⟩
  have HO := Lib.hid ho
  have HB := Lib.hid hb
  clear ho hb hl
  go_wp2_with fail
  go_ret
  exact ⟨v, rfl, HO.out, HB.out⟩
end Go.Proofs.Ytgibmlcgpifbpaa.Vt
