/- A number in bytes, the lowest first: what the document's own Low and Get, and bytes.Clone, answer; bytes as a string. -/
import Derived.Test.YthhmjjmjicmhdaaByt
import Derived.Test.YthhmjjmjicmhdaaIkm
import Derived.Laws.BitsAllLaws
import Derived.Laws.BitsLemmas
import Derived.Deep.QuietTactic
import Derived.BigQuiet
import Derived.RowKit3
import Derived.LoopTactic
import Derived.Outline
import Derived.Lib.SliceRun
import Derived.Lib.SmallJoins
import Derived.Lib.BytesEntry
import Derived.Lib.Strings
namespace Go.Proofs.Ythhmjjmjicmhdaa.Ik
set_option linter.unusedVariables false
set_option linter.unusedSimpArgs false
open Go.RowKit Lift
theorem tail_or (s k : Nat) (hs : s ≤ 72057594037927935) (hk : k < 256) : bits .or .u64 ((s : Int) * 256) (k : Int) = ((s * 256 + k : Nat) : Int) := by
  have h := u64_or_nat (s * 256) k (by omega) (by omega)
  rw [show ((s * 256 : Nat) : Int) = (s : Int) * 256 by omega] at h
  rw [h]
  have e := Nat.two_pow_add_eq_or_of_lt (i := 8) (b := k) (by omega) s
  rw [show 2 ^ 8 * s = s * 256 by omega] at e
  rw [← e]
theorem pow8_cast (j : Nat) : (2 : Int) ^ (8 * j) = ((256 ^ j : Nat) : Int) := by
  rw [show (256 : Nat) = 2 ^ 8 from rfl, ← Nat.pow_mul, Int.natCast_pow]
  rfl
theorem byte_at (t j : Nat) : (t : Int) / 2 ^ (8 * j) % 256 = ((t / 256 ^ j % 256 : Nat) : Int) := by
  rw [pow8_cast, ← Int.natCast_ediv]
  omega
theorem low_next (xs : List Nat) (t j : Nat) (z : Int) (h : z = (t : Int) / 2 ^ (8 * j) % 256) : (xs ++ low t j).map vb ++ [Value.int .u8 z] = (xs ++ low t (j + 1)).map vb := by
  rw [low_snoc, h, byte_at]
  simp
theorem nat_in (s k : Nat) : ((s : Int) * 256 + (k : Int)) = ((s * 256 + k : Nat) : Int) := by omega
theorem and_byte (x j : Nat) (hx : x < 18446744073709551616) : bits .and .u64 ((x : Int) / 2 ^ (8 * j)) 255 % 256 = (x : Int) / 2 ^ (8 * j) % 256 := by
  rw [pow8_cast, ← Int.natCast_ediv]
  have h1 := u64_and_nat (x / 256 ^ j) 255 (Nat.lt_of_le_of_lt (Nat.div_le_self _ _) hx) (by decide)
  rw [show ((255 : Nat) : Int) = 255 from rfl, show x / 256 ^ j &&& 255 = x / 256 ^ j % 2 ^ 8 from Nat.and_two_pow_sub_one_eq_mod (x / 256 ^ j) 8] at h1
  rw [h1]
  omega
theorem num_drop {L : List Nat} {j c : Nat} (h : L[j]? = some c) : num (L.drop j) = c + 256 * num (L.drop (j + 1)) := by
  rw [drop_cons h]; rfl
theorem num_cut {bs : List Nat} (h : ∀ c, c ∈ bs → c < 256) (at' n j : Nat) (hj : 1 ≤ j) (hn : n ≤ 8) : num (((bs.drop at').take n).drop j) < 72057594037927936 := by
  have h1 := num_lt (((bs.drop at').take n).drop j) fun c hc => h c (List.mem_of_mem_drop (List.mem_of_mem_take (List.mem_of_mem_drop hc)))
  have h2 : (((bs.drop at').take n).drop j).length ≤ 7 := by simp; omega
  have h3 : 256 ^ (((bs.drop at').take n).drop j).length ≤ 256 ^ 7 := Nat.pow_le_pow_right (by decide) h2
  omega
theorem cut_at {bs : List Nat} {at' n j c : Nat} (hj : j < n) (h : bs[at' + j]? = some c) : ((bs.drop at').take n)[j]? = some c := by
  rw [List.getElem?_take_of_lt hj, List.getElem?_drop]; exact h
theorem or_step (t c j : Nat) (hj : j < 8) (ht : t < 256 ^ j) (hc : c < 256) : bits .or .u64 (t : Int) (IntKind.u64.wrap ((c : Int) * 2 ^ (8 * j))) = ((t + c * 256 ^ j : Nat) : Int) := by
  have hp : 256 ^ j ≤ 256 ^ 7 := Nat.pow_le_pow_right (by decide) (by omega)
  have p7 : (256 : Nat) ^ 7 = 72057594037927936 := by decide
  have hm : c * 256 ^ j ≤ 255 * 256 ^ 7 := Nat.mul_le_mul (by omega) hp
  rw [pow8_cast, ← Int.natCast_mul]
  rw [show IntKind.u64.wrap ((c * 256 ^ j : Nat) : Int) = ((c * 256 ^ j : Nat) : Int) by simp only [IntKind.wrap_u64]; omega]
  rw [u64_or_nat _ _ (by omega) (by omega)]
  have e := Nat.two_pow_add_eq_or_of_lt (i := 8 * j) (b := t) (by rw [Nat.pow_mul]; exact ht) c
  rw [show 2 ^ (8 * j) * c = c * 256 ^ j by rw [Nat.pow_mul, Nat.mul_comm]] at e
  rw [Nat.or_comm, ← e, Nat.add_comm]
theorem num_step {bs : List Nat} {n j d y : Nat} (hd : bs[n + j]? = some d) (hy : y = num ((bs.drop n).take j)) : y + d * 256 ^ j = num ((bs.drop n).take (j + 1)) := by
  have h1 : (bs.drop n)[j]? = some d := by rw [List.getElem?_drop]; exact hd
  have h2 : ((bs.drop n).take j).length = j := by
    have := (List.getElem?_eq_some_iff.1 h1).1
    rw [List.length_take]; omega
  rw [List.take_add_one, h1, Option.toList_some, num_snoc, h2, hy]
theorem pow_step {y d j : Nat} (h : y < 256 ^ j) (hd : d < 256) : y + d * 256 ^ j < 256 ^ (j + 1) := by
  have : d * 256 ^ j ≤ 255 * 256 ^ j := Nat.mul_le_mul_right _ (by omega)
  rw [Nat.pow_succ]
  omega
end Go.Proofs.Ythhmjjmjicmhdaa.Ik
