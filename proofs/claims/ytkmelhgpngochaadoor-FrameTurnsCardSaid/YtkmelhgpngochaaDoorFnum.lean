/- What number and appendNumber of package frame answer, and room. -/
import Derived.Test.YtkmelhgpngochaaDoorOwn
import Derived.Test.YtkmelhgpngochaaDoorLowb
import Derived.Test.YtkmelhgpngochaaDoorFm
import Derived.Lib.MinMax
namespace Go.Proofs.YtkmelhgpngochaaDoor.Fr
set_option linter.unusedVariables false
set_option linter.unusedSimpArgs false
open Go.RowKit Lift Ik
theorem byte_front {p r : List Nat} (h8 : ∀ c, c ∈ r → c < 256) (h : ∀ c, c ∈ p → c ∈ r) : ∀ c, c ∈ p → c < 256 := fun c hc => h8 c (h c hc)
set_option maxRecDepth 100000 in
theorem room_any (a : Nat) (w : World) (ha : a ≤ 9223372036854775807) : Calls Tryd.prog 17 #[.int .i64 (a : Int)] w fun e w' => e = .returned (.int .i64 (left a : Nat)) ∧ w = w' := by
  have e : (128 : Int) - Int.tmod (a : Int) 128 = ((left a : Nat) : Int) := by
    unfold left
    rw [Int.tmod_eq_emod_of_nonneg (by omega)]
    omega
  go_enter Tryd.func17, Tryd.ntmps17
  go_wp2_with fail
  go_ret
  exact ⟨by first | rw [e] | (simp; unfold left; omega), rfl⟩
set_option maxRecDepth 100000 in
set_option maxHeartbeats 400000 in
theorem nums_any (base x n : Nat) (v : Value) (xs : List Nat) (w : World) (h : w.ownsRow base 5 1 v xs.length (xs.map vb)) (hbase : base ≤ w.heap.size) (hm : xs.length ≤ 140737488350000) (hx : x < 4294967296) (hn : n ≤ 4) :
    Calls Tryd.prog 26 #[v, .int .u32 (x : Int), .int .i64 (n : Int)] w (Grew base v w (xs ++ low x n)) := by
  have HO := Lib.hid h
  have HZ := Lib.hid hbase
  clear h hbase
  go_enter Tryd.func26, Tryd.ntmps26
  go_wp2_with fail
  go_loopw [0, 9] (fun o i wr => ∃ j : Nat, j ≤ n ∧ i = .int .i64 j ∧ wr.ownsRow base 5 1 o (xs ++ low x j).length ((xs ++ low x j).map vb) ∧ Hid (Onto v o w wr)) (fun _ i _ => 10 - (intOf i).toNat)
  case atStart => exact ⟨0, by omega, rfl, by simpa [low] using HO.out, Lib.hid (Onto.refl _ _)⟩
  case round =>
    obtain ⟨j, hj, rfl, hown, hb⟩ := hrel
    by_cases hlt : j < n
    · have hl := low_length x j
      obtain ⟨v', w1, hrun, hown1, hon1⟩ := append_byte (x / 256 ^ j % 256) hown (by rw [List.length_append]; omega) (Nat.le_trans HZ.out hb.out.keep.size)
      rw [List.append_assoc, ← low_snoc] at hown1
      rw [show vb (x / 256 ^ j % 256) = .int .u8 ((x : Int) / 2 ^ (8 * j) % 256) by rw [byte_at]] at hrun
      have HO1 := Lib.hid hown1
      have HB3 := Lib.hid (hb.out.trans hon1)
      have HR1 := Lib.hid hrun
      clear hown hown1 hon1 hrun hl
      go_wp2_with (at_builtin; refine wpList_append_run rfl _ _ 22 rfl rfl rfl HR1.out ?_)
      go_roundw
      case rel => exact ⟨j + 1, by omega, by go_num, HO1.out, HB3⟩
      case measure => simp [intOf]; omega
    · obtain rfl : j = n := by omega
      have HO1 := Lib.hid hown
      clear hown
      go_wp2_with fail
      go_ret
      exact ⟨_, rfl, HO1.out, hb.out⟩
theorem or_step32 (t c j : Nat) (hj : j < 4) (ht : t < 256 ^ j) (hc : c < 256) : bits .or .u32 (t : Int) ((c : Int) * 2 ^ (8 * j) % 4294967296) = ((t + c * 256 ^ j : Nat) : Int) := by
  have hp : 256 ^ j ≤ 256 ^ 3 := Nat.pow_le_pow_right (by decide) (by omega)
  have p7 : (256 : Nat) ^ 3 = 16777216 := by decide
  have hm : c * 256 ^ j ≤ 255 * 256 ^ 3 := Nat.mul_le_mul (by omega) hp
  rw [pow8_cast, ← Int.natCast_mul]
  rw [show ((c * 256 ^ j : Nat) : Int) % 4294967296 = ((c * 256 ^ j : Nat) : Int) by omega]
  rw [u32_or_nat _ _ (by omega) (by omega)]
  have e := Nat.two_pow_add_eq_or_of_lt (i := 8 * j) (b := t) (by rw [Nat.pow_mul]; exact ht) c
  rw [show 2 ^ (8 * j) * c = c * 256 ^ j by rw [Nat.pow_mul, Nat.mul_comm]] at e
  rw [Nat.or_comm, ← e, Nat.add_comm]
theorem num_take {bs : List Nat} {j c : Nat} (h : bs[j]? = some c) : num (bs.take (j + 1)) = num (bs.take j) + c * 256 ^ j := by
  have hl : (bs.take j).length = j := by
    have := (List.getElem?_eq_some_iff.1 h).1
    rw [List.length_take]; omega
  rw [List.take_add_one, h, Option.toList_some, num_snoc, hl]
set_option maxRecDepth 100000 in
set_option maxHeartbeats 400000 in
theorem number_any (A : Option Addr) (c B : Nat) (bs : List Nat) (w : World) (hl : Lies w B A (bs.map vb)) (hn : bs.length ≤ 4) (hc : bs.length ≤ c) (hm : c ≤ maxLen) (h8 : ∀ c, c ∈ bs → c < 256) :
    Calls Tryd.prog 32 #[.slice A bs.length c] w fun e w' => e = .returned (.int .u32 (num bs : Nat)) ∧ w = w' := by
  unfold maxLen at hm
  have HL := Lib.hid hl
  have H8 := Lib.hid h8
  clear hl h8
  go_enter Tryd.func32, Tryd.ntmps32
  go_wp2_with fail
  go_loop [3, 8] (fun x i => ∃ j y : Nat, j ≤ bs.length ∧ i = .int .i64 j ∧ x = .int .u32 y ∧ Hid (y = num (bs.take j)) ∧ Hid (y < 256 ^ j)) (fun _ i => bs.length + 1 - (intOf i).toNat)
  case atStart => exact ⟨0, 0, by omega, rfl, rfl, Lib.hid (by simp [num]), Lib.hid (by decide)⟩
  case round =>
    obtain ⟨j, y, hj, rfl, rfl, hy, hlt2⟩ := hrel
    by_cases hlt : j < bs.length
    · obtain ⟨ad, hA, _, hcell⟩ := HL.out.place (by simp; omega)
      subst hA
      obtain ⟨d, hd⟩ : ∃ d : Nat, bs[j]? = some d := ⟨_, List.getElem?_eq_getElem hlt⟩
      have d8 := H8.out d (List.mem_of_getElem? hd)
      have h1 := cells_at hcell _ d hd
      have e := or_step32 y d j (by omega) hlt2.out d8
      have HN := Lib.hid (num_take hd)
      have hnl : num (bs.take (j + 1)) < 256 ^ (j + 1) := by
        have := num_lt (bs.take (j + 1)) fun c hc => H8.out c (List.mem_of_mem_take hc)
        rwa [List.length_take, Nat.min_eq_left (by omega)] at this
      have hp : 256 ^ (j + 1) ≤ 256 ^ 4 := Nat.pow_le_pow_right (by decide) (by omega)
      have p4 : (256 : Nat) ^ 4 = 4294967296 := by decide
      have HP := Lib.hid (show y + d * 256 ^ j < 256 ^ (j + 1) by rw [hy.out, ← HN.out]; exact hnl)
      have hy32 : y + d * 256 ^ j < 4294967296 := by have := HP.out; omega
      have hy0 : y < 4294967296 := Nat.lt_of_le_of_lt (Nat.le_add_right _ _) hy32
      clear hcell hd hnl hp p4
      generalize hz : d * 256 ^ j = z at *
      go_wp2_with fail
      go_round
      case rel => exact ⟨j + 1, y + z, by omega, by go_num, by go_num, Lib.hid (by rw [HN.out, ← hy.out]), HP⟩
      case measure => simp [intOf]; omega
    · obtain rfl : j = bs.length := by omega
      have HY : Hid (y = num bs) := Lib.hid (by rw [hy.out, List.take_length])
      go_wp2_with fail
      go_ret
      exact ⟨by rw [HY.out]; rfl, rfl⟩
end Go.Proofs.YtkmelhgpngochaaDoor.Fr
