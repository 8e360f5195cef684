/- What a step of eight of package crc, and the document's own, answer. -/
import Derived.Test.YtobjiamdljjkjaaRows
import Derived.Test.YtobjiamdljjkjaaLift
import Derived.Test.YtobjiamdljjkjaaCrcm
import Derived.Laws.BitsAllLaws
import Derived.Laws.BitsLemmas
import Derived.WalkLawsBesides
import Derived.WalkSpells
import Derived.Deep.QuietTactic
import Derived.BigQuiet
import Derived.RowKit3
import Derived.LoopTactic
import Derived.Outline
namespace Go.Proofs.Ytobjiamdljjkjaa.Crc
set_option linter.unusedVariables false
open Go.RowKit Lift

theorem and_one (y : Nat) (hy : y ≤ 4294967295) : bits .and .u32 (y : Int) 1 = ((y % 2 : Nat) : Int) := by
  have h := u32_and_nat y 1 (by omega) (by decide)
  rw [show ((1 : Nat) : Int) = 1 from rfl] at h
  rw [h, Nat.and_one_is_mod]
theorem xor_poly (y : Nat) (hy : y ≤ 4294967295) : bits .xor .u32 ((y : Int) / 2) 2197175160 = ((y / 2 ^^^ 2197175160 : Nat) : Int) := by
  have h := u32_xor_nat (y / 2) 2197175160 (by omega) (by decide)
  rw [show ((2197175160 : Nat) : Int) = 2197175160 from rfl] at h
  rw [← h]; rfl
theorem st_odd {y : Nat} (h : y % 2 = 1) : st y = (y / 2 ^^^ 2197175160) := by unfold st; rw [if_pos h]
theorem st_even {y : Nat} (h : ¬ y % 2 = 1) : st y = y / 2 := by unfold st; rw [if_neg h]
theorem sts_step {k y r : Nat} (hk : k < 8) (h : sts (8 - k) y = r) : sts (8 - (k + 1)) (st y) = r := by
  rw [← h, show 8 - k = (8 - (k + 1)) + 1 by omega]; rfl
theorem ret_u32 {a b : Int} (h : a = b) : Ending.returned (.int .u32 a) = .returned (.int .u32 b) := by rw [h]

set_option maxRecDepth 100000 in
set_option maxHeartbeats 400000 in
theorem entry_any (n : Nat) (w : World) (hn : n < 4294967296) :
    Calls Try.prog 94 #[.int .u32 n] w fun e w' => e = .returned (.int .u32 (ent n : Nat)) ∧ w = w' := by
  have HE : Hid (sts 8 n = ent n) := Lib.hid rfl
  go_enter Try.func94, Try.ntmps94
  go_wp2_with fail
  go_loop [0, 4] (fun x i => ∃ k y : Nat, k ≤ 8 ∧ y ≤ 4294967295 ∧ i = .int .i64 k ∧ x = .int .u32 y ∧ Hid (sts (8 - k) y = ent n)) (fun _ i => 100 - (intOf i).toNat)
  case atStart => exact ⟨0, n, by omega, by omega, rfl, rfl, HE⟩
  case round =>
    obtain ⟨k, y, hk, hy, rfl, rfl, hd⟩ := hrel
    by_cases hlt : k < 8
    · have hs := st_lt (x := y) (by omega)
      by_cases ho : y % 2 = 1
      · have t : (bits .and .u32 (y : Int) 1 != 0) = true := by rw [and_one y hy, ho]; rfl
        have HO := Lib.hid ho
        clear ho
        go_wp2_with fail
        go_round
        case rel => exact ⟨k + 1, st y, by omega, by omega, by go_num, by rw [xor_poly y hy, st_odd HO.out], Lib.hid (sts_step hlt hd.out)⟩
        case measure => simp [intOf]; omega
      · have t : (bits .and .u32 (y : Int) 1 != 0) = false := by rw [and_one y hy, show y % 2 = 0 by omega]; rfl
        have HO := Lib.hid ho
        clear ho
        go_wp2_with fail
        go_round
        case rel => exact ⟨k + 1, st y, by omega, by omega, by go_num, by rw [st_even HO.out]; go_num, Lib.hid (sts_step hlt hd.out)⟩
        case measure => simp [intOf]; omega
    · have h8 : k = 8 := by omega
      have H8 := Lib.hid h8
      clear h8
      go_wp2_with fail
      go_ret
      exact ⟨ret_u32 (by rw [← hd.out, H8.out]; rfl), rfl⟩

set_option maxRecDepth 100000 in
set_option maxHeartbeats 400000 in
theorem step_any (n : Nat) (w : World) (hn : n < 4294967296) :
    Calls Try.prog 98 #[.int .u32 n] w fun e w' => e = .returned (.int .u32 (ent n : Nat)) ∧ w = w' := by
  have HE : Hid (sts 8 n = ent n) := Lib.hid rfl
  go_enter Try.func98, Try.ntmps98
  go_wp2_with fail
  go_loop [0, 3] (fun x i => ∃ k y : Nat, k ≤ 8 ∧ y ≤ 4294967295 ∧ i = .int .i64 k ∧ x = .int .u32 y ∧ Hid (sts (8 - k) y = ent n)) (fun _ i => 100 - (intOf i).toNat)
  case atStart => exact ⟨0, n, by omega, by omega, rfl, rfl, HE⟩
  case round =>
    obtain ⟨k, y, hk, hy, rfl, rfl, hd⟩ := hrel
    by_cases hlt : k < 8
    · have hs := st_lt (x := y) (by omega)
      by_cases ho : y % 2 = 1
      · have t : (bits .and .u32 (y : Int) 1 == 1) = true := by rw [and_one y hy, ho]; rfl
        have HO := Lib.hid ho
        clear ho
        go_wp2_with fail
        go_round
        case rel => exact ⟨k + 1, st y, by omega, by omega, by go_num, by rw [xor_poly y hy, st_odd HO.out], Lib.hid (sts_step hlt hd.out)⟩
        case measure => simp [intOf]; omega
      · have t : (bits .and .u32 (y : Int) 1 == 1) = false := by rw [and_one y hy, show y % 2 = 0 by omega]; rfl
        have HO := Lib.hid ho
        clear ho
        go_wp2_with fail
        go_round
        case rel => exact ⟨k + 1, st y, by omega, by omega, by go_num, by rw [st_even HO.out]; go_num, Lib.hid (sts_step hlt hd.out)⟩
        case measure => simp [intOf]; omega
    · have h8 : k = 8 := by omega
      have H8 := Lib.hid h8
      clear h8
      go_wp2_with fail
      go_ret
      exact ⟨ret_u32 (by rw [← hd.out, H8.out]; rfl), rfl⟩
end Go.Proofs.Ytobjiamdljjkjaa.Crc
