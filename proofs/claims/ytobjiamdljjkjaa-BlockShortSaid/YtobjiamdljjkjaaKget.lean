/- What bytes.Clone and the document's own Get answer. -/
import Derived.Test.YtobjiamdljjkjaaKbytes
import Derived.Test.YtobjiamdljjkjaaByt
import Derived.Lib.SliceRun
namespace Go.Proofs.Ytobjiamdljjkjaa.Ik
set_option linter.unusedVariables false
set_option linter.unusedSimpArgs false
open Go.RowKit Lift

theorem num_drop {L : List Nat} {j c : Nat} (h : L[j]? = some c) : num (L.drop j) = c + 256 * num (L.drop (j + 1)) := by
  rw [drop_cons h]; rfl
theorem num_cut {bs : List Nat} (h : ∀ c, c ∈ bs → c < 256) (at' n j : Nat) (hj : 1 ≤ j) (hn : n ≤ 8) : num (((bs.drop at').take n).drop j) < 72057594037927936 := by
  have h1 := num_lt (((bs.drop at').take n).drop j) fun c hc => h c (List.mem_of_mem_drop (List.mem_of_mem_take (List.mem_of_mem_drop hc)))
  have h2 : (((bs.drop at').take n).drop j).length ≤ 7 := by simp; omega
  have h3 : 256 ^ (((bs.drop at').take n).drop j).length ≤ 256 ^ 7 := Nat.pow_le_pow_right (by decide) h2
  omega
theorem cut_at {bs : List Nat} {at' n j c : Nat} (hj : j < n) (h : bs[at' + j]? = some c) : ((bs.drop at').take n)[j]? = some c := by
  rw [List.getElem?_take_of_lt hj, List.getElem?_drop]; exact h

set_option maxRecDepth 100000 in
set_option maxHeartbeats 400000 in
theorem get_any (A : Option Addr) (cap B at' n : Nat) (bs : List Nat) (w : World) (hl : Lies w B A (bs.map vb)) (hcap : bs.length ≤ cap) (hm : cap ≤ maxLen) (hb : ∀ c, c ∈ bs → c < 256) (hn : n ≤ 8) (hat : at' + n ≤ bs.length) :
    Calls Try.prog 39 #[.slice A bs.length cap, .int .i64 (at' : Int), .int .i64 (n : Int)] w fun e w' => e = .returned (.int .u64 (num ((bs.drop at').take n) : Nat)) ∧ w = w' := by
  unfold maxLen at hm
  have HL := Lib.hid hl
  have H8 := Lib.hid hb
  clear hl hb
  go_enter Try.func39, Try.ntmps39
  go_wp2_with fail
  go_loop [7, 8] (fun x i => ∃ j y : Nat, j ≤ n ∧ i = .int .i64 ((j : Int) - 1) ∧ x = .int .u64 y ∧ Hid (y = num (((bs.drop at').take n).drop j)) ∧ y < 18446744073709551616) (fun _ i => (intOf i + 1).toNat)
  case atStart => exact ⟨n, 0, by omega, rfl, rfl, Lib.hid (by rw [List.drop_of_length_le (by simp; omega)]; rfl), by decide⟩
  case round =>
    obtain ⟨j, y, hj, rfl, rfl, hy, hy64⟩ := hrel
    by_cases hlt : 0 < j
    · obtain ⟨i, rfl⟩ : ∃ i, j = i + 1 := ⟨j - 1, by omega⟩
      obtain ⟨ad, hA, _, hcell⟩ := HL.out.place (by simp; omega)
      subst hA
      obtain ⟨c, hc⟩ : ∃ c : Nat, bs[at' + i]? = some c := ⟨_, List.getElem?_eq_getElem (by omega)⟩
      have c8 := H8.out c (List.mem_of_getElem? hc)
      have h1 := cells_at hcell _ c hc
      have HD := Lib.hid (num_drop (cut_at (n := n) (by omega) hc))
      have hy56 := num_cut H8.out at' n (i + 1) (by omega) hn
      rw [← hy.out] at hy56
      have e := tail_or y c (by omega) c8
      have hy8 : y * 256 + c < 18446744073709551616 := by omega
      clear hcell hc
      have ei : ((i + 1 : Nat) : Int) - 1 = (i : Int) := by omega
      rw [ei]
      clear ei
      go_wp2_with fail
      go_round
      case rel => exact ⟨i, y * 256 + c, by omega, by go_num, by go_num, Lib.hid (by rw [HD.out, ← hy.out]; omega), by omega⟩
      case measure => simp [intOf]
    · obtain rfl : j = 0 := by omega
      have HY : Hid (y = num ((bs.drop at').take n)) := Lib.hid hy.out
      go_wp2_with fail
      go_ret
      exact ⟨by rw [← HY.out]; rfl, rfl⟩

end Go.Proofs.Ytobjiamdljjkjaa.Ik
