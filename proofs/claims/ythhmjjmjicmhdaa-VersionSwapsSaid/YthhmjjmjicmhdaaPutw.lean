/- PutVar of the document, for seats without package varint (varint/XPutv with other names). -/
import Derived.Test.YthhmjjmjicmhdaaLow
import Derived.Test.YthhmjjmjicmhdaaVar
import Derived.Test.YthhmjjmjicmhdaaMade
namespace Go.Proofs.Ythhmjjmjicmhdaa.Vw
set_option linter.unusedVariables false
open Go.RowKit Lift Vn Ik

theorem or_128' (y : Nat) (h : y < 18446744073709551616) : bits .or .u64 (bits .and .u64 (y : Int) 127) 128 % 256 = ((y % 128 + 128 : Nat) : Int) := by
  have h1 := u64_and_nat y 127 h (by decide)
  rw [show ((127 : Nat) : Int) = 127 from rfl] at h1
  have h3 : y &&& 127 = y % 128 := Nat.and_two_pow_sub_one_eq_mod y 7
  have h4 : y % 128 < 128 := Nat.mod_lt _ (by decide)
  have h2 := u64_or_nat (y % 128) 128 (by omega) (by decide)
  rw [show ((128 : Nat) : Int) = 128 from rfl] at h2
  rw [h1, h3, h2]
  have : ∀ n : Fin 128, n.val ||| 128 = n.val + 128 := by decide +kernel
  have h5 := this ⟨y % 128, h4⟩
  simp only at h5
  rw [h5]
  omega
theorem pow_small {f y p : Nat} (h : p + (f + 1) = 9) (hy : y < 2 * 128 ^ (f + 1)) : y < 18446744073709551616 := by
  have h1 : 128 ^ (f + 1) ≤ 128 ^ 9 := Nat.pow_le_pow_right (by decide) (by omega)
  have h2 : (128 : Nat) ^ 9 = 9223372036854775808 := by decide
  omega

set_option maxRecDepth 100000 in
set_option maxHeartbeats 400000 in
theorem putv_calls (A : Option Addr) (c x : Nat) (bs : List Nat) (w : World) (hl : Lies w w.heap.size A (bs.map vb)) (hm : bs.length ≤ 140737488355000) (hx : x < 18446744073709551616) :
    Calls Try.prog 43 #[.slice A bs.length c, .int .u64 x] w (Made w.heap.size w (bs ++ enc x)) := by
  have HL := Lib.hid hl
  have HX := Lib.hid hx
  clear hl hx
  go_enter Try.func43, Try.ntmps43
  obtain ⟨v2, w2, hr2, hown, hbw, hsz⟩ := run_append_lies (P := Try.prog) (w := w) (base := w.heap.size) (m := bs.length) (c := c) 29 29 5 (.int .u8 0) 1 1 Try.underlying29 (by kernel_rfl) rfl (by decide)
    (fun u hu => by simp at hu; obtain ⟨_, _, rfl⟩ := hu; rfl) (World.ownsRow_nil _ _ _ _) HL.out (by simp) (by unfold maxLen; omega) (by omega) (Nat.le_refl _)
  rw [Nat.zero_add, List.nil_append] at hown
  have HB := Lib.hid hbw
  have HR2 := Lib.hid hr2
  clear hbw hr2
  go_wp2_with (at_builtin; refine wpList_append_run rfl _ _ 29 rfl rfl rfl HR2.out ?_)
  go_loopw [1, 5] (fun u o wr => ∃ (f y : Nat) (pre : List Nat), u = .int .u64 y ∧ wr.ownsRow w.heap.size 5 1 o (bs.length + pre.length) ((bs ++ pre).map vb) ∧ Hid (enc x = pre ++ encN f y) ∧ pre.length ≤ 9 ∧ Hid (pre.length + f = 9) ∧ Hid (y < 2 * 128 ^ f) ∧
      Hid (Below w.heap.size w wr) ∧ w.heap.size ≤ wr.heap.size) (fun u _ _ => (intOf u).toNat)
  case atStart => exact ⟨9, x, [], rfl, by simpa using hown, Lib.hid rfl, by simp, Lib.hid rfl, Lib.hid (by have := HX.out; omega), HB, hsz⟩
  case round =>
    obtain ⟨f, y, pre, rfl, hown, he, hp9, hf, hy, hb, hsz⟩ := hrel
    have hlen : bs.length + pre.length + 1 ≤ maxLen ∧ (bs.length + pre.length + 1) * 1 ≤ 140737488355328 := by unfold maxLen; omega
    by_cases h128 : 128 ≤ y
    · obtain ⟨v', w1, hrun, hown1, hb1, hs1⟩ := run_append_one (P := Try.prog) (u := .int .u8 (bits .or .u64 (bits .and .u64 (y : Int) 127) 128 % 256)) 29 29 5 (.int .u8 0) 1 Try.underlying29 (by kernel_rfl) rfl rfl hown hlen.1 hlen.2 hsz
      have HO := Lib.hid hown1
      have HB1 := Lib.hid hb1
      have HR := Lib.hid hrun
      clear hown hown1 hlen hb1 hrun
      go_wp2_with (at_builtin; refine wpList_append_run rfl _ _ 29 rfl rfl rfl HR.out ?_)
      go_roundw
      case rel =>
        obtain ⟨f, rfl⟩ : ∃ k, f = k + 1 := by
          rcases f with _ | f
          · have := hy.out
            omega
          · exact ⟨f, rfl⟩
        have h9 := hf.out
        refine ⟨f, y / 128, pre ++ [y % 128 + 128], by go_num, ?_, Lib.hid ?_, by simp; omega, Lib.hid (by simp; omega), Lib.hid ?_, Lib.hid (hb.out.trans HB1.out), by omega⟩
        · have := HO.out
          rw [or_128' y (by have := hy.out; exact pow_small h9 this)] at this
          simp only [List.map_append, List.map_cons, List.map_nil, List.length_append, List.length_cons, List.length_nil, Nat.zero_add, ← Nat.add_assoc, ← List.append_assoc] at this ⊢
          exact this
        · rw [he.out]
          conv => lhs; rw [encN]
          rw [if_neg (by omega)]
          simp
        · have := hy.out
          rw [Nat.pow_succ] at this
          omega
      case measure => simp [intOf]; omega
    · obtain ⟨v', w1, hrun, hown1, hb1, hs1⟩ := run_append_one (P := Try.prog) (u := vb y) 29 29 5 (.int .u8 0) 1 Try.underlying29 (by kernel_rfl) rfl rfl hown hlen.1 hlen.2 hsz
      have HO := Lib.hid hown1
      have HB1 := Lib.hid hb1
      have HR := Lib.hid hrun
      have h1 : y < 128 := by omega
      clear hown hown1 hlen hb1 h128 hrun
      go_wp2_with (at_builtin; refine wpList_append_run rfl _ _ 29 rfl rfl rfl HR.out ?_)
      go_ret
      refine ⟨v', rfl, ?_, hb.out.trans HB1.out⟩
      have ee : encN f y = [y] := by
        rcases f with _ | f
        · rfl
        · simp [encN, h1]
      rw [he.out, ee]
      have := HO.out
      simpa [Nat.add_assoc] using this
end Go.Proofs.Ythhmjjmjicmhdaa.Vw
