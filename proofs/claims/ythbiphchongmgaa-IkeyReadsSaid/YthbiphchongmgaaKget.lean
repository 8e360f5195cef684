/- What bytes.Clone and the document's own Get answer. -/
import Derived.Test.YthbiphchongmgaaKbytes
import Derived.Lib.SliceRun
namespace Go.Proofs.Ythbiphchongmgaa.Ik
set_option linter.unusedVariables false
set_option linter.unusedSimpArgs false
open Go.RowKit Lift

theorem num_drop {L : List Nat} {j c : Nat} (h : L[j]? = some c) : num (L.drop j) = c + 256 * num (L.drop (j + 1)) := by
  rw [drop_cons h]; rfl
theorem num_cut {bs : List Nat} (h : ∀ c, c ∈ bs → c < 256) (at' n j : Nat) (hj : 1 ≤ j) (hn : n ≤ 8) : num (((bs.drop at').take n).drop j) < 72057594037927936 := by
  have h1 := num_lt (((bs.drop at').take n).drop j) fun c hc => h c (List.mem_of_mem_drop (List.mem_of_mem_take (List.mem_of_mem_drop hc)))
  have h2 : (((bs.drop at').take n).drop j).length ≤ 7 := by simp; omega
  have h3 : 256 ^ (((bs.drop at').take n).drop j).length ≤ 256 ^ 7 := Nat.pow_le_pow_right (by decide) h2
  omega
theorem cut_at {bs : List Nat} {at' n j c : Nat} (hj : j < n) (h : bs[at' + j]? = some c) : ((bs.drop at').take n)[j]? = some c := by
  rw [List.getElem?_take_of_lt hj, List.getElem?_drop]; exact h

set_option maxRecDepth 100000 in
set_option maxHeartbeats 400000 in
theorem get_any (A : Option Addr) (cap B at' n : Nat) (bs : List Nat) (w : World) (hl : Lies w B A (bs.map vb)) (hcap : bs.length ≤ cap) (hm : cap ≤ maxLen) (hb : ∀ c, c ∈ bs → c < 256) (hn : n ≤ 8) (hat : at' + n ≤ bs.length) :
    Calls Try.prog 21 #[.slice A bs.length cap, .int .i64 (at' : Int), .int .i64 (n : Int)] w fun e w' => e = .returned (.int .u64 (num ((bs.drop at').take n) : Nat)) ∧ w = w' := by
  unfold maxLen at hm
  have HL := Lib.hid hl
  have H8 := Lib.hid hb
  clear hl hb
  go_enter Try.func21, Try.ntmps21
  go_wp2_with fail
  go_loop [7, 8] (fun x i => ∃ j y : Nat, j ≤ n ∧ i = .int .i64 ((j : Int) - 1) ∧ x = .int .u64 y ∧ Hid (y = num (((bs.drop at').take n).drop j)) ∧ y < 18446744073709551616) (fun _ i => (intOf i + 1).toNat)
  case atStart => exact ⟨n, 0, by omega, rfl, rfl, Lib.hid (by rw [List.drop_of_length_le (by simp; omega)]; rfl), by decide⟩
  case round =>
    obtain ⟨j, y, hj, rfl, rfl, hy, hy64⟩ := hrel
    by_cases hlt : 0 < j
    · obtain ⟨i, rfl⟩ : ∃ i, j = i + 1 := ⟨j - 1, by omega⟩
      obtain ⟨ad, hA, _, hcell⟩ := HL.out.place (by simp; omega)
      subst hA
      obtain ⟨c, hc⟩ : ∃ c : Nat, bs[at' + i]? = some c := ⟨_, List.getElem?_eq_getElem (by omega)⟩
      have c8 := H8.out c (List.mem_of_getElem? hc)
      have h1 := cells_at hcell _ c hc
      have HD := Lib.hid (num_drop (cut_at (n := n) (by omega) hc))
      have hy56 := num_cut H8.out at' n (i + 1) (by omega) hn
      rw [← hy.out] at hy56
      have e := tail_or y c (by omega) c8
      have hy8 : y * 256 + c < 18446744073709551616 := by omega
      clear hcell hc
      have ei : ((i + 1 : Nat) : Int) - 1 = (i : Int) := by omega
      rw [ei]
      clear ei
      go_wp2_with fail
      go_round
      case rel => exact ⟨i, y * 256 + c, by omega, by go_num, by go_num, Lib.hid (by rw [HD.out, ← hy.out]; omega), by omega⟩
      case measure => simp [intOf]
    · obtain rfl : j = 0 := by omega
      have HY : Hid (y = num ((bs.drop at').take n)) := Lib.hid hy.out
      go_wp2_with fail
      go_ret
      exact ⟨by rw [← HY.out]; rfl, rfl⟩

set_option maxHeartbeats 400000 in
theorem clone_any (ad : Addr) (c : Nat) (xs : List Nat) (w : World) (hl : Lies w w.heap.size (some ad) (xs.map vb)) (hm : xs.length ≤ 140737488354000) :
    Calls Try.prog 20 #[.slice (some ad) xs.length c] w (Made w.heap.size w xs) := by
  have HL := Lib.hid hl
  have q22 : ∀ W : World, Sem.run Try.prog (binOp .eql 22 (.slice (some ad) xs.length c) (.slice none 0 0)) W = .ok (.bool false) W := fun W => Lib.run_eql_slice_nil W _ _ (some ad) xs.length c 0 0 Try.underlying22
  clear hl
  have hb0 := Joins.below_alloc1 w (.cells #[] 5)
  have hown : (w.alloc (.cells #[] 5)).ownsRow w.heap.size 5 1 (.slice (some ⟨w.heap.size, 0, none⟩) 0 0) 0 [] :=
    ⟨rfl, .inr ⟨w.heap.size, 0, #[], rfl, Nat.le_refl _, heap_alloc_new w _, Nat.le_refl _, by decide, rfl, rfl⟩⟩
  obtain ⟨v2, W2, hr2, hown2, hb2, hs2⟩ := run_append_lies (P := Try.prog) (m := xs.length) (c := c) 22 22 5 (.int .u8 0) 1 1 Try.underlying22 (by kernel_rfl) rfl (by decide)
      (fun u hu => by simp at hu; obtain ⟨_, _, rfl⟩ := hu; rfl) hown (HL.out.below hb0) (by simp) (by unfold maxLen; omega) (by omega) hb0.size
  rw [Nat.zero_add, List.nil_append] at hown2
  have HO := Lib.hid hown2
  have HB := Lib.hid (hb0.trans hb2)
  have HR := Lib.hid hr2
  clear hown hown2 hb0 hb2 hr2
  go_enter Try.func20, Try.ntmps20
  go_wp2_with (at_builtin; refine wpList_append_run rfl _ _ 22 rfl rfl rfl HR.out ?_)
  go_ret
  exact ⟨_, rfl, HO.out, HB.out⟩
end Go.Proofs.Ythbiphchongmgaa.Ik
