/- Parts of slices of bytes: b[p:], b[:k], b[p:p+k]. -/
import Derived.Test.YtobjiamdljjkjaaOwn
namespace Go.Proofs.Ytobjiamdljjkjaa.Lift
set_option linter.unusedVariables false
set_option linter.unusedSimpArgs false
open Go.RowKit Ik
theorem cut_from (A : Option Addr) (n c p : Nat) (h : p ≤ n) (hc : n ≤ c) (hm : c ≤ maxLen) :
    ∃ A' : Option Addr, (0 < n - p → A' = A.map (·.add p)) ∧ (A'.isSome = A.isSome) ∧ ∀ W : World, Sem.run Try.prog (Instr.slice 25 (.slice A n c) (some (.int .i64 (p : Int))) none none) W = .ok (.slice A' (n - p) (c - p)) W := by
  unfold maxLen at hm
  by_cases hcp : c = p
  · refine ⟨A, fun h0 => by omega, rfl, fun W => ?_⟩
    obtain rfl : n = p := by omega
    subst hcp
    go_simp
  · refine ⟨A.map (·.add p), fun _ => rfl, by simp, fun W => ?_⟩
    go_simp
theorem cut_to (A : Option Addr) (n c k : Nat) (h : k ≤ c) (hc : n ≤ c) (hm : c ≤ maxLen) (W : World) : Sem.run Try.prog (Instr.slice 25 (.slice A n c) none (some (.int .i64 (k : Int))) none) W = .ok (.slice A k c) W := by
  unfold maxLen at hm
  go_simp
theorem cut_mid (A : Option Addr) (n c p k : Nat) (h : p + k ≤ n) (hc : n ≤ c) (hm : c ≤ maxLen) :
    ∃ A' : Option Addr, (0 < k → A' = A.map (·.add p)) ∧ (A'.isSome = A.isSome) ∧ ∀ (W : World) (q : Int), q = (p : Int) + (k : Int) → Sem.run Try.prog (Instr.slice 25 (.slice A n c) (some (.int .i64 (p : Int))) (some (.int .i64 q)) none) W = .ok (.slice A' k (c - p)) W := by
  unfold maxLen at hm
  by_cases hcp : c = p
  · refine ⟨A, fun h0 => by omega, rfl, fun W q hq => ?_⟩
    obtain rfl : k = 0 := by omega
    obtain rfl : n = p := by omega
    subst hcp hq
    go_simp
  · refine ⟨A.map (·.add p), fun _ => rfl, by simp, fun W q hq => ?_⟩
    subst hq
    go_simp
    rw [if_pos ⟨by omega, by omega⟩, if_pos (by omega), show ((p : Int) + (k : Int)).toNat - p = k by omega]
section
variable {w : World} {R : Nat → Prop} {B p k : Nat} {A A' : Option Addr} {xs ys : List Nat}
theorem LiesP.cut (h : LiesP w R A (xs.map vb)) (hA : 0 < ys.length → A' = A.map (·.add p)) (hy : ys <+: xs.drop p) : LiesP w R A' (ys.map vb) := by
  by_cases h0 : ys.length = 0
  · left; rw [List.eq_nil_of_length_eq_zero h0]; rfl
  · rcases h with h | ⟨ad, rfl, hb, hc⟩
    · have : xs = [] := by simpa using h
      subst this
      simp at hy
      subst hy
      simp at h0
    · refine .inr ⟨ad.add p, hA (by omega), by rw [add_block]; exact hb, fun j u hj => ?_⟩
      rw [add_add]
      refine hc _ u ?_
      obtain ⟨t, ht⟩ := hy
      rw [List.getElem?_map] at hj ⊢
      rw [← List.getElem?_drop, ← ht, List.getElem?_append_left (by simpa using (List.getElem?_eq_some_iff.1 (Option.map_eq_some_iff.1 hj).choose_spec.1).1)]
      exact hj
theorem Lies.cut (h : Lies w B A (xs.map vb)) (hA : 0 < ys.length → A' = A.map (·.add p)) (hy : ys <+: xs.drop p) : Lies w B A' (ys.map vb) :=
  LiesP.lies (R := (· < B)) (LiesP.cut (Lies.p h fun _ hk => hk) hA hy) fun _ hk => hk
end
/-- make([]byte, n). -/
theorem make_own (n : Nat) (hn : n ≤ 140737488350000) (W : World) : Sem.run Try.prog (Instr.makeSlice 25 (.int .i64 (n : Int)) (.int .i64 (n : Int))) W = .ok (.slice (some ⟨W.heap.size, 0, none⟩) n n) (W.alloc (.cells (madeCells #[.int .u8 0] n) 5)) ∧
    (W.alloc (.cells (madeCells #[.int .u8 0] n) 5)).ownsRow W.heap.size 5 1 (.slice (some ⟨W.heap.size, 0, none⟩) n n) (List.replicate n 0).length ((List.replicate n 0).map vb) := by
  obtain ⟨i, hi, hz, hs, hb⟩ := info_parts (P := Try.prog) (e := 5) (z := .int .u8 0) (size := 1) (bytes := 1) (by kernel_rfl)
  have h := run_make (P := Try.prog) W 25 5 i (.int .u8 0) Try.underlying25 hi hz .i64 .i64 (n : Int) (n : Int) (by omega) (by omega) (by rw [hb]; omega) (by omega)
  rw [hs, Nat.mul_one] at h
  have e := toList_madeCells_one (.int .u8 0) n
  refine ⟨h, by simp, .inr ⟨W.heap.size, n, _, by simp, Nat.le_refl _, heap_alloc_new W _, by simp, by unfold maxLen; omega, ?_, ?_⟩⟩
  · rw [← Array.length_toList, e]; simp
  · rw [e]; simp [List.take_of_length_le]
end Go.Proofs.Ytobjiamdljjkjaa.Lift
