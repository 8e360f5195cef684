/- What the laws on package ikey share: the example of the document. -/
import Derived.Test.YthbiphchongmgaaKright
import Derived.Lib.SlBytesConst
namespace Go.Proofs.Ythbiphchongmgaa.Ik
set_option linter.unusedVariables false
set_option linter.unusedSimpArgs false
open Go.RowKit Lift

set_option maxRecDepth 100000 in
set_option maxHeartbeats 400000 in
theorem alive_any (w : World) : Calls Try.prog 8 #[] w (Yes w) := by
  have kc := fun (W : World) (C : Array Value) (n c : Nat) => Lib.run_convert_bytes_const (P := Try.prog) W 22 5 C n c Try.underlying22 Try.underlying5
  have k2 := Joins.run_convert_bytes_const_at (P := Try.prog) (w.alloc (.cells #[.int .u8 97] 5 (1, 2))) 22 5 #[.int .u8 97] 1 1 (w.heap.size + 1) (by simp) Try.underlying22 Try.underlying5
  go_enter Try.func8, Try.ntmps8
  go_wp2_with fail
  have hb := Joins.below_alloc2 w (.cells #[.int .u8 97] 5 (1, 2)) (.cells #[.int .u8 97] 5 (1, 2))
  have hz : ((w.alloc (.cells #[.int .u8 97] 5 (1, 2))).alloc (.cells #[.int .u8 97] 5 (1, 2))).heap.size = w.heap.size + 2 := by simp
  have l1 : Lies ((w.alloc (.cells #[.int .u8 97] 5 (1, 2))).alloc (.cells #[.int .u8 97] 5 (1, 2))) (w.heap.size + 2) (some ⟨w.heap.size, 0, none⟩) ([97].map vb) :=
    .inr ⟨_, rfl, by simp, fun j u hj => by
      rcases j with _ | j
      · simp at hj; subst hj
        show _ = some (vb 97)
        go_simp
        exact Joins.cell_alloc_mark_at _ _ _ _ _ 0 rfl
      · simp at hj⟩
  have l2 : Lies ((w.alloc (.cells #[.int .u8 97] 5 (1, 2))).alloc (.cells #[.int .u8 97] 5 (1, 2))) (w.heap.size + 2) (some ⟨w.heap.size + 1, 0, none⟩) ([97].map vb) :=
    .inr ⟨_, rfl, by simp, fun j u hj => by
      rcases j with _ | j
      · simp at hj; subst hj
        exact Joins.cell_alloc_mark_at _ _ _ _ _ 0 (by simp)
      · simp at hj⟩
  generalize (w.alloc (.cells #[.int .u8 97] 5 (1, 2))).alloc (.cells #[.int .u8 97] 5 (1, 2)) = W0 at hb hz l1 l2 ⊢
  rw [← hz] at l1 l2
  have ok5 : K.ok ⟨[97], 5, 0⟩ := by unfold K.ok; simp
  have ok7 : K.ok ⟨[97], 7, 0⟩ := by unfold K.ok; simp
  have h := cmp_any (some ⟨w.heap.size, 0, none⟩) (some ⟨w.heap.size + 1, 0, none⟩) 1 1 ⟨[97], 5, 0⟩ ⟨[97], 7, 0⟩ W0 ⟨l1, Nat.le_refl _, by decide, ok5⟩ ⟨l2, Nat.le_refl _, by decide, ok7⟩
  rw [show cmpK ⟨[97], 5, 0⟩ ⟨[97], 7, 0⟩ = 1 by decide] at h
  have HB := Lib.hid hb
  clear hb hz l1 l2 k2 ok5 ok7
  refine (show Calls Try.prog 17 #[.agg #[.slice (some ⟨w.heap.size, 0, none⟩) 1 1, .int .u64 5, .int .i64 0], .agg #[.slice (some ⟨w.heap.size + 1, 0, none⟩) 1 1, .int .u64 7, .int .i64 0]] W0 _ from h).mono ?_
  rintro e W1 ⟨rfl, hb1⟩
  have HB1 := Lib.hid (HB.out.trans (hb1.mono HB.out.size))
  clear hb1 h
  go_wp2_with fail
  have hb2 := Joins.below_alloc1 W1 (.cells #[.int .u8 97] 5 (1, 2))
  refine (right_any _ 1 1 0 0 _).mono ?_
  rintro e W2 ⟨rfl, hb3⟩
  have HB2 := Lib.hid (HB1.out.trans ((hb2.trans (hb3.mono hb2.size)).mono HB1.out.size))
  clear hb2 hb3
  rw [show okB 1 0 0 = true by decide]
  go_wp2_with fail
  go_ret
  exact ⟨rfl, HB2.out⟩
end Go.Proofs.Ythbiphchongmgaa.Ik
