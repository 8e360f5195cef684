/- What the laws on package batch share: the example of the document. -/
import Derived.Test.YtggliedlfccicaaBcheck
import Derived.Lib.SlBytesConst
namespace Go.Proofs.Ytggliedlfccicaa.Bt
set_option linter.unusedVariables false
set_option linter.unusedSimpArgs false
open Go.RowKit Lift Ik

theorem num_any (n : Int) (w : World) : Calls Try.prog 12 #[.int .i64 n] w fun e w' => e = .returned (.int .i64 n) ∧ w = w' := by
  go_enter Try.func12, Try.ntmps12
  go_wp2
  go_ret
  exact ⟨rfl, rfl⟩

/-- true, and all old memory as it was. -/
def Yes (w : World) (e : Ending) (w' : World) : Prop := e = .returned (.bool true) ∧ Below w.heap.size w w'

set_option maxRecDepth 100000 in
set_option maxHeartbeats 400000 in
theorem alive_any (w : World) : Calls Try.prog 8 #[] w (Yes w) := by
  have kc := fun (W : World) (C : Array Value) (n c : Nat) => Lib.run_convert_bytes_const (P := Try.prog) W 28 5 C n c Try.underlying28 Try.underlying5
  have k2 := Joins.run_convert_bytes_const_at (P := Try.prog) (w.alloc (.cells #[.int .u8 97] 5 (1, 2))) 28 5 #[.int .u8 98, .int .u8 99] 2 2 (w.heap.size + 1) (by simp) Try.underlying28 Try.underlying5
  go_enter Try.func8, Try.ntmps8
  go_wp2_with fail
  have hb := Joins.below_alloc3 w (.cells #[.int .u8 97] 5 (1, 2)) (.cells #[.int .u8 98, .int .u8 99] 5 (2, 3)) (.cells #[.int .i64 1, .slice (some ⟨w.heap.size, 0, none⟩) 1 1, .slice (some ⟨w.heap.size + 1, 0, none⟩) 2 2] 46)
  obtain ⟨e1, e2, e3, hz⟩ := heap_alloc3 w (.cells #[.int .u8 97] 5 (1, 2)) (.cells #[.int .u8 98, .int .u8 99] 5 (2, 3)) (.cells #[.int .i64 1, .slice (some ⟨w.heap.size, 0, none⟩) 1 1, .slice (some ⟨w.heap.size + 1, 0, none⟩) 2 2] 46)
  generalize ((w.alloc (.cells #[.int .u8 97] 5 (1, 2))).alloc (.cells #[.int .u8 98, .int .u8 99] 5 (2, 3))).alloc (.cells #[.int .i64 1, .slice (some ⟨w.heap.size, 0, none⟩) 1 1, .slice (some ⟨w.heap.size + 1, 0, none⟩) 2 2] 46) = W0 at hb e1 e2 e3 hz ⊢
  have hO : Ops W0 W0.heap.size (some ⟨w.heap.size + 1 + 1, 0, none⟩) 1 [⟨1, some ⟨w.heap.size, 0, none⟩, 1, [97], some ⟨w.heap.size + 1, 0, none⟩, 2, [98, 99]⟩] := by
    refine ⟨lies_block e3 (by omega), Nat.le_refl _, by decide, fun d hd => ?_⟩
    simp at hd
    subst hd
    exact ⟨(lies_block e1 (show w.heap.size < W0.heap.size by omega)).p fun _ h => h, Nat.le_refl _, (show 1 ≤ maxLen by decide), by simp, (lies_block e2 (show w.heap.size + 1 < W0.heap.size by omega)).p fun _ h => h, Nat.le_refl _, (show 2 ≤ maxLen by decide), by simp, by simp, by simp⟩
  have hs := size_any _ 1 _ W0 hO (by simp) (by simp)
  rw [show sizeD [⟨1, some ⟨w.heap.size, 0, none⟩, 1, [97], some ⟨w.heap.size + 1, 0, none⟩, 2, [98, 99]⟩] = 19 from rfl] at hs
  have HS := Lib.hid hs
  have HB := Lib.hid hb
  have HC := Lib.hid fun W => check_any none 0 [] W (Ops.zero _ _)
  clear hs hb e1 e2 e3 hz hO k2 kc
  refine (show Calls Try.prog 15 #[.slice (some ⟨w.heap.size + 1 + 1, 0, none⟩) 1 1] W0 _ from HS.out).mono ?_
  rintro e W1 ⟨rfl, hb1⟩
  have HB1 := Lib.hid (HB.out.trans (hb1.mono HB.out.size))
  clear hb1 HS
  go_wp2_with fail
  refine (show Calls Try.prog 13 #[.slice none 0 0] W1 _ from HC.out W1).mono ?_
  rintro e W2 ⟨rfl, hb2⟩
  have HB2 := Lib.hid (HB1.out.trans (hb2.mono HB1.out.size))
  clear hb2 HC
  rw [show chk [] = 3 from rfl]
  go_wp2_with (go_at_call 12; refine (num_any _ _).mono ?_; rintro e w' ⟨rfl, rfl⟩)
  go_ret
  exact ⟨rfl, HB2.out⟩
end Go.Proofs.Ytggliedlfccicaa.Bt
