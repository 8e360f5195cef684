/- bytes.Clone (base/XByt's, behind ikey/XKcmp, which has the rest of it). -/
import Derived.Test.YtobjiamdljjkjaaMade
import Derived.Test.YtobjiamdljjkjaaKright
import Derived.Lib.SliceRun
namespace Go.Proofs.Ytobjiamdljjkjaa.Ik
set_option linter.unusedVariables false
set_option linter.unusedSimpArgs false
open Go.RowKit Lift
set_option maxHeartbeats 400000 in
theorem clone_any (ad : Addr) (c : Nat) (xs : List Nat) (w : World) (hl : Lies w w.heap.size (some ad) (xs.map vb)) (hm : xs.length ≤ 140737488354000) :
    Calls Try.prog 119 #[.slice (some ad) xs.length c] w (Made w.heap.size w xs) := by
  have HL := Lib.hid hl
  have q22 : ∀ W : World, Sem.run Try.prog (binOp .eql 25 (.slice (some ad) xs.length c) (.slice none 0 0)) W = .ok (.bool false) W := fun W => Lib.run_eql_slice_nil W _ _ (some ad) xs.length c 0 0 Try.underlying25
  clear hl
  have hb0 := Joins.below_alloc1 w (.cells #[] 5)
  have hown : (w.alloc (.cells #[] 5)).ownsRow w.heap.size 5 1 (.slice (some ⟨w.heap.size, 0, none⟩) 0 0) 0 [] :=
    ⟨rfl, .inr ⟨w.heap.size, 0, #[], rfl, Nat.le_refl _, heap_alloc_new w _, Nat.le_refl _, by decide, rfl, rfl⟩⟩
  obtain ⟨v2, W2, hr2, hown2, hb2, hs2⟩ := run_append_lies (P := Try.prog) (m := xs.length) (c := c) 25 25 5 (.int .u8 0) 1 1 Try.underlying25 (by kernel_rfl) rfl (by decide)
      (fun u hu => by simp at hu; obtain ⟨_, _, rfl⟩ := hu; rfl) hown (HL.out.below hb0) (by simp) (by unfold maxLen; omega) (by omega) hb0.size
  rw [Nat.zero_add, List.nil_append] at hown2
  have HO := Lib.hid hown2
  have HB := Lib.hid (hb0.trans hb2)
  have HR := Lib.hid hr2
  clear hown hown2 hb0 hb2 hr2
  go_enter Try.func119, Try.ntmps119
  go_wp2_with (at_builtin; refine wpList_append_run rfl _ _ 25 rfl rfl rfl HR.out ?_)
  go_ret
  exact ⟨_, rfl, HO.out, HB.out⟩
theorem clone_nil (w : World) : Calls Try.prog 119 #[.slice none 0 0] w fun e w' => e = .returned (.slice none 0 0) ∧ w = w' := by
  have q22 : ∀ W : World, Sem.run Try.prog (binOp .eql 25 (.slice none 0 0) (.slice none 0 0)) W = .ok (.bool true) W := fun W => Lib.run_eql_slice_nil W _ _ none 0 0 0 0 Try.underlying25
  go_enter Try.func119, Try.ntmps119
  go_wp2_with fail
  go_ret
  exact ⟨rfl, rfl⟩
end Go.Proofs.Ytobjiamdljjkjaa.Ik
