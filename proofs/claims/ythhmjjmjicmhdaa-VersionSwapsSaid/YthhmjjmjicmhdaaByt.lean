/- Bytes in memory: what bytes.Clone answers; bytes as a string. (XLow has the same and more: take one of the two.) -/
import Derived.Test.YthhmjjmjicmhdaaMade
import Derived.Test.YthhmjjmjicmhdaaIkm
import Derived.Laws.BitsAllLaws
import Derived.Laws.BitsLemmas
import Derived.Deep.QuietTactic
import Derived.BigQuiet
import Derived.RowKit3
import Derived.LoopTactic
import Derived.Outline
import Derived.Lib.SliceRun
import Derived.Lib.SmallJoins
import Derived.Lib.BytesEntry
import Derived.Lib.Strings
namespace Go.Proofs.Ythhmjjmjicmhdaa.Ik
set_option linter.unusedVariables false
set_option linter.unusedSimpArgs false
open Go.RowKit Lift
/-- A byte. -/
abbrev vb (c : Nat) : Value := .int .u8 (c : Int)
theorem cells_at {w : World} {ad : Addr} {bs : List Nat} (h : ∀ (j : Nat) (u : Value), (bs.map vb)[j]? = some u → w.cell? (ad.add j) = some u) :
    ∀ (j c : Nat), bs[j]? = some c → w.cell? (ad.add j) = some (.int .u8 (c : Int)) :=
  fun j c hj => h j _ (by rw [List.getElem?_map, hj]; rfl)
theorem str_list (bs : List Nat) : (str bs).data.toList = u8s bs := by
  have h : ∀ (l : List Nat) (r : ByteArray), ((l.map fun b : Nat => (b : Int)).foldl (fun r n => r.push (UInt8.ofNat n.toNat)) r).data.toList = r.data.toList ++ u8s l := by
    intro l
    induction l with
    | nil => intro r; simp [u8s]
    | cons c l ih =>
      intro r
      rw [List.map_cons, List.foldl_cons, ih]
      simp [u8s, ByteArray.push]
  have := h bs ByteArray.empty
  unfold str
  rw [this]
  rfl
theorem str_eq {x y : List Nat} (hx : ∀ a, a ∈ x → a < 256) (hy : ∀ a, a ∈ y → a < 256) : ((str x).toList == (str y).toList) = decide (x = y) := by
  rw [Lib.toList_data, Lib.toList_data, str_list, str_list]
  rw [Bool.eq_iff_iff, beq_iff_eq, decide_eq_true_iff]
  exact u8s_inj hx hy
set_option maxHeartbeats 400000 in
theorem clone_any (ad : Addr) (c : Nat) (xs : List Nat) (w : World) (hl : Lies w w.heap.size (some ad) (xs.map vb)) (hm : xs.length ≤ 140737488354000) :
    Calls Try.prog 81 #[.slice (some ad) xs.length c] w (Made w.heap.size w xs) := by
  have HL := Lib.hid hl
  have q22 : ∀ W : World, Sem.run Try.prog (binOp .eql 29 (.slice (some ad) xs.length c) (.slice none 0 0)) W = .ok (.bool false) W := fun W => Lib.run_eql_slice_nil W _ _ (some ad) xs.length c 0 0 Try.underlying29
  clear hl
  have hb0 := Joins.below_alloc1 w (.cells #[] 5)
  have hown : (w.alloc (.cells #[] 5)).ownsRow w.heap.size 5 1 (.slice (some ⟨w.heap.size, 0, none⟩) 0 0) 0 [] :=
    ⟨rfl, .inr ⟨w.heap.size, 0, #[], rfl, Nat.le_refl _, heap_alloc_new w _, Nat.le_refl _, by decide, rfl, rfl⟩⟩
  obtain ⟨v2, W2, hr2, hown2, hb2, hs2⟩ := run_append_lies (P := Try.prog) (m := xs.length) (c := c) 29 29 5 (.int .u8 0) 1 1 Try.underlying29 (by kernel_rfl) rfl (by decide)
      (fun u hu => by simp at hu; obtain ⟨_, _, rfl⟩ := hu; rfl) hown (HL.out.below hb0) (by simp) (by unfold maxLen; omega) (by omega) hb0.size
  rw [Nat.zero_add, List.nil_append] at hown2
  have HO := Lib.hid hown2
  have HB := Lib.hid (hb0.trans hb2)
  have HR := Lib.hid hr2
  clear hown hown2 hb0 hb2 hr2
  go_enter Try.func81, Try.ntmps81
  go_wp2_with (at_builtin; refine wpList_append_run rfl _ _ 29 rfl rfl rfl HR.out ?_)
  go_ret
  exact ⟨_, rfl, HO.out, HB.out⟩
theorem clone_nil (w : World) : Calls Try.prog 81 #[.slice none 0 0] w fun e w' => e = .returned (.slice none 0 0) ∧ w = w' := by
  have q22 : ∀ W : World, Sem.run Try.prog (binOp .eql 29 (.slice none 0 0) (.slice none 0 0)) W = .ok (.bool true) W := fun W => Lib.run_eql_slice_nil W _ _ none 0 0 0 0 Try.underlying29
  go_enter Try.func81, Try.ntmps81
  go_wp2_with fail
  go_ret
  exact ⟨rfl, rfl⟩
end Go.Proofs.Ythhmjjmjicmhdaa.Ik
