/- What Table of package crc, and the document's own, make: the 256 numbers in a row. -/
import Derived.Test.YtobjiamdljjkjaaStep
import Derived.Laws.CopyOwn
import Derived.Laws.MakeOwn
import Derived.Laws.Rows
import Derived.OwnWalk
namespace Go.Proofs.Ytobjiamdljjkjaa.Crc
set_option linter.unusedVariables false
open Go.RowKit Lift
/-- A number of 32 bits. -/
abbrev vw (c : Nat) : Value := .int .u32 (c : Int)
/-- A slice of the call's own that holds the numbers bs. -/
def Made (B : Nat) (w : World) (bs : List Nat) (e : Ending) (w' : World) : Prop :=
  ∃ v, e = .returned v ∧ w'.ownsRow B 66 1 v bs.length (bs.map vw) ∧ Below B w w'
theorem Made.parts {B : Nat} {w w' : World} {bs : List Nat} {e : Ending} (h : Made B w bs e w') :
    ∃ A c, e = .returned (.slice A bs.length c) ∧ bs.length ≤ c ∧ c ≤ maxLen ∧ Lies w' w'.heap.size A (bs.map vw) ∧ Below B w w' := by
  obtain ⟨v, rfl, ho, hb⟩ := h
  obtain ⟨A, c, rfl, h1, h2, h3⟩ := own_parts ho
  exact ⟨A, c, rfl, h1, h2, h3, hb⟩
theorem tab_take (k : Nat) (hk : k < 256) : tab.take (k + 1) = tab.take k ++ [ent k] := by
  rw [List.take_succ_eq_append_getElem (by rw [tab_length]; omega)]
  have := tab_at k hk
  rw [List.getElem?_eq_getElem (by rw [tab_length]; omega)] at this
  injection this with this
  rw [this]

/-- The block g, of which the first k cells are filled. -/
def Fill (w : World) (g k : Nat) : Prop := ∃ cur : List Value, w.heap[g]? = some (.cells cur.toArray 66 (0, 0)) ∧ cur.length = 256 ∧ cur.take k = (tab.take k).map vw
theorem Fill.next {w : World} {g k : Nat} (h : Fill w g k) (hk : k < 256) : Fill (w.setCell ⟨g, k, none⟩ (vw (ent k))) g (k + 1) := by
  obtain ⟨cur, h1, h2, h3⟩ := h
  refine ⟨cur.set k (vw (ent k)), ?_, by simpa using h2, ?_⟩
  · rw [heap_setCell_same w g k _ _ _ h1]; simp
  · rw [tab_take k hk, List.map_append, ← h3, List.take_succ_eq_append_getElem (by simp; omega)]
    congr 1
    · rw [List.take_set_of_le (by omega)]
    · simp
theorem Fill.cell {w : World} {g k j : Nat} (h : Fill w g k) (hj : j < 256) : ∃ u, w.cell? ⟨g, j, none⟩ = some u := by
  obtain ⟨cur, h1, h2, h3⟩ := h
  exact ⟨cur[j]'(by omega), by simp [World.cell?, h1]⟩
theorem Fill.free {w : World} {g k j : Nat} (h : Fill w g k) : w.frozen? ⟨g, j, none⟩ = false := by
  obtain ⟨cur, h1, _⟩ := h
  exact frozen_of_row w g j _ _ h1
theorem Fill.own {w : World} {B g : Nat} (h : Fill w g 256) (hB : B ≤ g) : w.ownsRow B 66 1 (.slice (some ⟨g, 0, none⟩) 256 256) 256 (tab.map vw) := by
  obtain ⟨cur, h1, h2, h3⟩ := h
  rw [List.take_of_length_le (by omega), List.take_of_length_le (by rw [tab_length]; omega)] at h3
  subst h3
  refine ⟨by rw [List.length_map, tab_length], .inr ⟨g, 256, _, rfl, hB, h1, by omega, by decide, ?_, ?_⟩⟩
  · simp [tab_length]
  · simp only [Nat.mul_one]
    exact List.take_of_length_le (by omega)
set_option maxRecDepth 100000 in
theorem table_any (w : World) : Calls Try.prog 60 #[] w (Made w.heap.size w tab) := by
  have hmk : ∀ W : World, Sem.run Try.prog (Instr.makeSlice 97 (.int .i64 256) (.int .i64 256)) W =
      .ok (.slice (some ⟨W.heap.size, 0, none⟩) 256 256) (W.alloc (.cells (madeCells #[.int .u32 0] 256) 66)) := fun W => by
    obtain ⟨i, hi, hz, hs, hb⟩ := info_parts (P := Try.prog) (e := 66) (z := .int .u32 0) (size := 1) (bytes := 4) (by kernel_rfl)
    have h := run_make (P := Try.prog) W 97 66 i (.int .u32 0) Try.underlying97 hi hz .i64 .i64 256 256 (by omega) (by omega) (by rw [hb]; omega) (by omega)
    rw [hs, Nat.mul_one] at h
    exact h
  have hz : (madeCells #[Value.int .u32 0] 256).toList.length = 256 := by rw [toList_madeCells_one]; simp
  have hf : ∀ W : World, Fill (W.alloc (.cells (madeCells #[.int .u32 0] 256) 66)) W.heap.size 0 := fun W =>
    ⟨(madeCells #[.int .u32 0] 256).toList, by rw [Array.toArray_toList]; exact heap_alloc_new W _, hz, by simp⟩
  have HF := Lib.hid (hf w)
  have HB := Lib.hid ((Below.refl w.heap.size w).alloc (Nat.le_refl _) (.cells (madeCells #[.int .u32 0] 256) 66))
  have hm := hmk w
  clear hf hz hmk
  go_enter Try.func60, Try.ntmps60
  go_wp2_with fail
  go_loopw [6] (fun i wr => ∃ k : Nat, i = .int .i64 k ∧ k ≤ 256 ∧ Hid (Fill wr w.heap.size k) ∧ Hid (Below w.heap.size w wr)) (fun i _ => 300 - (intOf i).toNat)
  case atStart => exact ⟨0, rfl, by omega, HF, HB⟩
  case round =>
    obtain ⟨k, rfl, hk, hf, hb⟩ := hrel
    by_cases hlt : k < 256
    · obtain ⟨u, hu⟩ := hf.out.cell hlt
      have hfr := hf.out.free (j := k)
      go_wp2_with (refine (entry_any k _ (by omega)).mono ?_; rintro e w' ⟨rfl, rfl⟩)
      go_roundw
      case rel => exact ⟨k + 1, by go_num, by omega, Lib.hid (hf.out.next hlt), Lib.hid (hb.out.setCell (Nat.le_refl _) _)⟩
      case measure => simp [intOf]; omega
    · have h256 : k = 256 := by omega
      have H256 := Lib.hid h256
      clear h256
      go_wp2_with fail
      go_ret
      have h := hf.out
      rw [H256.out] at h
      exact ⟨_, rfl, by rw [tab_length]; exact h.own (Nat.le_refl _), hb.out⟩

end Go.Proofs.Ytobjiamdljjkjaa.Crc
