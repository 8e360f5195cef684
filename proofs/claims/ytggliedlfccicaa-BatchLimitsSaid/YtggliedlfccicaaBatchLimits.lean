/- Proved: for any two numbers, BatchLimits of butterylaw5 answers true (Check accepts exactly up to the limits of the number of operations and of the lengths of keys and values, and only the two kinds of operations), and its arguments read as before. Conditions: none beyond what the given row states. -/
import Derived.Test.YtggliedlfccicaaBlaw5
namespace Go.Proofs.Ytggliedlfccicaa.batchLimits
set_option linter.unusedVariables false
set_option linter.unusedSimpArgs false
open Go.ChangeShapes Go.WideShapes Go.ChangeAt Go.RowKit Lift Bt Ik

theorem own : ownKnob Try.prog.godebug = none := by kernel_rfl


theorem make_full (n : Nat) (h : n ≤ 140737488355328) (W : World) : Sem.run Try.prog (Instr.makeSlice 28 (.int .i64 (n : Int)) (.int .i64 (n : Int))) W =
      .ok (.slice (some ⟨W.heap.size, 0, none⟩) n n) (W.alloc (.cells (zeros n) 5)) := by
  have := make_bytes n 0 (by omega) W
  simpa using this
theorem zeros_list (n : Nat) : (zeros n).toList = (List.replicate n 0).map vb := by
  rw [show zeros n = madeCells #[.int .u8 0] n from rfl, toList_madeCells_one, List.map_replicate]; rfl
theorem zero_byte (n : Nat) : ∀ c, c ∈ List.replicate n 0 → c < 256 := by intro c h; rw [List.mem_replicate] at h; omega

theorem heap_alloc4 (w : World) (o1 o2 o3 o4 : Obj) : ((((w.alloc o1).alloc o2).alloc o3).alloc o4).heap[w.heap.size]? = some o1 ∧ ((((w.alloc o1).alloc o2).alloc o3).alloc o4).heap[w.heap.size + 1 + 1]? = some o3 ∧
    ((((w.alloc o1).alloc o2).alloc o3).alloc o4).heap[w.heap.size + 1 + 1 + 1]? = some o4 ∧ ((((w.alloc o1).alloc o2).alloc o3).alloc o4).heap.size = w.heap.size + 4 := by
  obtain ⟨h1, h2, h3, h4⟩ := heap_alloc3 w o1 o2 o3
  refine ⟨?_, ?_, ?_, by simp⟩
  · rw [Below.heap_alloc _ _ _ (by omega)]; exact h1
  · rw [Below.heap_alloc _ _ _ (by omega)]; exact h3
  · rw [show w.heap.size + 1 + 1 + 1 = (((w.alloc o1).alloc o2).alloc o3).heap.size by omega]; exact heap_alloc_new _ o4
theorem zeros_some (n : Nat) : ∃ K : List Nat, K.length = n ∧ (zeros n).toList = K.map vb ∧ ∀ c, c ∈ K → c < 256 := ⟨List.replicate n 0, List.length_replicate, zeros_list n, zero_byte n⟩
theorem nil_ok (w : World) (R : Nat → Prop) : LiesP w R none (([] : List Nat).map vb) := .inl rfl

theorem walk_out (a b : Int) (w : World) (ba : -9223372036854775808 ≤ a ∧ a ≤ 9223372036854775807) (bb : -9223372036854775808 ≤ b ∧ b ≤ 9223372036854775807) (h : ¬ (0 ≤ a ∧ a ≤ 3 ∧ -1 ≤ b ∧ b ≤ 1)) : Calls Try.prog 6 #[.int .i64 a, .int .i64 b] w (Yes w) := by
  by_cases h1 : a < 0
  · clear h
    go_enter Try.func6, Try.ntmps6
    go_wp2_with fail
    refine (alive_any _).mono ?_; rintro e W1 ⟨rfl, hb1⟩
    have HB1 := Lib.hid hb1
    clear hb1
    go_wp2_with fail
    go_ret
    exact ⟨rfl, HB1.out⟩
  · have d1 : decide (a < 0) = false := by simp; omega
    by_cases h2 : 3 < a
    · clear h h1
      go_enter Try.func6, Try.ntmps6
      go_wp2_with fail
      refine (alive_any _).mono ?_; rintro e W1 ⟨rfl, hb1⟩
      have HB1 := Lib.hid hb1
      clear hb1
      go_wp2_with fail
      go_ret
      exact ⟨rfl, HB1.out⟩
    · have d2 : decide (3 < a) = false := by simp; omega
      by_cases h3 : b < -1
      · clear h h1 h2
        go_enter Try.func6, Try.ntmps6
        go_wp2_with fail
        refine (alive_any _).mono ?_; rintro e W1 ⟨rfl, hb1⟩
        have HB1 := Lib.hid hb1
        clear hb1
        go_wp2_with fail
        go_ret
        exact ⟨rfl, HB1.out⟩
      · have d3 : decide (b < -1) = false := by simp; omega
        have h4 : 1 < b := by omega
        clear h h1 h2 h3
        go_enter Try.func6, Try.ntmps6
        go_wp2_with fail
        refine (alive_any _).mono ?_; rintro e W1 ⟨rfl, hb1⟩
        have HB1 := Lib.hid hb1
        clear hb1
        go_wp2_with fail
        go_ret
        exact ⟨rfl, HB1.out⟩

set_option maxHeartbeats 400000 in
theorem walk_1_0 (w : World) : Calls Try.prog 6 #[.int .i64 1, .int .i64 (-1)] w (Yes w) := by
  have hmk : ∀ W : World, Sem.run Try.prog (Instr.makeSlice 28 (.int .i64 255) (.int .i64 255)) W = .ok (.slice (some ⟨W.heap.size, 0, none⟩) 255 255) (W.alloc (.cells (zeros 255) 5)) := fun W => make_full 255 (by decide) W
  have kc := fun (W : World) (C : Array Value) (n c : Nat) => Lib.run_convert_bytes_const (P := Try.prog) W 28 5 C n c Try.underlying28 Try.underlying5
  go_enter Try.func6, Try.ntmps6
  go_wp2_with fail
  refine (alive_any _).mono ?_; rintro e W1 ⟨rfl, hb1⟩
  have HB1 := Lib.hid hb1
  clear hb1
  go_wp2_with fail
  have hb := (Joins.below_alloc3 W1 (.cells #[.int .u8 97] 5 (1, 2)) (.cells #[.int .i64 1, .slice (some ⟨W1.heap.size, 0, none⟩) 1 1, .slice none 0 0] 46) (.cells #[.int .i64 1, .slice (some ⟨W1.heap.size + 1 + 1 + 1, 0, none⟩) 255 255, .slice none 0 0] 46)).alloc (by simp; omega) (.cells (zeros 255) 5)
  obtain ⟨e1, e3, e4, hz⟩ := heap_alloc4 W1 (.cells #[.int .u8 97] 5 (1, 2)) (.cells #[.int .i64 1, .slice (some ⟨W1.heap.size, 0, none⟩) 1 1, .slice none 0 0] 46) (.cells #[.int .i64 1, .slice (some ⟨W1.heap.size + 1 + 1 + 1, 0, none⟩) 255 255, .slice none 0 0] 46) (.cells (zeros 255) 5)
  generalize (((W1.alloc (.cells #[.int .u8 97] 5 (1, 2))).alloc (.cells #[.int .i64 1, .slice (some ⟨W1.heap.size, 0, none⟩) 1 1, .slice none 0 0] 46)).alloc (.cells #[.int .i64 1, .slice (some ⟨W1.heap.size + 1 + 1 + 1, 0, none⟩) 255 255, .slice none 0 0] 46)).alloc (.cells (zeros 255) 5) = W0 at hb e1 e3 e4 hz ⊢
  obtain ⟨K, hlen, hK, h8⟩ := zeros_some 255
  have hcl : cellsL [⟨1, some ⟨W1.heap.size + 1 + 1 + 1, 0, none⟩, 255, K, none, 0, []⟩] = (#[.int .i64 1, .slice (some ⟨W1.heap.size + 1 + 1 + 1, 0, none⟩) 255 255, .slice none 0 0] : Array Value).toList := by simp [cellsL, D.cells, hlen]
  have hO : Ops W0 W0.heap.size (some ⟨W1.heap.size + 1 + 1, 0, none⟩) 1 [⟨1, some ⟨W1.heap.size + 1 + 1 + 1, 0, none⟩, 255, K, none, 0, []⟩] := by
    refine ⟨by rw [hcl]; exact lies_block e3 (by omega), Nat.le_refl _, by decide, fun d hd => ?_⟩
    simp at hd
    subst hd
    exact ⟨(by show LiesP W0 _ _ (K.map vb); rw [← hK]; exact (lies_block e4 (show W1.heap.size + 1 + 1 + 1 < W0.heap.size by omega)).p fun _ h => h), (show K.length ≤ 255 by rw [hlen]; exact Nat.le_refl _), (show 255 ≤ maxLen by decide), h8, nil_ok _ _, Nat.le_refl _, (show 0 ≤ maxLen by decide), by simp, by simp, by simp⟩
  have hc := check_any _ 1 _ W0 hO
  rw [show chk [⟨1, some ⟨W1.heap.size + 1 + 1 + 1, 0, none⟩, 255, K, none, 0, []⟩] = 0 by simp [chk, okD, okO, hlen]] at hc
  have HC := Lib.hid hc
  have HB := Lib.hid (HB1.out.trans (hb.mono HB1.out.size))
  clear hc hb e1 e3 e4 hmk hlen hK h8 hz hO kc hcl
  refine (show Calls Try.prog 13 #[.slice (some ⟨W1.heap.size + 1 + 1, 0, none⟩) 1 1] W0 _ from HC.out).mono ?_
  rintro e W2 ⟨rfl, hb2⟩
  have HB2 := Lib.hid (HB.out.trans (hb2.mono HB.out.size))
  clear hb2 HC
  go_wp2_with (go_at_call 12; refine (num_any _ _).mono ?_; rintro e w' ⟨rfl, rfl⟩)
  go_ret
  exact ⟨rfl, HB2.out⟩

set_option maxHeartbeats 400000 in
theorem walk_1_1 (w : World) : Calls Try.prog 6 #[.int .i64 1, .int .i64 (0)] w (Yes w) := by
  have hmk : ∀ W : World, Sem.run Try.prog (Instr.makeSlice 28 (.int .i64 256) (.int .i64 256)) W = .ok (.slice (some ⟨W.heap.size, 0, none⟩) 256 256) (W.alloc (.cells (zeros 256) 5)) := fun W => make_full 256 (by decide) W
  have kc := fun (W : World) (C : Array Value) (n c : Nat) => Lib.run_convert_bytes_const (P := Try.prog) W 28 5 C n c Try.underlying28 Try.underlying5
  go_enter Try.func6, Try.ntmps6
  go_wp2_with fail
  refine (alive_any _).mono ?_; rintro e W1 ⟨rfl, hb1⟩
  have HB1 := Lib.hid hb1
  clear hb1
  go_wp2_with fail
  have hb := (Joins.below_alloc3 W1 (.cells #[.int .u8 97] 5 (1, 2)) (.cells #[.int .i64 1, .slice (some ⟨W1.heap.size, 0, none⟩) 1 1, .slice none 0 0] 46) (.cells #[.int .i64 1, .slice (some ⟨W1.heap.size + 1 + 1 + 1, 0, none⟩) 256 256, .slice none 0 0] 46)).alloc (by simp; omega) (.cells (zeros 256) 5)
  obtain ⟨e1, e3, e4, hz⟩ := heap_alloc4 W1 (.cells #[.int .u8 97] 5 (1, 2)) (.cells #[.int .i64 1, .slice (some ⟨W1.heap.size, 0, none⟩) 1 1, .slice none 0 0] 46) (.cells #[.int .i64 1, .slice (some ⟨W1.heap.size + 1 + 1 + 1, 0, none⟩) 256 256, .slice none 0 0] 46) (.cells (zeros 256) 5)
  generalize (((W1.alloc (.cells #[.int .u8 97] 5 (1, 2))).alloc (.cells #[.int .i64 1, .slice (some ⟨W1.heap.size, 0, none⟩) 1 1, .slice none 0 0] 46)).alloc (.cells #[.int .i64 1, .slice (some ⟨W1.heap.size + 1 + 1 + 1, 0, none⟩) 256 256, .slice none 0 0] 46)).alloc (.cells (zeros 256) 5) = W0 at hb e1 e3 e4 hz ⊢
  obtain ⟨K, hlen, hK, h8⟩ := zeros_some 256
  have hcl : cellsL [⟨1, some ⟨W1.heap.size + 1 + 1 + 1, 0, none⟩, 256, K, none, 0, []⟩] = (#[.int .i64 1, .slice (some ⟨W1.heap.size + 1 + 1 + 1, 0, none⟩) 256 256, .slice none 0 0] : Array Value).toList := by simp [cellsL, D.cells, hlen]
  have hO : Ops W0 W0.heap.size (some ⟨W1.heap.size + 1 + 1, 0, none⟩) 1 [⟨1, some ⟨W1.heap.size + 1 + 1 + 1, 0, none⟩, 256, K, none, 0, []⟩] := by
    refine ⟨by rw [hcl]; exact lies_block e3 (by omega), Nat.le_refl _, by decide, fun d hd => ?_⟩
    simp at hd
    subst hd
    exact ⟨(by show LiesP W0 _ _ (K.map vb); rw [← hK]; exact (lies_block e4 (show W1.heap.size + 1 + 1 + 1 < W0.heap.size by omega)).p fun _ h => h), (show K.length ≤ 256 by rw [hlen]; exact Nat.le_refl _), (show 256 ≤ maxLen by decide), h8, nil_ok _ _, Nat.le_refl _, (show 0 ≤ maxLen by decide), by simp, by simp, by simp⟩
  have hc := check_any _ 1 _ W0 hO
  rw [show chk [⟨1, some ⟨W1.heap.size + 1 + 1 + 1, 0, none⟩, 256, K, none, 0, []⟩] = 0 by simp [chk, okD, okO, hlen]] at hc
  have HC := Lib.hid hc
  have HB := Lib.hid (HB1.out.trans (hb.mono HB1.out.size))
  clear hc hb e1 e3 e4 hmk hlen hK h8 hz hO kc hcl
  refine (show Calls Try.prog 13 #[.slice (some ⟨W1.heap.size + 1 + 1, 0, none⟩) 1 1] W0 _ from HC.out).mono ?_
  rintro e W2 ⟨rfl, hb2⟩
  have HB2 := Lib.hid (HB.out.trans (hb2.mono HB.out.size))
  clear hb2 HC
  go_wp2_with (go_at_call 12; refine (num_any _ _).mono ?_; rintro e w' ⟨rfl, rfl⟩)
  go_ret
  exact ⟨rfl, HB2.out⟩

set_option maxHeartbeats 400000 in
theorem walk_1_2 (w : World) : Calls Try.prog 6 #[.int .i64 1, .int .i64 (1)] w (Yes w) := by
  have hmk : ∀ W : World, Sem.run Try.prog (Instr.makeSlice 28 (.int .i64 257) (.int .i64 257)) W = .ok (.slice (some ⟨W.heap.size, 0, none⟩) 257 257) (W.alloc (.cells (zeros 257) 5)) := fun W => make_full 257 (by decide) W
  have kc := fun (W : World) (C : Array Value) (n c : Nat) => Lib.run_convert_bytes_const (P := Try.prog) W 28 5 C n c Try.underlying28 Try.underlying5
  go_enter Try.func6, Try.ntmps6
  go_wp2_with fail
  refine (alive_any _).mono ?_; rintro e W1 ⟨rfl, hb1⟩
  have HB1 := Lib.hid hb1
  clear hb1
  go_wp2_with fail
  have hb := (Joins.below_alloc3 W1 (.cells #[.int .u8 97] 5 (1, 2)) (.cells #[.int .i64 1, .slice (some ⟨W1.heap.size, 0, none⟩) 1 1, .slice none 0 0] 46) (.cells #[.int .i64 1, .slice (some ⟨W1.heap.size + 1 + 1 + 1, 0, none⟩) 257 257, .slice none 0 0] 46)).alloc (by simp; omega) (.cells (zeros 257) 5)
  obtain ⟨e1, e3, e4, hz⟩ := heap_alloc4 W1 (.cells #[.int .u8 97] 5 (1, 2)) (.cells #[.int .i64 1, .slice (some ⟨W1.heap.size, 0, none⟩) 1 1, .slice none 0 0] 46) (.cells #[.int .i64 1, .slice (some ⟨W1.heap.size + 1 + 1 + 1, 0, none⟩) 257 257, .slice none 0 0] 46) (.cells (zeros 257) 5)
  generalize (((W1.alloc (.cells #[.int .u8 97] 5 (1, 2))).alloc (.cells #[.int .i64 1, .slice (some ⟨W1.heap.size, 0, none⟩) 1 1, .slice none 0 0] 46)).alloc (.cells #[.int .i64 1, .slice (some ⟨W1.heap.size + 1 + 1 + 1, 0, none⟩) 257 257, .slice none 0 0] 46)).alloc (.cells (zeros 257) 5) = W0 at hb e1 e3 e4 hz ⊢
  obtain ⟨K, hlen, hK, h8⟩ := zeros_some 257
  have hcl : cellsL [⟨1, some ⟨W1.heap.size + 1 + 1 + 1, 0, none⟩, 257, K, none, 0, []⟩] = (#[.int .i64 1, .slice (some ⟨W1.heap.size + 1 + 1 + 1, 0, none⟩) 257 257, .slice none 0 0] : Array Value).toList := by simp [cellsL, D.cells, hlen]
  have hO : Ops W0 W0.heap.size (some ⟨W1.heap.size + 1 + 1, 0, none⟩) 1 [⟨1, some ⟨W1.heap.size + 1 + 1 + 1, 0, none⟩, 257, K, none, 0, []⟩] := by
    refine ⟨by rw [hcl]; exact lies_block e3 (by omega), Nat.le_refl _, by decide, fun d hd => ?_⟩
    simp at hd
    subst hd
    exact ⟨(by show LiesP W0 _ _ (K.map vb); rw [← hK]; exact (lies_block e4 (show W1.heap.size + 1 + 1 + 1 < W0.heap.size by omega)).p fun _ h => h), (show K.length ≤ 257 by rw [hlen]; exact Nat.le_refl _), (show 257 ≤ maxLen by decide), h8, nil_ok _ _, Nat.le_refl _, (show 0 ≤ maxLen by decide), by simp, by simp, by simp⟩
  have hc := check_any _ 1 _ W0 hO
  rw [show chk [⟨1, some ⟨W1.heap.size + 1 + 1 + 1, 0, none⟩, 257, K, none, 0, []⟩] = 1 by simp [chk, okD, okO, hlen]] at hc
  have HC := Lib.hid hc
  have HB := Lib.hid (HB1.out.trans (hb.mono HB1.out.size))
  clear hc hb e1 e3 e4 hmk hlen hK h8 hz hO kc hcl
  refine (show Calls Try.prog 13 #[.slice (some ⟨W1.heap.size + 1 + 1, 0, none⟩) 1 1] W0 _ from HC.out).mono ?_
  rintro e W2 ⟨rfl, hb2⟩
  have HB2 := Lib.hid (HB.out.trans (hb2.mono HB.out.size))
  clear hb2 HC
  go_wp2_with (go_at_call 12; refine (num_any _ _).mono ?_; rintro e w' ⟨rfl, rfl⟩)
  go_ret
  exact ⟨rfl, HB2.out⟩

set_option maxHeartbeats 400000 in
theorem walk_2_0 (w : World) : Calls Try.prog 6 #[.int .i64 2, .int .i64 (-1)] w (Yes w) := by
  have hmk : ∀ W : World, Sem.run Try.prog (Instr.makeSlice 28 (.int .i64 4095) (.int .i64 4095)) W = .ok (.slice (some ⟨W.heap.size, 0, none⟩) 4095 4095) (W.alloc (.cells (zeros 4095) 5)) := fun W => make_full 4095 (by decide) W
  have kc := fun (W : World) (C : Array Value) (n c : Nat) => Lib.run_convert_bytes_const (P := Try.prog) W 28 5 C n c Try.underlying28 Try.underlying5
  go_enter Try.func6, Try.ntmps6
  go_wp2_with fail
  refine (alive_any _).mono ?_; rintro e W1 ⟨rfl, hb1⟩
  have HB1 := Lib.hid hb1
  clear hb1
  go_wp2_with fail
  have hb := (Joins.below_alloc3 W1 (.cells #[.int .u8 97] 5 (1, 2)) (.cells #[.int .i64 1, .slice (some ⟨W1.heap.size, 0, none⟩) 1 1, .slice none 0 0] 46) (.cells #[.int .i64 1, .slice (some ⟨W1.heap.size, 0, none⟩) 1 1, .slice (some ⟨W1.heap.size + 1 + 1 + 1, 0, none⟩) 4095 4095] 46)).alloc (by simp; omega) (.cells (zeros 4095) 5)
  obtain ⟨e1, e3, e4, hz⟩ := heap_alloc4 W1 (.cells #[.int .u8 97] 5 (1, 2)) (.cells #[.int .i64 1, .slice (some ⟨W1.heap.size, 0, none⟩) 1 1, .slice none 0 0] 46) (.cells #[.int .i64 1, .slice (some ⟨W1.heap.size, 0, none⟩) 1 1, .slice (some ⟨W1.heap.size + 1 + 1 + 1, 0, none⟩) 4095 4095] 46) (.cells (zeros 4095) 5)
  generalize (((W1.alloc (.cells #[.int .u8 97] 5 (1, 2))).alloc (.cells #[.int .i64 1, .slice (some ⟨W1.heap.size, 0, none⟩) 1 1, .slice none 0 0] 46)).alloc (.cells #[.int .i64 1, .slice (some ⟨W1.heap.size, 0, none⟩) 1 1, .slice (some ⟨W1.heap.size + 1 + 1 + 1, 0, none⟩) 4095 4095] 46)).alloc (.cells (zeros 4095) 5) = W0 at hb e1 e3 e4 hz ⊢
  obtain ⟨K, hlen, hK, h8⟩ := zeros_some 4095
  have hcl : cellsL [⟨1, some ⟨W1.heap.size, 0, none⟩, 1, [97], some ⟨W1.heap.size + 1 + 1 + 1, 0, none⟩, 4095, K⟩] = (#[.int .i64 1, .slice (some ⟨W1.heap.size, 0, none⟩) 1 1, .slice (some ⟨W1.heap.size + 1 + 1 + 1, 0, none⟩) 4095 4095] : Array Value).toList := by simp [cellsL, D.cells, hlen]
  have hO : Ops W0 W0.heap.size (some ⟨W1.heap.size + 1 + 1, 0, none⟩) 1 [⟨1, some ⟨W1.heap.size, 0, none⟩, 1, [97], some ⟨W1.heap.size + 1 + 1 + 1, 0, none⟩, 4095, K⟩] := by
    refine ⟨by rw [hcl]; exact lies_block e3 (by omega), Nat.le_refl _, by decide, fun d hd => ?_⟩
    simp at hd
    subst hd
    exact ⟨(lies_block e1 (show W1.heap.size < W0.heap.size by omega)).p fun _ h => h, Nat.le_refl _, (show 1 ≤ maxLen by decide), by simp, (by show LiesP W0 _ _ (K.map vb); rw [← hK]; exact (lies_block e4 (show W1.heap.size + 1 + 1 + 1 < W0.heap.size by omega)).p fun _ h => h), (show K.length ≤ 4095 by rw [hlen]; exact Nat.le_refl _), (show 4095 ≤ maxLen by decide), h8, by simp, by simp⟩
  have hc := check_any _ 1 _ W0 hO
  rw [show chk [⟨1, some ⟨W1.heap.size, 0, none⟩, 1, [97], some ⟨W1.heap.size + 1 + 1 + 1, 0, none⟩, 4095, K⟩] = 0 by simp [chk, okD, okO, hlen]] at hc
  have HC := Lib.hid hc
  have HB := Lib.hid (HB1.out.trans (hb.mono HB1.out.size))
  clear hc hb e1 e3 e4 hmk hlen hK h8 hz hO kc hcl
  refine (show Calls Try.prog 13 #[.slice (some ⟨W1.heap.size + 1 + 1, 0, none⟩) 1 1] W0 _ from HC.out).mono ?_
  rintro e W2 ⟨rfl, hb2⟩
  have HB2 := Lib.hid (HB.out.trans (hb2.mono HB.out.size))
  clear hb2 HC
  go_wp2_with (go_at_call 12; refine (num_any _ _).mono ?_; rintro e w' ⟨rfl, rfl⟩)
  go_ret
  exact ⟨rfl, HB2.out⟩

set_option maxHeartbeats 400000 in
theorem walk_2_1 (w : World) : Calls Try.prog 6 #[.int .i64 2, .int .i64 (0)] w (Yes w) := by
  have hmk : ∀ W : World, Sem.run Try.prog (Instr.makeSlice 28 (.int .i64 4096) (.int .i64 4096)) W = .ok (.slice (some ⟨W.heap.size, 0, none⟩) 4096 4096) (W.alloc (.cells (zeros 4096) 5)) := fun W => make_full 4096 (by decide) W
  have kc := fun (W : World) (C : Array Value) (n c : Nat) => Lib.run_convert_bytes_const (P := Try.prog) W 28 5 C n c Try.underlying28 Try.underlying5
  go_enter Try.func6, Try.ntmps6
  go_wp2_with fail
  refine (alive_any _).mono ?_; rintro e W1 ⟨rfl, hb1⟩
  have HB1 := Lib.hid hb1
  clear hb1
  go_wp2_with fail
  have hb := (Joins.below_alloc3 W1 (.cells #[.int .u8 97] 5 (1, 2)) (.cells #[.int .i64 1, .slice (some ⟨W1.heap.size, 0, none⟩) 1 1, .slice none 0 0] 46) (.cells #[.int .i64 1, .slice (some ⟨W1.heap.size, 0, none⟩) 1 1, .slice (some ⟨W1.heap.size + 1 + 1 + 1, 0, none⟩) 4096 4096] 46)).alloc (by simp; omega) (.cells (zeros 4096) 5)
  obtain ⟨e1, e3, e4, hz⟩ := heap_alloc4 W1 (.cells #[.int .u8 97] 5 (1, 2)) (.cells #[.int .i64 1, .slice (some ⟨W1.heap.size, 0, none⟩) 1 1, .slice none 0 0] 46) (.cells #[.int .i64 1, .slice (some ⟨W1.heap.size, 0, none⟩) 1 1, .slice (some ⟨W1.heap.size + 1 + 1 + 1, 0, none⟩) 4096 4096] 46) (.cells (zeros 4096) 5)
  generalize (((W1.alloc (.cells #[.int .u8 97] 5 (1, 2))).alloc (.cells #[.int .i64 1, .slice (some ⟨W1.heap.size, 0, none⟩) 1 1, .slice none 0 0] 46)).alloc (.cells #[.int .i64 1, .slice (some ⟨W1.heap.size, 0, none⟩) 1 1, .slice (some ⟨W1.heap.size + 1 + 1 + 1, 0, none⟩) 4096 4096] 46)).alloc (.cells (zeros 4096) 5) = W0 at hb e1 e3 e4 hz ⊢
  obtain ⟨K, hlen, hK, h8⟩ := zeros_some 4096
  have hcl : cellsL [⟨1, some ⟨W1.heap.size, 0, none⟩, 1, [97], some ⟨W1.heap.size + 1 + 1 + 1, 0, none⟩, 4096, K⟩] = (#[.int .i64 1, .slice (some ⟨W1.heap.size, 0, none⟩) 1 1, .slice (some ⟨W1.heap.size + 1 + 1 + 1, 0, none⟩) 4096 4096] : Array Value).toList := by simp [cellsL, D.cells, hlen]
  have hO : Ops W0 W0.heap.size (some ⟨W1.heap.size + 1 + 1, 0, none⟩) 1 [⟨1, some ⟨W1.heap.size, 0, none⟩, 1, [97], some ⟨W1.heap.size + 1 + 1 + 1, 0, none⟩, 4096, K⟩] := by
    refine ⟨by rw [hcl]; exact lies_block e3 (by omega), Nat.le_refl _, by decide, fun d hd => ?_⟩
    simp at hd
    subst hd
    exact ⟨(lies_block e1 (show W1.heap.size < W0.heap.size by omega)).p fun _ h => h, Nat.le_refl _, (show 1 ≤ maxLen by decide), by simp, (by show LiesP W0 _ _ (K.map vb); rw [← hK]; exact (lies_block e4 (show W1.heap.size + 1 + 1 + 1 < W0.heap.size by omega)).p fun _ h => h), (show K.length ≤ 4096 by rw [hlen]; exact Nat.le_refl _), (show 4096 ≤ maxLen by decide), h8, by simp, by simp⟩
  have hc := check_any _ 1 _ W0 hO
  rw [show chk [⟨1, some ⟨W1.heap.size, 0, none⟩, 1, [97], some ⟨W1.heap.size + 1 + 1 + 1, 0, none⟩, 4096, K⟩] = 0 by simp [chk, okD, okO, hlen]] at hc
  have HC := Lib.hid hc
  have HB := Lib.hid (HB1.out.trans (hb.mono HB1.out.size))
  clear hc hb e1 e3 e4 hmk hlen hK h8 hz hO kc hcl
  refine (show Calls Try.prog 13 #[.slice (some ⟨W1.heap.size + 1 + 1, 0, none⟩) 1 1] W0 _ from HC.out).mono ?_
  rintro e W2 ⟨rfl, hb2⟩
  have HB2 := Lib.hid (HB.out.trans (hb2.mono HB.out.size))
  clear hb2 HC
  go_wp2_with (go_at_call 12; refine (num_any _ _).mono ?_; rintro e w' ⟨rfl, rfl⟩)
  go_ret
  exact ⟨rfl, HB2.out⟩

set_option maxHeartbeats 400000 in
theorem walk_2_2 (w : World) : Calls Try.prog 6 #[.int .i64 2, .int .i64 (1)] w (Yes w) := by
  have hmk : ∀ W : World, Sem.run Try.prog (Instr.makeSlice 28 (.int .i64 4097) (.int .i64 4097)) W = .ok (.slice (some ⟨W.heap.size, 0, none⟩) 4097 4097) (W.alloc (.cells (zeros 4097) 5)) := fun W => make_full 4097 (by decide) W
  have kc := fun (W : World) (C : Array Value) (n c : Nat) => Lib.run_convert_bytes_const (P := Try.prog) W 28 5 C n c Try.underlying28 Try.underlying5
  go_enter Try.func6, Try.ntmps6
  go_wp2_with fail
  refine (alive_any _).mono ?_; rintro e W1 ⟨rfl, hb1⟩
  have HB1 := Lib.hid hb1
  clear hb1
  go_wp2_with fail
  have hb := (Joins.below_alloc3 W1 (.cells #[.int .u8 97] 5 (1, 2)) (.cells #[.int .i64 1, .slice (some ⟨W1.heap.size, 0, none⟩) 1 1, .slice none 0 0] 46) (.cells #[.int .i64 1, .slice (some ⟨W1.heap.size, 0, none⟩) 1 1, .slice (some ⟨W1.heap.size + 1 + 1 + 1, 0, none⟩) 4097 4097] 46)).alloc (by simp; omega) (.cells (zeros 4097) 5)
  obtain ⟨e1, e3, e4, hz⟩ := heap_alloc4 W1 (.cells #[.int .u8 97] 5 (1, 2)) (.cells #[.int .i64 1, .slice (some ⟨W1.heap.size, 0, none⟩) 1 1, .slice none 0 0] 46) (.cells #[.int .i64 1, .slice (some ⟨W1.heap.size, 0, none⟩) 1 1, .slice (some ⟨W1.heap.size + 1 + 1 + 1, 0, none⟩) 4097 4097] 46) (.cells (zeros 4097) 5)
  generalize (((W1.alloc (.cells #[.int .u8 97] 5 (1, 2))).alloc (.cells #[.int .i64 1, .slice (some ⟨W1.heap.size, 0, none⟩) 1 1, .slice none 0 0] 46)).alloc (.cells #[.int .i64 1, .slice (some ⟨W1.heap.size, 0, none⟩) 1 1, .slice (some ⟨W1.heap.size + 1 + 1 + 1, 0, none⟩) 4097 4097] 46)).alloc (.cells (zeros 4097) 5) = W0 at hb e1 e3 e4 hz ⊢
  obtain ⟨K, hlen, hK, h8⟩ := zeros_some 4097
  have hcl : cellsL [⟨1, some ⟨W1.heap.size, 0, none⟩, 1, [97], some ⟨W1.heap.size + 1 + 1 + 1, 0, none⟩, 4097, K⟩] = (#[.int .i64 1, .slice (some ⟨W1.heap.size, 0, none⟩) 1 1, .slice (some ⟨W1.heap.size + 1 + 1 + 1, 0, none⟩) 4097 4097] : Array Value).toList := by simp [cellsL, D.cells, hlen]
  have hO : Ops W0 W0.heap.size (some ⟨W1.heap.size + 1 + 1, 0, none⟩) 1 [⟨1, some ⟨W1.heap.size, 0, none⟩, 1, [97], some ⟨W1.heap.size + 1 + 1 + 1, 0, none⟩, 4097, K⟩] := by
    refine ⟨by rw [hcl]; exact lies_block e3 (by omega), Nat.le_refl _, by decide, fun d hd => ?_⟩
    simp at hd
    subst hd
    exact ⟨(lies_block e1 (show W1.heap.size < W0.heap.size by omega)).p fun _ h => h, Nat.le_refl _, (show 1 ≤ maxLen by decide), by simp, (by show LiesP W0 _ _ (K.map vb); rw [← hK]; exact (lies_block e4 (show W1.heap.size + 1 + 1 + 1 < W0.heap.size by omega)).p fun _ h => h), (show K.length ≤ 4097 by rw [hlen]; exact Nat.le_refl _), (show 4097 ≤ maxLen by decide), h8, by simp, by simp⟩
  have hc := check_any _ 1 _ W0 hO
  rw [show chk [⟨1, some ⟨W1.heap.size, 0, none⟩, 1, [97], some ⟨W1.heap.size + 1 + 1 + 1, 0, none⟩, 4097, K⟩] = 1 by simp [chk, okD, okO, hlen]] at hc
  have HC := Lib.hid hc
  have HB := Lib.hid (HB1.out.trans (hb.mono HB1.out.size))
  clear hc hb e1 e3 e4 hmk hlen hK h8 hz hO kc hcl
  refine (show Calls Try.prog 13 #[.slice (some ⟨W1.heap.size + 1 + 1, 0, none⟩) 1 1] W0 _ from HC.out).mono ?_
  rintro e W2 ⟨rfl, hb2⟩
  have HB2 := Lib.hid (HB.out.trans (hb2.mono HB.out.size))
  clear hb2 HC
  go_wp2_with (go_at_call 12; refine (num_any _ _).mono ?_; rintro e w' ⟨rfl, rfl⟩)
  go_ret
  exact ⟨rfl, HB2.out⟩

set_option maxHeartbeats 400000 in
theorem walk_3_0 (w : World) : Calls Try.prog 6 #[.int .i64 3, .int .i64 (-1)] w (Yes w) := by
  have kc := fun (W : World) (C : Array Value) (n c : Nat) => Lib.run_convert_bytes_const (P := Try.prog) W 28 5 C n c Try.underlying28 Try.underlying5
  go_enter Try.func6, Try.ntmps6
  go_wp2_with fail
  refine (alive_any _).mono ?_; rintro e W1 ⟨rfl, hb1⟩
  have HB1 := Lib.hid hb1
  clear hb1
  go_wp2_with fail
  have hb := Joins.below_alloc3 W1 (.cells #[.int .u8 97] 5 (1, 2)) (.cells #[.int .i64 1, .slice (some ⟨W1.heap.size, 0, none⟩) 1 1, .slice none 0 0] 46) (.cells #[.int .i64 0, .slice (some ⟨W1.heap.size, 0, none⟩) 1 1, .slice none 0 0] 46)
  obtain ⟨e1, _, e3, hz⟩ := heap_alloc3 W1 (.cells #[.int .u8 97] 5 (1, 2)) (.cells #[.int .i64 1, .slice (some ⟨W1.heap.size, 0, none⟩) 1 1, .slice none 0 0] 46) (.cells #[.int .i64 0, .slice (some ⟨W1.heap.size, 0, none⟩) 1 1, .slice none 0 0] 46)
  generalize ((W1.alloc (.cells #[.int .u8 97] 5 (1, 2))).alloc (.cells #[.int .i64 1, .slice (some ⟨W1.heap.size, 0, none⟩) 1 1, .slice none 0 0] 46)).alloc (.cells #[.int .i64 0, .slice (some ⟨W1.heap.size, 0, none⟩) 1 1, .slice none 0 0] 46) = W0 at hb e1 e3 hz ⊢
  
  have hcl : cellsL [⟨0, some ⟨W1.heap.size, 0, none⟩, 1, [97], none, 0, []⟩] = (#[.int .i64 0, .slice (some ⟨W1.heap.size, 0, none⟩) 1 1, .slice none 0 0] : Array Value).toList := by simp [cellsL, D.cells]
  have hO : Ops W0 W0.heap.size (some ⟨W1.heap.size + 1 + 1, 0, none⟩) 1 [⟨0, some ⟨W1.heap.size, 0, none⟩, 1, [97], none, 0, []⟩] := by
    refine ⟨by rw [hcl]; exact lies_block e3 (by omega), Nat.le_refl _, by decide, fun d hd => ?_⟩
    simp at hd
    subst hd
    exact ⟨(lies_block e1 (show W1.heap.size < W0.heap.size by omega)).p fun _ h => h, Nat.le_refl _, (show 1 ≤ maxLen by decide), by simp, nil_ok _ _, Nat.le_refl _, (show 0 ≤ maxLen by decide), by simp, by simp, by simp⟩
  have hc := check_any _ 1 _ W0 hO
  rw [show chk [⟨0, some ⟨W1.heap.size, 0, none⟩, 1, [97], none, 0, []⟩] = 0 by simp [chk, okD, okO]] at hc
  have HC := Lib.hid hc
  have HB := Lib.hid (HB1.out.trans (hb.mono HB1.out.size))
  clear hc hb e1 e3 hz hO kc hcl
  refine (show Calls Try.prog 13 #[.slice (some ⟨W1.heap.size + 1 + 1, 0, none⟩) 1 1] W0 _ from HC.out).mono ?_
  rintro e W2 ⟨rfl, hb2⟩
  have HB2 := Lib.hid (HB.out.trans (hb2.mono HB.out.size))
  clear hb2 HC
  go_wp2_with (go_at_call 12; refine (num_any _ _).mono ?_; rintro e w' ⟨rfl, rfl⟩)
  go_ret
  exact ⟨rfl, HB2.out⟩

set_option maxHeartbeats 400000 in
theorem walk_3_1 (w : World) : Calls Try.prog 6 #[.int .i64 3, .int .i64 (0)] w (Yes w) := by
  have kc := fun (W : World) (C : Array Value) (n c : Nat) => Lib.run_convert_bytes_const (P := Try.prog) W 28 5 C n c Try.underlying28 Try.underlying5
  go_enter Try.func6, Try.ntmps6
  go_wp2_with fail
  refine (alive_any _).mono ?_; rintro e W1 ⟨rfl, hb1⟩
  have HB1 := Lib.hid hb1
  clear hb1
  go_wp2_with fail
  have hb := Joins.below_alloc3 W1 (.cells #[.int .u8 97] 5 (1, 2)) (.cells #[.int .i64 1, .slice (some ⟨W1.heap.size, 0, none⟩) 1 1, .slice none 0 0] 46) (.cells #[.int .i64 1, .slice (some ⟨W1.heap.size, 0, none⟩) 1 1, .slice none 0 0] 46)
  obtain ⟨e1, _, e3, hz⟩ := heap_alloc3 W1 (.cells #[.int .u8 97] 5 (1, 2)) (.cells #[.int .i64 1, .slice (some ⟨W1.heap.size, 0, none⟩) 1 1, .slice none 0 0] 46) (.cells #[.int .i64 1, .slice (some ⟨W1.heap.size, 0, none⟩) 1 1, .slice none 0 0] 46)
  generalize ((W1.alloc (.cells #[.int .u8 97] 5 (1, 2))).alloc (.cells #[.int .i64 1, .slice (some ⟨W1.heap.size, 0, none⟩) 1 1, .slice none 0 0] 46)).alloc (.cells #[.int .i64 1, .slice (some ⟨W1.heap.size, 0, none⟩) 1 1, .slice none 0 0] 46) = W0 at hb e1 e3 hz ⊢
  
  have hcl : cellsL [⟨1, some ⟨W1.heap.size, 0, none⟩, 1, [97], none, 0, []⟩] = (#[.int .i64 1, .slice (some ⟨W1.heap.size, 0, none⟩) 1 1, .slice none 0 0] : Array Value).toList := by simp [cellsL, D.cells]
  have hO : Ops W0 W0.heap.size (some ⟨W1.heap.size + 1 + 1, 0, none⟩) 1 [⟨1, some ⟨W1.heap.size, 0, none⟩, 1, [97], none, 0, []⟩] := by
    refine ⟨by rw [hcl]; exact lies_block e3 (by omega), Nat.le_refl _, by decide, fun d hd => ?_⟩
    simp at hd
    subst hd
    exact ⟨(lies_block e1 (show W1.heap.size < W0.heap.size by omega)).p fun _ h => h, Nat.le_refl _, (show 1 ≤ maxLen by decide), by simp, nil_ok _ _, Nat.le_refl _, (show 0 ≤ maxLen by decide), by simp, by simp, by simp⟩
  have hc := check_any _ 1 _ W0 hO
  rw [show chk [⟨1, some ⟨W1.heap.size, 0, none⟩, 1, [97], none, 0, []⟩] = 0 by simp [chk, okD, okO]] at hc
  have HC := Lib.hid hc
  have HB := Lib.hid (HB1.out.trans (hb.mono HB1.out.size))
  clear hc hb e1 e3 hz hO kc hcl
  refine (show Calls Try.prog 13 #[.slice (some ⟨W1.heap.size + 1 + 1, 0, none⟩) 1 1] W0 _ from HC.out).mono ?_
  rintro e W2 ⟨rfl, hb2⟩
  have HB2 := Lib.hid (HB.out.trans (hb2.mono HB.out.size))
  clear hb2 HC
  go_wp2_with (go_at_call 12; refine (num_any _ _).mono ?_; rintro e w' ⟨rfl, rfl⟩)
  go_ret
  exact ⟨rfl, HB2.out⟩

set_option maxHeartbeats 400000 in
theorem walk_3_2 (w : World) : Calls Try.prog 6 #[.int .i64 3, .int .i64 (1)] w (Yes w) := by
  have kc := fun (W : World) (C : Array Value) (n c : Nat) => Lib.run_convert_bytes_const (P := Try.prog) W 28 5 C n c Try.underlying28 Try.underlying5
  go_enter Try.func6, Try.ntmps6
  go_wp2_with fail
  refine (alive_any _).mono ?_; rintro e W1 ⟨rfl, hb1⟩
  have HB1 := Lib.hid hb1
  clear hb1
  go_wp2_with fail
  have hb := Joins.below_alloc3 W1 (.cells #[.int .u8 97] 5 (1, 2)) (.cells #[.int .i64 1, .slice (some ⟨W1.heap.size, 0, none⟩) 1 1, .slice none 0 0] 46) (.cells #[.int .i64 2, .slice (some ⟨W1.heap.size, 0, none⟩) 1 1, .slice none 0 0] 46)
  obtain ⟨e1, _, e3, hz⟩ := heap_alloc3 W1 (.cells #[.int .u8 97] 5 (1, 2)) (.cells #[.int .i64 1, .slice (some ⟨W1.heap.size, 0, none⟩) 1 1, .slice none 0 0] 46) (.cells #[.int .i64 2, .slice (some ⟨W1.heap.size, 0, none⟩) 1 1, .slice none 0 0] 46)
  generalize ((W1.alloc (.cells #[.int .u8 97] 5 (1, 2))).alloc (.cells #[.int .i64 1, .slice (some ⟨W1.heap.size, 0, none⟩) 1 1, .slice none 0 0] 46)).alloc (.cells #[.int .i64 2, .slice (some ⟨W1.heap.size, 0, none⟩) 1 1, .slice none 0 0] 46) = W0 at hb e1 e3 hz ⊢
  
  have hcl : cellsL [⟨2, some ⟨W1.heap.size, 0, none⟩, 1, [97], none, 0, []⟩] = (#[.int .i64 2, .slice (some ⟨W1.heap.size, 0, none⟩) 1 1, .slice none 0 0] : Array Value).toList := by simp [cellsL, D.cells]
  have hO : Ops W0 W0.heap.size (some ⟨W1.heap.size + 1 + 1, 0, none⟩) 1 [⟨2, some ⟨W1.heap.size, 0, none⟩, 1, [97], none, 0, []⟩] := by
    refine ⟨by rw [hcl]; exact lies_block e3 (by omega), Nat.le_refl _, by decide, fun d hd => ?_⟩
    simp at hd
    subst hd
    exact ⟨(lies_block e1 (show W1.heap.size < W0.heap.size by omega)).p fun _ h => h, Nat.le_refl _, (show 1 ≤ maxLen by decide), by simp, nil_ok _ _, Nat.le_refl _, (show 0 ≤ maxLen by decide), by simp, by simp, by simp⟩
  have hc := check_any _ 1 _ W0 hO
  rw [show chk [⟨2, some ⟨W1.heap.size, 0, none⟩, 1, [97], none, 0, []⟩] = 1 by simp [chk, okD, okO]] at hc
  have HC := Lib.hid hc
  have HB := Lib.hid (HB1.out.trans (hb.mono HB1.out.size))
  clear hc hb e1 e3 hz hO kc hcl
  refine (show Calls Try.prog 13 #[.slice (some ⟨W1.heap.size + 1 + 1, 0, none⟩) 1 1] W0 _ from HC.out).mono ?_
  rintro e W2 ⟨rfl, hb2⟩
  have HB2 := Lib.hid (HB.out.trans (hb2.mono HB.out.size))
  clear hb2 HC
  go_wp2_with (go_at_call 12; refine (num_any _ _).mono ?_; rintro e w' ⟨rfl, rfl⟩)
  go_ret
  exact ⟨rfl, HB2.out⟩

set_option maxRecDepth 100000 in
set_option maxHeartbeats 400000 in
theorem walk_0_0 (w : World) : Calls Try.prog 6 #[.int .i64 0, .int .i64 (-1)] w (Yes w) := by
  have kc := fun (W : World) (C : Array Value) (n c : Nat) => Lib.run_convert_bytes_const (P := Try.prog) W 28 5 C n c Try.underlying28 Try.underlying5
  go_enter Try.func6, Try.ntmps6
  go_wp2_with fail
  refine (alive_any _).mono ?_; rintro e W1 ⟨rfl, hb1⟩
  have HB1 := Lib.hid hb1
  clear hb1
  go_wp2_with fail
  have hb := Joins.below_alloc3 W1 (.cells #[.int .u8 97] 5 (1, 2)) (.cells #[.int .i64 1, .slice (some ⟨W1.heap.size, 0, none⟩) 1 1, .slice none 0 0] 46) (.cells #[.int .i64 1, .slice (some ⟨W1.heap.size, 0, none⟩) 1 1, .slice none 0 0] 46)
  obtain ⟨e1, e2, e3, hz⟩ := heap_alloc3 W1 (.cells #[.int .u8 97] 5 (1, 2)) (.cells #[.int .i64 1, .slice (some ⟨W1.heap.size, 0, none⟩) 1 1, .slice none 0 0] 46) (.cells #[.int .i64 1, .slice (some ⟨W1.heap.size, 0, none⟩) 1 1, .slice none 0 0] 46)
  generalize ((W1.alloc (.cells #[.int .u8 97] 5 (1, 2))).alloc (.cells #[.int .i64 1, .slice (some ⟨W1.heap.size, 0, none⟩) 1 1, .slice none 0 0] 46)).alloc (.cells #[.int .i64 1, .slice (some ⟨W1.heap.size, 0, none⟩) 1 1, .slice none 0 0] 46) = W0 at hb e1 e2 e3 hz ⊢
  obtain ⟨d, ed⟩ : ∃ d : D, d = (⟨1, some ⟨W1.heap.size, 0, none⟩, 1, [97], none, 0, []⟩ : D) := ⟨_, rfl⟩
  have hd0 : d.Ok W0 (· < W0.heap.size) := by
    rw [ed]
    exact ⟨(lies_block e1 (show W1.heap.size < W0.heap.size by omega)).p fun _ h => h, Nat.le_refl _, (show 1 ≤ maxLen by decide), by simp, nil_ok _ _, Nat.le_refl _, (show 0 ≤ maxLen by decide), by simp, by simp, by simp⟩
  have okd : okD d = true := by rw [ed]; simp [okD, okO]
  have HB := Lib.hid (HB1.out.trans (hb.mono HB1.out.size))
  have E2 := Lib.hid fun w' (hk : Below W0.heap.size W0 w') => (Box.below (us := [.int .i64 1, .slice (some ⟨W1.heap.size, 0, none⟩) 1 1, .slice none 0 0]) (T := 46) e2 hk (by omega)).facts3
  have HD := Lib.hid hd0
  have ED := Lib.hid ed
  have OKD := Lib.hid okd
  clear hb e1 e2 e3 hz kc hd0 ed okd
  go_loopw [7, 9] (fun l i wr => ∃ j : Nat, j ≤ 99 ∧ i = .int .i64 j ∧ wr.ownsRow W0.heap.size 46 3 l (List.replicate j d).length (cellsL (List.replicate j d)) ∧ Hid (Below W0.heap.size W0 wr)) (fun _ i _ => 99 + 1 - (intOf i).toNat)
  case atStart => exact ⟨0, by omega, rfl, World.ownsRow_nil _ _ _ _, Lib.hid (Below.refl _ _)⟩
  case round =>
    obtain ⟨j, hj, rfl, hown, hb⟩ := hrel
    by_cases hlt : j < 99
    · obtain ⟨p0, p1, p2, _, _, _⟩ := E2.out _ hb.out
      have hs1 : W0.heap.size ≤ wr.heap.size := hb.out.size
      have hba := Joins.below_alloc1 wr (.cells d.cells.toArray 46)
      obtain ⟨v', w1, hrun, hown1, hb1, _⟩ := append_ops (L := List.replicate j d) (M := [d]) (c := 1) (A := some ⟨wr.heap.size, 0, none⟩) (B := wr.heap.size + 1) (hown.alloc (.cells d.cells.toArray 46))
        (by have := lies_block (w := wr.alloc (.cells d.cells.toArray 46)) (B := wr.heap.size + 1) (heap_alloc_new wr _) (by omega); simpa [cellsL] using this) (by simp; omega) (by simp; omega)
      rw [← List.replicate_succ'] at hown1
      have HO1 := Lib.hid hown1
      have HB3 := Lib.hid ((hb.out.trans (hba.mono hs1)).trans hb1)
      rw [ED.out] at hrun
      have HR1 := Lib.hid hrun
      clear hown hown1 hb1 hrun hba hs1
      go_wp2_with (at_builtin; refine wpList_append_run rfl _ _ 23 rfl rfl rfl HR1.out ?_)
      go_roundw
      case rel => exact ⟨j + 1, by omega, by go_num, HO1.out, HB3⟩
      case measure => simp [intOf]; omega
    · obtain rfl : j = 99 := by omega
      obtain ⟨A3, c3, hv, hc3, hm3, hl3⟩ := own_parts hown
      rw [List.length_replicate] at hv
      subst hv
      have hO : Ops wr wr.heap.size A3 c3 (List.replicate 99 d) := ⟨hl3, hc3, hm3, fun x hx => by
        rw [(List.mem_replicate.1 hx).2]
        exact HD.out.later hb.out.block fun _ h => Nat.lt_of_lt_of_le h hb.out.size⟩
      have hc := check_any _ c3 _ wr hO
      rw [show chk (List.replicate 99 d) = 0 by unfold chk; rw [List.length_replicate, show (List.replicate 99 d).all okD = true from List.all_eq_true.2 fun x hx => by rw [(List.mem_replicate.1 hx).2]; exact OKD.out]; rfl, List.length_replicate] at hc
      have HC := Lib.hid hc
      clear hc hl3 hown hO hc3 hm3
      go_wp2_with fail
      refine (show Calls Try.prog 13 #[.slice A3 99 c3] wr _ from HC.out).mono ?_
      rintro e W2 ⟨rfl, hb2⟩
      have HB2 := Lib.hid (HB.out.trans ((hb.out.trans (hb2.mono hb.out.size)).mono HB.out.size))
      clear hb2 HC
      go_wp2_with (go_at_call 12; refine (num_any _ _).mono ?_; rintro e w' ⟨rfl, rfl⟩)
      go_ret
      exact ⟨rfl, HB2.out⟩

set_option maxRecDepth 100000 in
set_option maxHeartbeats 400000 in
theorem walk_0_1 (w : World) : Calls Try.prog 6 #[.int .i64 0, .int .i64 (0)] w (Yes w) := by
  have kc := fun (W : World) (C : Array Value) (n c : Nat) => Lib.run_convert_bytes_const (P := Try.prog) W 28 5 C n c Try.underlying28 Try.underlying5
  go_enter Try.func6, Try.ntmps6
  go_wp2_with fail
  refine (alive_any _).mono ?_; rintro e W1 ⟨rfl, hb1⟩
  have HB1 := Lib.hid hb1
  clear hb1
  go_wp2_with fail
  have hb := Joins.below_alloc3 W1 (.cells #[.int .u8 97] 5 (1, 2)) (.cells #[.int .i64 1, .slice (some ⟨W1.heap.size, 0, none⟩) 1 1, .slice none 0 0] 46) (.cells #[.int .i64 1, .slice (some ⟨W1.heap.size, 0, none⟩) 1 1, .slice none 0 0] 46)
  obtain ⟨e1, e2, e3, hz⟩ := heap_alloc3 W1 (.cells #[.int .u8 97] 5 (1, 2)) (.cells #[.int .i64 1, .slice (some ⟨W1.heap.size, 0, none⟩) 1 1, .slice none 0 0] 46) (.cells #[.int .i64 1, .slice (some ⟨W1.heap.size, 0, none⟩) 1 1, .slice none 0 0] 46)
  generalize ((W1.alloc (.cells #[.int .u8 97] 5 (1, 2))).alloc (.cells #[.int .i64 1, .slice (some ⟨W1.heap.size, 0, none⟩) 1 1, .slice none 0 0] 46)).alloc (.cells #[.int .i64 1, .slice (some ⟨W1.heap.size, 0, none⟩) 1 1, .slice none 0 0] 46) = W0 at hb e1 e2 e3 hz ⊢
  obtain ⟨d, ed⟩ : ∃ d : D, d = (⟨1, some ⟨W1.heap.size, 0, none⟩, 1, [97], none, 0, []⟩ : D) := ⟨_, rfl⟩
  have hd0 : d.Ok W0 (· < W0.heap.size) := by
    rw [ed]
    exact ⟨(lies_block e1 (show W1.heap.size < W0.heap.size by omega)).p fun _ h => h, Nat.le_refl _, (show 1 ≤ maxLen by decide), by simp, nil_ok _ _, Nat.le_refl _, (show 0 ≤ maxLen by decide), by simp, by simp, by simp⟩
  have okd : okD d = true := by rw [ed]; simp [okD, okO]
  have HB := Lib.hid (HB1.out.trans (hb.mono HB1.out.size))
  have E2 := Lib.hid fun w' (hk : Below W0.heap.size W0 w') => (Box.below (us := [.int .i64 1, .slice (some ⟨W1.heap.size, 0, none⟩) 1 1, .slice none 0 0]) (T := 46) e2 hk (by omega)).facts3
  have HD := Lib.hid hd0
  have ED := Lib.hid ed
  have OKD := Lib.hid okd
  clear hb e1 e2 e3 hz kc hd0 ed okd
  go_loopw [7, 9] (fun l i wr => ∃ j : Nat, j ≤ 100 ∧ i = .int .i64 j ∧ wr.ownsRow W0.heap.size 46 3 l (List.replicate j d).length (cellsL (List.replicate j d)) ∧ Hid (Below W0.heap.size W0 wr)) (fun _ i _ => 100 + 1 - (intOf i).toNat)
  case atStart => exact ⟨0, by omega, rfl, World.ownsRow_nil _ _ _ _, Lib.hid (Below.refl _ _)⟩
  case round =>
    obtain ⟨j, hj, rfl, hown, hb⟩ := hrel
    by_cases hlt : j < 100
    · obtain ⟨p0, p1, p2, _, _, _⟩ := E2.out _ hb.out
      have hs1 : W0.heap.size ≤ wr.heap.size := hb.out.size
      have hba := Joins.below_alloc1 wr (.cells d.cells.toArray 46)
      obtain ⟨v', w1, hrun, hown1, hb1, _⟩ := append_ops (L := List.replicate j d) (M := [d]) (c := 1) (A := some ⟨wr.heap.size, 0, none⟩) (B := wr.heap.size + 1) (hown.alloc (.cells d.cells.toArray 46))
        (by have := lies_block (w := wr.alloc (.cells d.cells.toArray 46)) (B := wr.heap.size + 1) (heap_alloc_new wr _) (by omega); simpa [cellsL] using this) (by simp; omega) (by simp; omega)
      rw [← List.replicate_succ'] at hown1
      have HO1 := Lib.hid hown1
      have HB3 := Lib.hid ((hb.out.trans (hba.mono hs1)).trans hb1)
      rw [ED.out] at hrun
      have HR1 := Lib.hid hrun
      clear hown hown1 hb1 hrun hba hs1
      go_wp2_with (at_builtin; refine wpList_append_run rfl _ _ 23 rfl rfl rfl HR1.out ?_)
      go_roundw
      case rel => exact ⟨j + 1, by omega, by go_num, HO1.out, HB3⟩
      case measure => simp [intOf]; omega
    · obtain rfl : j = 100 := by omega
      obtain ⟨A3, c3, hv, hc3, hm3, hl3⟩ := own_parts hown
      rw [List.length_replicate] at hv
      subst hv
      have hO : Ops wr wr.heap.size A3 c3 (List.replicate 100 d) := ⟨hl3, hc3, hm3, fun x hx => by
        rw [(List.mem_replicate.1 hx).2]
        exact HD.out.later hb.out.block fun _ h => Nat.lt_of_lt_of_le h hb.out.size⟩
      have hc := check_any _ c3 _ wr hO
      rw [show chk (List.replicate 100 d) = 0 by unfold chk; rw [List.length_replicate, show (List.replicate 100 d).all okD = true from List.all_eq_true.2 fun x hx => by rw [(List.mem_replicate.1 hx).2]; exact OKD.out]; rfl, List.length_replicate] at hc
      have HC := Lib.hid hc
      clear hc hl3 hown hO hc3 hm3
      go_wp2_with fail
      refine (show Calls Try.prog 13 #[.slice A3 100 c3] wr _ from HC.out).mono ?_
      rintro e W2 ⟨rfl, hb2⟩
      have HB2 := Lib.hid (HB.out.trans ((hb.out.trans (hb2.mono hb.out.size)).mono HB.out.size))
      clear hb2 HC
      go_wp2_with (go_at_call 12; refine (num_any _ _).mono ?_; rintro e w' ⟨rfl, rfl⟩)
      go_ret
      exact ⟨rfl, HB2.out⟩

set_option maxRecDepth 100000 in
set_option maxHeartbeats 400000 in
theorem walk_0_2 (w : World) : Calls Try.prog 6 #[.int .i64 0, .int .i64 (1)] w (Yes w) := by
  have kc := fun (W : World) (C : Array Value) (n c : Nat) => Lib.run_convert_bytes_const (P := Try.prog) W 28 5 C n c Try.underlying28 Try.underlying5
  go_enter Try.func6, Try.ntmps6
  go_wp2_with fail
  refine (alive_any _).mono ?_; rintro e W1 ⟨rfl, hb1⟩
  have HB1 := Lib.hid hb1
  clear hb1
  go_wp2_with fail
  have hb := Joins.below_alloc3 W1 (.cells #[.int .u8 97] 5 (1, 2)) (.cells #[.int .i64 1, .slice (some ⟨W1.heap.size, 0, none⟩) 1 1, .slice none 0 0] 46) (.cells #[.int .i64 1, .slice (some ⟨W1.heap.size, 0, none⟩) 1 1, .slice none 0 0] 46)
  obtain ⟨e1, e2, e3, hz⟩ := heap_alloc3 W1 (.cells #[.int .u8 97] 5 (1, 2)) (.cells #[.int .i64 1, .slice (some ⟨W1.heap.size, 0, none⟩) 1 1, .slice none 0 0] 46) (.cells #[.int .i64 1, .slice (some ⟨W1.heap.size, 0, none⟩) 1 1, .slice none 0 0] 46)
  generalize ((W1.alloc (.cells #[.int .u8 97] 5 (1, 2))).alloc (.cells #[.int .i64 1, .slice (some ⟨W1.heap.size, 0, none⟩) 1 1, .slice none 0 0] 46)).alloc (.cells #[.int .i64 1, .slice (some ⟨W1.heap.size, 0, none⟩) 1 1, .slice none 0 0] 46) = W0 at hb e1 e2 e3 hz ⊢
  obtain ⟨d, ed⟩ : ∃ d : D, d = (⟨1, some ⟨W1.heap.size, 0, none⟩, 1, [97], none, 0, []⟩ : D) := ⟨_, rfl⟩
  have hd0 : d.Ok W0 (· < W0.heap.size) := by
    rw [ed]
    exact ⟨(lies_block e1 (show W1.heap.size < W0.heap.size by omega)).p fun _ h => h, Nat.le_refl _, (show 1 ≤ maxLen by decide), by simp, nil_ok _ _, Nat.le_refl _, (show 0 ≤ maxLen by decide), by simp, by simp, by simp⟩
  have okd : okD d = true := by rw [ed]; simp [okD, okO]
  have HB := Lib.hid (HB1.out.trans (hb.mono HB1.out.size))
  have E2 := Lib.hid fun w' (hk : Below W0.heap.size W0 w') => (Box.below (us := [.int .i64 1, .slice (some ⟨W1.heap.size, 0, none⟩) 1 1, .slice none 0 0]) (T := 46) e2 hk (by omega)).facts3
  have HD := Lib.hid hd0
  have ED := Lib.hid ed
  have OKD := Lib.hid okd
  clear hb e1 e2 e3 hz kc hd0 ed okd
  go_loopw [7, 9] (fun l i wr => ∃ j : Nat, j ≤ 101 ∧ i = .int .i64 j ∧ wr.ownsRow W0.heap.size 46 3 l (List.replicate j d).length (cellsL (List.replicate j d)) ∧ Hid (Below W0.heap.size W0 wr)) (fun _ i _ => 101 + 1 - (intOf i).toNat)
  case atStart => exact ⟨0, by omega, rfl, World.ownsRow_nil _ _ _ _, Lib.hid (Below.refl _ _)⟩
  case round =>
    obtain ⟨j, hj, rfl, hown, hb⟩ := hrel
    by_cases hlt : j < 101
    · obtain ⟨p0, p1, p2, _, _, _⟩ := E2.out _ hb.out
      have hs1 : W0.heap.size ≤ wr.heap.size := hb.out.size
      have hba := Joins.below_alloc1 wr (.cells d.cells.toArray 46)
      obtain ⟨v', w1, hrun, hown1, hb1, _⟩ := append_ops (L := List.replicate j d) (M := [d]) (c := 1) (A := some ⟨wr.heap.size, 0, none⟩) (B := wr.heap.size + 1) (hown.alloc (.cells d.cells.toArray 46))
        (by have := lies_block (w := wr.alloc (.cells d.cells.toArray 46)) (B := wr.heap.size + 1) (heap_alloc_new wr _) (by omega); simpa [cellsL] using this) (by simp; omega) (by simp; omega)
      rw [← List.replicate_succ'] at hown1
      have HO1 := Lib.hid hown1
      have HB3 := Lib.hid ((hb.out.trans (hba.mono hs1)).trans hb1)
      rw [ED.out] at hrun
      have HR1 := Lib.hid hrun
      clear hown hown1 hb1 hrun hba hs1
      go_wp2_with (at_builtin; refine wpList_append_run rfl _ _ 23 rfl rfl rfl HR1.out ?_)
      go_roundw
      case rel => exact ⟨j + 1, by omega, by go_num, HO1.out, HB3⟩
      case measure => simp [intOf]; omega
    · obtain rfl : j = 101 := by omega
      obtain ⟨A3, c3, hv, hc3, hm3, hl3⟩ := own_parts hown
      rw [List.length_replicate] at hv
      subst hv
      have hO : Ops wr wr.heap.size A3 c3 (List.replicate 101 d) := ⟨hl3, hc3, hm3, fun x hx => by
        rw [(List.mem_replicate.1 hx).2]
        exact HD.out.later hb.out.block fun _ h => Nat.lt_of_lt_of_le h hb.out.size⟩
      have hc := check_any _ c3 _ wr hO
      rw [show chk (List.replicate 101 d) = 3 by unfold chk; rw [List.length_replicate, show (List.replicate 101 d).all okD = true from List.all_eq_true.2 fun x hx => by rw [(List.mem_replicate.1 hx).2]; exact OKD.out]; rfl, List.length_replicate] at hc
      have HC := Lib.hid hc
      clear hc hl3 hown hO hc3 hm3
      go_wp2_with fail
      refine (show Calls Try.prog 13 #[.slice A3 101 c3] wr _ from HC.out).mono ?_
      rintro e W2 ⟨rfl, hb2⟩
      have HB2 := Lib.hid (HB.out.trans ((hb.out.trans (hb2.mono hb.out.size)).mono HB.out.size))
      clear hb2 HC
      go_wp2_with (go_at_call 12; refine (num_any _ _).mono ?_; rintro e w' ⟨rfl, rfl⟩)
      go_ret
      exact ⟨rfl, HB2.out⟩

set_option maxRecDepth 100000 in
theorem lifted (os : Os) (started : os.Started) (H : Type) (enc : TypeId × Value → H) :
    ReturnsInHanded {} Try.checked os 6 .any (Rows.batchLimitsSpec.pre6 enc Try.prog Try.f6 Rows.batchLimitsRow.domain false) (Rows.batchLimitsSpec.post enc Try.prog Try.f6 false true false false) := by
  refine lift_true (C := Try.checked) own started (by kernel_rfl) Try.func6
    (ChangeSpec.witness6 (enc := enc) (C := Try.checked) false ⟨#[], #[.int .i64 0, .int .i64 0], []⟩ 8 (by kernel_rfl) (by kernel_rfl) (by kernel_rfl) (by kernel_rfl))
    (by kernel_rfl) (by kernel_rfl) (by kernel_rfl) Try.underlying4 rfl ?_ ?_
  · intro ds hds
    match ds, hds with
    | [d1, d2], _ => exact ⟨rfl, rfl, rfl⟩
  · intro W base args ds p hval0 hA0 hlt _
    have hval : ∀ (j : Nat) t v, Try.f6.params[j]? = some t → args[j]? = some v → Value.okWide Try.prog W .any base t v := hval0
    have hA : DataW.TrodAll enc Try.prog W 0 (fun _ => true) true Try.f6.params.toList args.toList ds p := hA0
    rw [Try.params6] at hA hval
    obtain ⟨v0, vs0, d0, ds0, p0, q0, hargs, rfl, rfl, h0, r0⟩ := trodAll_cons hA
    obtain ⟨v1, vs1, d1, ds1, p1, q1, rfl, rfl, rfl, h1, r1⟩ := trodAll_cons r0
    obtain ⟨rfl, rfl, rfl⟩ := trodAll_nil r1
    obtain rfl : args = #[v0, v1] := by cases args; simp_all
    obtain ⟨a0, rfl, rfl, rfl, w0⟩ := open_int Try.underlying3 (hval 0 _ v0 rfl rfl) h0
    have b0 := i64_of w0
    obtain ⟨a1, rfl, rfl, rfl, w1⟩ := open_int Try.underlying3 (hval 1 _ v1 rfl rfl) h1
    have b1 := i64_of w1
    by_cases h : 0 ≤ a0 ∧ a0 ≤ 3 ∧ -1 ≤ a1 ∧ a1 ≤ 1
    · obtain ⟨q1, q2, q3, q4⟩ := h
      rcases (show a0 = 0 ∨ a0 = 1 ∨ a0 = 2 ∨ a0 = 3 by omega) with rfl | rfl | rfl | rfl <;> rcases (show a1 = -1 ∨ a1 = 0 ∨ a1 = 1 by omega) with rfl | rfl | rfl
      · exact walk_0_0 W
      · exact walk_0_1 W
      · exact walk_0_2 W
      · exact walk_1_0 W
      · exact walk_1_1 W
      · exact walk_1_2 W
      · exact walk_2_0 W
      · exact walk_2_1 W
      · exact walk_2_2 W
      · exact walk_3_0 W
      · exact walk_3_1 W
      · exact walk_3_2 W
    · exact walk_out a0 a1 W b0 b1 h

theorem over : Rows.batchLimitsRow.holds Try.pinned (OpenSpec.ofChange Rows.batchLimitsSpec) :=
  OpenClaim.holds_of_wide 6 Try.f6 rfl rfl rfl rfl rfl rfl rfl ⟨rfl, rfl, rfl, rfl, rfl⟩ rfl rfl rfl rfl rfl (by kernel_rfl) Try.func6 (by kernel_rfl)
    (of_decide_eq_true (by kernel_rfl)) (by unfold Func.isWrapper; first | (rw [if_pos (by decide +kernel)]; kernel_rfl) | (rw [if_neg (by decide +kernel)]; exact ⟨rfl, rfl⟩))
    (fun os started H enc _ => lifted os started H enc)

theorem proved : Rows.BatchLimitsSaid :=
  over
#print axioms proved
end Go.Proofs.Ytggliedlfccicaa.batchLimits
