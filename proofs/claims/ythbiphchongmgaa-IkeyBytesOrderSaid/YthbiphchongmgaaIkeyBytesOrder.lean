/- Proved: for any two user keys and two numbers, IkeyBytesOrder of butterylaw4 answers true (keys whose user keys have the same length are ordered as these; for equal user keys the greater number is first, and the encoding is 8 bytes longer than the user key), and its arguments read as before. Conditions: none beyond what the given row states. -/
import Derived.Test.YthbiphchongmgaaKbytes
namespace Go.Proofs.Ythbiphchongmgaa.ikeyBytesOrder
set_option linter.unusedVariables false
set_option linter.unusedSimpArgs false
open Go.ChangeShapes Go.WideShapes Go.ChangeAt Go.RowKit Lift Ik

theorem own : ownKnob Try.prog.godebug = none := by kernel_rfl

/-- A key of kind 1. -/
abbrev kk (bs : List Nat) (s : Nat) : K := ⟨bs, s, 1⟩
theorem kk_at {W : World} {A : Option Addr} {c : Nat} {bs : List Nat} {s : Nat} (hl : Lies W W.heap.size A (bs.map vb)) (hc : bs.length ≤ c) (hm : c ≤ maxLen) (hb : ∀ x, x ∈ bs → x < 256) (hs : s < 18446744073709551616) :
    At W W.heap.size A c (kk bs s) := ⟨hl, hc, hm, hb, hs, by show (-9223372036854775808 : Int) ≤ 1; decide, by show (1 : Int) ≤ 9223372036854775807; decide⟩

set_option maxRecDepth 100000 in
set_option maxHeartbeats 800000 in
theorem walk_out (A1 A2 : Option Addr) (c1 c2 m n : Nat) (x y : List Nat) (w : World) (h : x.length < 1 ∨ 100 < x.length ∨ x.length ≠ y.length ∨ 72057594037927935 < m ∨ 72057594037927935 < n) :
    Calls Try.prog 7 #[.slice A1 x.length c1, .slice A2 y.length c2, .int .u64 (m : Int), .int .u64 (n : Int)] w (Yes w) := by
  by_cases n1 : x.length < 1
  · have d1 : decide ((x.length : Int) < 1) = true := by simp; omega
    clear h
    go_enter Try.func7, Try.ntmps7
    go_wp2_with fail
    refine (alive_any _).mono ?_; rintro e W1 ⟨rfl, hb1⟩
    have HB1 := Lib.hid hb1
    clear hb1
    go_wp2_with fail
    go_ret
    exact ⟨rfl, HB1.out⟩
  · have d1 : decide ((x.length : Int) < 1) = false := by simp; omega
    by_cases n2 : 100 < x.length
    · have d2 : decide (100 < (x.length : Int)) = true := by simp; omega
      clear h
      go_enter Try.func7, Try.ntmps7
      go_wp2_with fail
      refine (alive_any _).mono ?_; rintro e W1 ⟨rfl, hb1⟩
      have HB1 := Lib.hid hb1
      clear hb1
      go_wp2_with fail
      go_ret
      exact ⟨rfl, HB1.out⟩
    · have d2 : decide (100 < (x.length : Int)) = false := by simp; omega
      by_cases n3 : x.length ≠ y.length
      · have d3 : ((x.length : Int) != (y.length : Int)) = true := by rw [bne_iff_ne]; omega
        clear h n3
        go_enter Try.func7, Try.ntmps7
        go_wp2_with fail
        refine (alive_any _).mono ?_; rintro e W1 ⟨rfl, hb1⟩
        have HB1 := Lib.hid hb1
        clear hb1
        go_wp2_with fail
        go_ret
        exact ⟨rfl, HB1.out⟩
      · have d3 : ((x.length : Int) != (y.length : Int)) = false := by simp; omega
        by_cases n4 : 72057594037927935 < m
        · have d4 : decide (72057594037927935 < (m : Int)) = true := by simp; omega
          have d4n : decide (72057594037927935 < m) = true := by simp; omega
          clear h n3
          go_enter Try.func7, Try.ntmps7
          go_wp2_with fail
          refine (alive_any _).mono ?_; rintro e W1 ⟨rfl, hb1⟩
          have HB1 := Lib.hid hb1
          clear hb1
          go_wp2_with fail
          go_ret
          exact ⟨rfl, HB1.out⟩
        · have d4 : decide (72057594037927935 < (m : Int)) = false := by simp; omega
          have d4n : decide (72057594037927935 < m) = false := by simp; omega
          have n5 : 72057594037927935 < n := by omega
          have d5 : decide (72057594037927935 < (n : Int)) = true := by simp; omega
          have d5n : decide (72057594037927935 < n) = true := by simp; omega
          clear h n3
          go_enter Try.func7, Try.ntmps7
          go_wp2_with fail
          refine (alive_any _).mono ?_; rintro e W1 ⟨rfl, hb1⟩
          have HB1 := Lib.hid hb1
          clear hb1
          go_wp2_with fail
          go_ret
          exact ⟨rfl, HB1.out⟩

set_option maxRecDepth 100000 in
set_option maxHeartbeats 1600000 in
theorem walk_far (v : Int) (A1 A2 : Option Addr) (c1 c2 m n : Nat) (x y : List Nat) (w : World) (l1 : Lies w w.heap.size A1 (x.map vb)) (l2 : Lies w w.heap.size A2 (y.map vb)) (X8 : ∀ a, a ∈ x → a < 256) (Y8 : ∀ a, a ∈ y → a < 256)
    (hc1 : x.length ≤ c1) (hm1 : c1 ≤ maxLen) (hc2 : y.length ≤ c2) (hm2 : c2 ≤ maxLen) (b1 : m ≤ 72057594037927935) (b2 : n ≤ 72057594037927935)
    (n1 : 1 ≤ x.length) (n2 : x.length ≤ 100) (n3 : x.length = y.length) (hv : cmpK (kk x m) (kk y n) = v) (q : x ≠ y) :
    Calls Try.prog 7 #[.slice A1 x.length c1, .slice A2 y.length c2, .int .u64 (m : Int), .int .u64 (n : Int)] w (Yes w) := by
  have hs := str_eq X8 Y8
  have V := Lib.hid hv
  have L1 := Lib.hid l1
  have L2 := Lib.hid l2
  have AT1 := Lib.hid fun w' (hb : Below w.heap.size w w') => kk_at (s := m) ((l1.below hb).up hb.size) hc1 hm1 X8 (by omega)
  have AT2 := Lib.hid fun w' (hb : Below w.heap.size w w') => kk_at (s := n) ((l2.below hb).up hb.size) hc2 hm2 Y8 (by omega)
  have d1 : decide ((x.length : Int) < 1) = false := by simp; omega
  have d2 : decide (100 < (x.length : Int)) = false := by simp; omega
  have d3 : ((x.length : Int) != (y.length : Int)) = false := by first | (simp; done) | (simp; omega)
  have d4 : decide (72057594037927935 < (m : Int)) = false := by simp; omega
  have d4n : decide (72057594037927935 < m) = false := by simp; omega
  have d5 : decide (72057594037927935 < (n : Int)) = false := by simp; omega
  have d5n : decide (72057594037927935 < n) = false := by simp; omega
  rw [decide_eq_false q] at hs
  have hl := str_less X8 Y8
  rw [← cmpK_far (a := kk x m) (b := kk y n) q, hv] at hl
  clear l1 l2 hv n3 q X8 Y8
  go_enter Try.func7, Try.ntmps7
  go_wp2_with fail
  refine (alive_any _).mono ?_; rintro e W1 ⟨rfl, hb1⟩
  have HB1 := Lib.hid hb1
  clear hb1
  have hb0 := Joins.below_alloc2 W1 (.cells #[.slice A1 x.length c1, .int .u64 (m : Int), .int .i64 1] 25) (.cells #[.slice A2 y.length c2, .int .u64 (n : Int), .int .i64 1] 25)
  have hz : ((W1.alloc (.cells #[.slice A1 x.length c1, .int .u64 (m : Int), .int .i64 1] 25)).alloc (.cells #[.slice A2 y.length c2, .int .u64 (n : Int), .int .i64 1] 25)).heap.size = W1.heap.size + 2 := by simp
  have t1 : Box ((W1.alloc (.cells #[.slice A1 x.length c1, .int .u64 (m : Int), .int .i64 1] 25)).alloc (.cells #[.slice A2 y.length c2, .int .u64 (n : Int), .int .i64 1] 25)) W1.heap.size A1 c1 (kk x m) := ((Box.new W1 A1 c1 (kk x m)).later (Joins.below_alloc1 _ _) (by simp))
  have t2 : Box ((W1.alloc (.cells #[.slice A1 x.length c1, .int .u64 (m : Int), .int .i64 1] 25)).alloc (.cells #[.slice A2 y.length c2, .int .u64 (n : Int), .int .i64 1] 25)) (W1.heap.size + 1) A2 c2 (kk y n) := by
    have := Box.new (W1.alloc (.cells #[.slice A1 x.length c1, .int .u64 (m : Int), .int .i64 1] 25)) A2 c2 (kk y n)
    rw [show (W1.alloc (.cells #[.slice A1 x.length c1, .int .u64 (m : Int), .int .i64 1] 25)).heap.size = W1.heap.size + 1 by simp] at this
    exact this
  have HB0 := Lib.hid (HB1.out.trans (hb0.mono HB1.out.size))
  have HB0' := Lib.hid hb0
  have HZ := Lib.hid hz
  have r1 := run_str (c := c1) (L1.out.below HB0.out)
  have r2 := run_str (c := c2) (L2.out.below HB0.out)
  have R1 := Lib.hid fun w' (hb : Below ((W1.alloc (.cells #[.slice A1 x.length c1, .int .u64 (m : Int), .int .i64 1] 25)).alloc (.cells #[.slice A2 y.length c2, .int .u64 (n : Int), .int .i64 1] 25)).heap.size ((W1.alloc (.cells #[.slice A1 x.length c1, .int .u64 (m : Int), .int .i64 1] 25)).alloc (.cells #[.slice A2 y.length c2, .int .u64 (n : Int), .int .i64 1] 25)) w') => run_str (c := c1) (L1.out.below (HB0.out.trans (hb.mono HB0.out.size)))
  have R2 := Lib.hid fun w' (hb : Below ((W1.alloc (.cells #[.slice A1 x.length c1, .int .u64 (m : Int), .int .i64 1] 25)).alloc (.cells #[.slice A2 y.length c2, .int .u64 (n : Int), .int .i64 1] 25)).heap.size ((W1.alloc (.cells #[.slice A1 x.length c1, .int .u64 (m : Int), .int .i64 1] 25)).alloc (.cells #[.slice A2 y.length c2, .int .u64 (n : Int), .int .i64 1] 25)) w') => run_str (c := c2) (L2.out.below (HB0.out.trans (hb.mono HB0.out.size)))
  have B1 := Lib.hid fun w' (hb : Below ((W1.alloc (.cells #[.slice A1 x.length c1, .int .u64 (m : Int), .int .i64 1] 25)).alloc (.cells #[.slice A2 y.length c2, .int .u64 (n : Int), .int .i64 1] 25)).heap.size ((W1.alloc (.cells #[.slice A1 x.length c1, .int .u64 (m : Int), .int .i64 1] 25)).alloc (.cells #[.slice A2 y.length c2, .int .u64 (n : Int), .int .i64 1] 25)) w') => t1.later hb (by omega)
  have B2 := Lib.hid fun w' (hb : Below ((W1.alloc (.cells #[.slice A1 x.length c1, .int .u64 (m : Int), .int .i64 1] 25)).alloc (.cells #[.slice A2 y.length c2, .int .u64 (n : Int), .int .i64 1] 25)).heap.size ((W1.alloc (.cells #[.slice A1 x.length c1, .int .u64 (m : Int), .int .i64 1] 25)).alloc (.cells #[.slice A2 y.length c2, .int .u64 (n : Int), .int .i64 1] 25)) w') => t2.later hb (by omega)
  obtain ⟨p1, p2, p3⟩ := t1
  obtain ⟨p4, p5, p6⟩ := t2
  clear hb0 hz
  go_wp2_with fail
  clear r1 r2 p1 p2 p3 p4 p5 p6
  generalize ((W1.alloc (.cells #[.slice A1 x.length c1, .int .u64 (m : Int), .int .i64 1] 25)).alloc (.cells #[.slice A2 y.length c2, .int .u64 (n : Int), .int .i64 1] 25)) = W0 at HB0 HB0' HZ R1 R2 B1 B2 ⊢
  refine wp_region_held_drew (S := fun w' => Hid (Below W0.heap.size W0 w')) (by kernel_rfl) (Lib.hid (Below.refl _ _).drew) (fun hS => ?_)
  refine wpAnyH_take (i := 0) (v := ?_) rfl (by kernel_rfl) (by kernel_rfl) (by kernel_rfl) (fun _ _ _ h => h) (Or.inl ⟨by rfl, ?_⟩) hS ?_
  rotate_left
  · intro w hw
    obtain ⟨p1, p2, p3⟩ := B1.out w hw.out
    obtain ⟨p4, p5, p6⟩ := B2.out w hw.out
    go_simp
    try with_reducible rfl
  try simp only [Act.put, List.getElem_toArray, List.getElem_cons_succ, List.getElem_cons_zero, List.setIfInBounds_toArray, List.set_cons_zero, List.set_cons_succ]
  refine wpAnyH_take (i := 1) (v := ?_) rfl (by kernel_rfl) (by kernel_rfl) (by kernel_rfl) (fun _ _ _ h => h) (Or.inl ⟨by rfl, ?_⟩) hS ?_
  rotate_left
  · intro w hw
    obtain ⟨p1, p2, p3⟩ := B1.out w hw.out
    obtain ⟨p4, p5, p6⟩ := B2.out w hw.out
    go_simp
    try with_reducible rfl
  try simp only [Act.put, List.getElem_toArray, List.getElem_cons_succ, List.getElem_cons_zero, List.setIfInBounds_toArray, List.set_cons_zero, List.set_cons_succ]
  refine wpAnyH_take (i := 4) (v := ?_) rfl (by kernel_rfl) (by kernel_rfl) (by kernel_rfl) (fun _ _ _ h => h) (Or.inl ⟨by rfl, ?_⟩) hS ?_
  rotate_left
  · intro w hw
    go_simp
    try with_reducible rfl
  try simp only [Act.put, List.getElem_toArray, List.getElem_cons_succ, List.getElem_cons_zero, List.setIfInBounds_toArray, List.set_cons_zero, List.set_cons_succ]
  refine wpAnyH_take (i := 5) (v := ?_) rfl (by kernel_rfl) (by kernel_rfl) (by kernel_rfl) (fun _ _ _ h => h) (Or.inl ⟨by rfl, ?_⟩) hS ?_
  rotate_left
  · intro w hw
    have e1 := R1.out w hw.out
    have e2 := R2.out w hw.out
    go_simp
    try with_reducible rfl
  try simp only [Act.put, List.getElem_toArray, List.getElem_cons_succ, List.getElem_cons_zero, List.setIfInBounds_toArray, List.set_cons_zero, List.set_cons_succ]
  refine wpAnyH_take (i := 6) (v := ?_) rfl (by kernel_rfl) (by kernel_rfl) (by kernel_rfl) (fun _ _ _ h => h) (Or.inl ⟨by rfl, ?_⟩) hS ?_
  rotate_left
  · intro w hw
    go_simp
    try with_reducible rfl
  try simp only [Act.put, List.getElem_toArray, List.getElem_cons_succ, List.getElem_cons_zero, List.setIfInBounds_toArray, List.set_cons_zero, List.set_cons_succ]
  refine wpAnyH_take (i := 7) (v := ?_) rfl (by kernel_rfl) (by kernel_rfl) (by kernel_rfl) (fun _ _ _ h => h) (Or.inl ⟨by rfl, ?_⟩) hS ?_
  rotate_left
  · intro w hw
    have e1 := R1.out w hw.out
    have e2 := R2.out w hw.out
    go_simp
    try with_reducible rfl
  try simp only [Act.put, List.getElem_toArray, List.getElem_cons_succ, List.getElem_cons_zero, List.setIfInBounds_toArray, List.set_cons_zero, List.set_cons_succ]
  refine wpAnyH_take (i := 8) (v := ?_) rfl (by kernel_rfl) (by kernel_rfl) (by kernel_rfl) (fun _ _ _ h => h) (Or.inl ⟨by rfl, ?_⟩) hS ?_
  rotate_left
  · intro w hw
    go_simp
    try with_reducible rfl
  try simp only [Act.put, List.getElem_toArray, List.getElem_cons_succ, List.getElem_cons_zero, List.setIfInBounds_toArray, List.set_cons_zero, List.set_cons_succ]
  refine wpAnyH_ready (rs := [2]) (by kernel_rfl) (by simp) ?_
  refine AllReadyH.cons rfl (fun K hK => ?_) AllReadyH.nil
  go_simp
  have HX0 := Lib.hid (HB0.out.trans (hS.out.mono HB0.out.size))
  refine (cmp_as v A1 A2 c1 c2 (kk x m) (kk y n) _ V.out (AT1.out _ HX0.out) (AT2.out _ HX0.out)).mono ?_
  rintro e W3 ⟨rfl, hb⟩
  have H3 := Lib.hid (hS.out.trans (hb.mono hS.out.size))
  have HX1 := Lib.hid (HX0.out.trans (hb.mono HX0.out.size))
  clear hb
  go_wp2_with fail
  refine hK.out _ _ H3 (fun _ => ?_)
  clear hK K hS
  refine wpAnyH_other (S' := fun w' => Hid (Below W3.heap.size W3 w')) (fun w hw => Lib.hid (H3.out.trans (hw.out.mono H3.out.size))) _ _ _ _ ?_
  have hS : Hid (Below W3.heap.size W3 W3) := Lib.hid (Below.refl _ _)
  try simp only [Act.put, List.getElem_toArray, List.getElem_cons_succ, List.getElem_cons_zero, List.setIfInBounds_toArray, List.set_cons_zero, List.set_cons_succ]
  refine wpAnyH_take (i := 3) (v := ?_) rfl (by kernel_rfl) (by kernel_rfl) (by kernel_rfl) (fun _ _ _ h => h) (Or.inl ⟨by rfl, ?_⟩) hS ?_
  rotate_left
  · intro w hw
    go_simp
    try with_reducible rfl
  try simp only [Act.put, List.getElem_toArray, List.getElem_cons_succ, List.getElem_cons_zero, List.setIfInBounds_toArray, List.set_cons_zero, List.set_cons_succ]
  refine wpAnyH_take (i := 9) (v := ?_) rfl (by kernel_rfl) (by kernel_rfl) (by kernel_rfl) (fun _ _ _ h => h) (Or.inl ⟨by rfl, ?_⟩) hS ?_
  rotate_left
  · intro w hw
    go_simp
    try with_reducible rfl
  try simp only [Act.put, List.getElem_toArray, List.getElem_cons_succ, List.getElem_cons_zero, List.setIfInBounds_toArray, List.set_cons_zero, List.set_cons_succ]
  refine wpAnyH_take (i := 10) (v := ?_) rfl (by kernel_rfl) (by kernel_rfl) (by kernel_rfl) (fun _ _ _ h => h) (Or.inl ⟨by rfl, ?_⟩) hS ?_
  rotate_left
  · intro w hw
    go_simp
    try with_reducible rfl
  try simp only [Act.put, List.getElem_toArray, List.getElem_cons_succ, List.getElem_cons_zero, List.setIfInBounds_toArray, List.set_cons_zero, List.set_cons_succ]
  refine wpAnyH_done (by kernel_rfl) ?_ _
  go_wp2_with fail
  go_ret
  exact ⟨by first | rfl | (simp [hl]; done) | (show Ending.returned (.bool _) = Ending.returned (.bool true); simp [hl]), HX1.out⟩

set_option maxRecDepth 100000 in
set_option maxHeartbeats 1600000 in
theorem walk_same (v : Int) (A1 A2 : Option Addr) (c1 c2 m : Nat) (x : List Nat) (w : World) (l1 : Lies w w.heap.size A1 (x.map vb)) (l2 : Lies w w.heap.size A2 (x.map vb)) (X8 : ∀ a, a ∈ x → a < 256) (Y8 : ∀ a, a ∈ x → a < 256)
    (hc1 : x.length ≤ c1) (hm1 : c1 ≤ maxLen) (hc2 : x.length ≤ c2) (hm2 : c2 ≤ maxLen) (b1 : m ≤ 72057594037927935) (b2 : m ≤ 72057594037927935)
    (n1 : 1 ≤ x.length) (n2 : x.length ≤ 100) (n3 : x.length = x.length) (hv : cmpK (kk x m) (kk x m) = v) (hv0 : v = 0) :
    Calls Try.prog 7 #[.slice A1 x.length c1, .slice A2 x.length c2, .int .u64 (m : Int), .int .u64 (m : Int)] w (Yes w) := by
  have hs := str_eq X8 Y8
  have V := Lib.hid hv
  have L1 := Lib.hid l1
  have L2 := Lib.hid l2
  have AT1 := Lib.hid fun w' (hb : Below w.heap.size w w') => kk_at (s := m) ((l1.below hb).up hb.size) hc1 hm1 X8 (by omega)
  have AT2 := Lib.hid fun w' (hb : Below w.heap.size w w') => kk_at (s := m) ((l2.below hb).up hb.size) hc2 hm2 Y8 (by omega)
  have d1 : decide ((x.length : Int) < 1) = false := by simp; omega
  have d2 : decide (100 < (x.length : Int)) = false := by simp; omega
  have d3 : ((x.length : Int) != (x.length : Int)) = false := by first | (simp; done) | (simp; omega)
  have d4 : decide (72057594037927935 < (m : Int)) = false := by simp; omega
  have d4n : decide (72057594037927935 < m) = false := by simp; omega
  have d5 : decide (72057594037927935 < (m : Int)) = false := by simp; omega
  have d5n : decide (72057594037927935 < m) = false := by simp; omega
  rw [show decide (x = x) = true by simp] at hs
  subst hv0
  clear l1 l2 hv n3 X8 Y8
  go_enter Try.func7, Try.ntmps7
  go_wp2_with fail
  refine (alive_any _).mono ?_; rintro e W1 ⟨rfl, hb1⟩
  have HB1 := Lib.hid hb1
  clear hb1
  have hb0 := Joins.below_alloc2 W1 (.cells #[.slice A1 x.length c1, .int .u64 (m : Int), .int .i64 1] 25) (.cells #[.slice A2 x.length c2, .int .u64 (m : Int), .int .i64 1] 25)
  have hz : ((W1.alloc (.cells #[.slice A1 x.length c1, .int .u64 (m : Int), .int .i64 1] 25)).alloc (.cells #[.slice A2 x.length c2, .int .u64 (m : Int), .int .i64 1] 25)).heap.size = W1.heap.size + 2 := by simp
  have t1 : Box ((W1.alloc (.cells #[.slice A1 x.length c1, .int .u64 (m : Int), .int .i64 1] 25)).alloc (.cells #[.slice A2 x.length c2, .int .u64 (m : Int), .int .i64 1] 25)) W1.heap.size A1 c1 (kk x m) := ((Box.new W1 A1 c1 (kk x m)).later (Joins.below_alloc1 _ _) (by simp))
  have t2 : Box ((W1.alloc (.cells #[.slice A1 x.length c1, .int .u64 (m : Int), .int .i64 1] 25)).alloc (.cells #[.slice A2 x.length c2, .int .u64 (m : Int), .int .i64 1] 25)) (W1.heap.size + 1) A2 c2 (kk x m) := by
    have := Box.new (W1.alloc (.cells #[.slice A1 x.length c1, .int .u64 (m : Int), .int .i64 1] 25)) A2 c2 (kk x m)
    rw [show (W1.alloc (.cells #[.slice A1 x.length c1, .int .u64 (m : Int), .int .i64 1] 25)).heap.size = W1.heap.size + 1 by simp] at this
    exact this
  have HB0 := Lib.hid (HB1.out.trans (hb0.mono HB1.out.size))
  have HB0' := Lib.hid hb0
  have HZ := Lib.hid hz
  have r1 := run_str (c := c1) (L1.out.below HB0.out)
  have r2 := run_str (c := c2) (L2.out.below HB0.out)
  have R1 := Lib.hid fun w' (hb : Below ((W1.alloc (.cells #[.slice A1 x.length c1, .int .u64 (m : Int), .int .i64 1] 25)).alloc (.cells #[.slice A2 x.length c2, .int .u64 (m : Int), .int .i64 1] 25)).heap.size ((W1.alloc (.cells #[.slice A1 x.length c1, .int .u64 (m : Int), .int .i64 1] 25)).alloc (.cells #[.slice A2 x.length c2, .int .u64 (m : Int), .int .i64 1] 25)) w') => run_str (c := c1) (L1.out.below (HB0.out.trans (hb.mono HB0.out.size)))
  have R2 := Lib.hid fun w' (hb : Below ((W1.alloc (.cells #[.slice A1 x.length c1, .int .u64 (m : Int), .int .i64 1] 25)).alloc (.cells #[.slice A2 x.length c2, .int .u64 (m : Int), .int .i64 1] 25)).heap.size ((W1.alloc (.cells #[.slice A1 x.length c1, .int .u64 (m : Int), .int .i64 1] 25)).alloc (.cells #[.slice A2 x.length c2, .int .u64 (m : Int), .int .i64 1] 25)) w') => run_str (c := c2) (L2.out.below (HB0.out.trans (hb.mono HB0.out.size)))
  have B1 := Lib.hid fun w' (hb : Below ((W1.alloc (.cells #[.slice A1 x.length c1, .int .u64 (m : Int), .int .i64 1] 25)).alloc (.cells #[.slice A2 x.length c2, .int .u64 (m : Int), .int .i64 1] 25)).heap.size ((W1.alloc (.cells #[.slice A1 x.length c1, .int .u64 (m : Int), .int .i64 1] 25)).alloc (.cells #[.slice A2 x.length c2, .int .u64 (m : Int), .int .i64 1] 25)) w') => t1.later hb (by omega)
  have B2 := Lib.hid fun w' (hb : Below ((W1.alloc (.cells #[.slice A1 x.length c1, .int .u64 (m : Int), .int .i64 1] 25)).alloc (.cells #[.slice A2 x.length c2, .int .u64 (m : Int), .int .i64 1] 25)).heap.size ((W1.alloc (.cells #[.slice A1 x.length c1, .int .u64 (m : Int), .int .i64 1] 25)).alloc (.cells #[.slice A2 x.length c2, .int .u64 (m : Int), .int .i64 1] 25)) w') => t2.later hb (by omega)
  obtain ⟨p1, p2, p3⟩ := t1
  obtain ⟨p4, p5, p6⟩ := t2
  clear hb0 hz
  go_wp2_with fail
  clear r1 r2 p1 p2 p3 p4 p5 p6
  generalize ((W1.alloc (.cells #[.slice A1 x.length c1, .int .u64 (m : Int), .int .i64 1] 25)).alloc (.cells #[.slice A2 x.length c2, .int .u64 (m : Int), .int .i64 1] 25)) = W0 at HB0 HB0' HZ R1 R2 B1 B2 ⊢
  refine (cmp_as 0 A1 A2 c1 c2 (kk x m) (kk x m) _ V.out (AT1.out _ HB0.out) (AT2.out _ HB0.out)).mono ?_
  rintro e W3 ⟨rfl, hb⟩
  have H3 := Lib.hid (HB0.out.trans (hb.mono HB0.out.size))
  clear hb
  go_wp2_with fail
  go_ret
  exact ⟨rfl, H3.out⟩

set_option maxRecDepth 100000 in
set_option maxHeartbeats 1600000 in
theorem walk_other (v : Int) (A1 A2 : Option Addr) (c1 c2 m n : Nat) (x : List Nat) (w : World) (l1 : Lies w w.heap.size A1 (x.map vb)) (l2 : Lies w w.heap.size A2 (x.map vb)) (X8 : ∀ a, a ∈ x → a < 256) (Y8 : ∀ a, a ∈ x → a < 256)
    (hc1 : x.length ≤ c1) (hm1 : c1 ≤ maxLen) (hc2 : x.length ≤ c2) (hm2 : c2 ≤ maxLen) (b1 : m ≤ 72057594037927935) (b2 : n ≤ 72057594037927935)
    (n1 : 1 ≤ x.length) (n2 : x.length ≤ 100) (n3 : x.length = x.length) (hv : cmpK (kk x m) (kk x n) = v) (ne : m ≠ n) (hd : decide (v < 0) = decide (n < m)) :
    Calls Try.prog 7 #[.slice A1 x.length c1, .slice A2 x.length c2, .int .u64 (m : Int), .int .u64 (n : Int)] w (Yes w) := by
  have hs := str_eq X8 Y8
  have V := Lib.hid hv
  have L1 := Lib.hid l1
  have L2 := Lib.hid l2
  have AT1 := Lib.hid fun w' (hb : Below w.heap.size w w') => kk_at (s := m) ((l1.below hb).up hb.size) hc1 hm1 X8 (by omega)
  have AT2 := Lib.hid fun w' (hb : Below w.heap.size w w') => kk_at (s := n) ((l2.below hb).up hb.size) hc2 hm2 Y8 (by omega)
  have d1 : decide ((x.length : Int) < 1) = false := by simp; omega
  have d2 : decide (100 < (x.length : Int)) = false := by simp; omega
  have d3 : ((x.length : Int) != (x.length : Int)) = false := by first | (simp; done) | (simp; omega)
  have d4 : decide (72057594037927935 < (m : Int)) = false := by simp; omega
  have d4n : decide (72057594037927935 < m) = false := by simp; omega
  have d5 : decide (72057594037927935 < (n : Int)) = false := by simp; omega
  have d5n : decide (72057594037927935 < n) = false := by simp; omega
  rw [show decide (x = x) = true by simp] at hs
  have d6 : ((m : Int) == (n : Int)) = false := by rw [beq_eq_false_iff_ne]; omega
  have HLEN : Hid ((bytesK (kk x m)).length = x.length + 8) := Lib.hid (by
    have : okB x.length m 1 = true := by simp [okB]; omega
    unfold bytesK
    rw [if_pos this, List.length_append, low_length])
  clear l1 l2 hv n3 X8 Y8 ne
  go_enter Try.func7, Try.ntmps7
  go_wp2_with fail
  refine (alive_any _).mono ?_; rintro e W1 ⟨rfl, hb1⟩
  have HB1 := Lib.hid hb1
  clear hb1
  have hb0 := Joins.below_alloc2 W1 (.cells #[.slice A1 x.length c1, .int .u64 (m : Int), .int .i64 1] 25) (.cells #[.slice A2 x.length c2, .int .u64 (n : Int), .int .i64 1] 25)
  have hz : ((W1.alloc (.cells #[.slice A1 x.length c1, .int .u64 (m : Int), .int .i64 1] 25)).alloc (.cells #[.slice A2 x.length c2, .int .u64 (n : Int), .int .i64 1] 25)).heap.size = W1.heap.size + 2 := by simp
  have t1 : Box ((W1.alloc (.cells #[.slice A1 x.length c1, .int .u64 (m : Int), .int .i64 1] 25)).alloc (.cells #[.slice A2 x.length c2, .int .u64 (n : Int), .int .i64 1] 25)) W1.heap.size A1 c1 (kk x m) := ((Box.new W1 A1 c1 (kk x m)).later (Joins.below_alloc1 _ _) (by simp))
  have t2 : Box ((W1.alloc (.cells #[.slice A1 x.length c1, .int .u64 (m : Int), .int .i64 1] 25)).alloc (.cells #[.slice A2 x.length c2, .int .u64 (n : Int), .int .i64 1] 25)) (W1.heap.size + 1) A2 c2 (kk x n) := by
    have := Box.new (W1.alloc (.cells #[.slice A1 x.length c1, .int .u64 (m : Int), .int .i64 1] 25)) A2 c2 (kk x n)
    rw [show (W1.alloc (.cells #[.slice A1 x.length c1, .int .u64 (m : Int), .int .i64 1] 25)).heap.size = W1.heap.size + 1 by simp] at this
    exact this
  have HB0 := Lib.hid (HB1.out.trans (hb0.mono HB1.out.size))
  have HB0' := Lib.hid hb0
  have HZ := Lib.hid hz
  have r1 := run_str (c := c1) (L1.out.below HB0.out)
  have r2 := run_str (c := c2) (L2.out.below HB0.out)
  have R1 := Lib.hid fun w' (hb : Below ((W1.alloc (.cells #[.slice A1 x.length c1, .int .u64 (m : Int), .int .i64 1] 25)).alloc (.cells #[.slice A2 x.length c2, .int .u64 (n : Int), .int .i64 1] 25)).heap.size ((W1.alloc (.cells #[.slice A1 x.length c1, .int .u64 (m : Int), .int .i64 1] 25)).alloc (.cells #[.slice A2 x.length c2, .int .u64 (n : Int), .int .i64 1] 25)) w') => run_str (c := c1) (L1.out.below (HB0.out.trans (hb.mono HB0.out.size)))
  have R2 := Lib.hid fun w' (hb : Below ((W1.alloc (.cells #[.slice A1 x.length c1, .int .u64 (m : Int), .int .i64 1] 25)).alloc (.cells #[.slice A2 x.length c2, .int .u64 (n : Int), .int .i64 1] 25)).heap.size ((W1.alloc (.cells #[.slice A1 x.length c1, .int .u64 (m : Int), .int .i64 1] 25)).alloc (.cells #[.slice A2 x.length c2, .int .u64 (n : Int), .int .i64 1] 25)) w') => run_str (c := c2) (L2.out.below (HB0.out.trans (hb.mono HB0.out.size)))
  have B1 := Lib.hid fun w' (hb : Below ((W1.alloc (.cells #[.slice A1 x.length c1, .int .u64 (m : Int), .int .i64 1] 25)).alloc (.cells #[.slice A2 x.length c2, .int .u64 (n : Int), .int .i64 1] 25)).heap.size ((W1.alloc (.cells #[.slice A1 x.length c1, .int .u64 (m : Int), .int .i64 1] 25)).alloc (.cells #[.slice A2 x.length c2, .int .u64 (n : Int), .int .i64 1] 25)) w') => t1.later hb (by omega)
  have B2 := Lib.hid fun w' (hb : Below ((W1.alloc (.cells #[.slice A1 x.length c1, .int .u64 (m : Int), .int .i64 1] 25)).alloc (.cells #[.slice A2 x.length c2, .int .u64 (n : Int), .int .i64 1] 25)).heap.size ((W1.alloc (.cells #[.slice A1 x.length c1, .int .u64 (m : Int), .int .i64 1] 25)).alloc (.cells #[.slice A2 x.length c2, .int .u64 (n : Int), .int .i64 1] 25)) w') => t2.later hb (by omega)
  obtain ⟨p1, p2, p3⟩ := t1
  obtain ⟨p4, p5, p6⟩ := t2
  clear hb0 hz
  go_wp2_with fail
  clear r1 r2 p1 p2 p3 p4 p5 p6
  generalize ((W1.alloc (.cells #[.slice A1 x.length c1, .int .u64 (m : Int), .int .i64 1] 25)).alloc (.cells #[.slice A2 x.length c2, .int .u64 (n : Int), .int .i64 1] 25)) = W0 at HB0 HB0' HZ R1 R2 B1 B2 ⊢
  refine (cmp_as v A1 A2 c1 c2 (kk x m) (kk x n) _ V.out (AT1.out _ HB0.out) (AT2.out _ HB0.out)).mono ?_
  rintro e W3 ⟨rfl, hb⟩
  have H3 := Lib.hid (HB0.out.trans (hb.mono HB0.out.size))
  obtain ⟨p1, p2, p3⟩ := B1.out _ hb
  clear hb
  by_cases lt : n < m
  · rw [decide_eq_true lt, decide_eq_true_iff] at hd
    have e1 : decide (v < 0) = true := by simpa using hd
    have e2 : decide ((n : Int) < (m : Int)) = true := by simp; omega
    have e3 : decide (n < m) = true := by simp; omega
    clear hd lt
    go_wp2_with fail
    refine (bytes_any A1 c1 (kk x m) W3 (AT1.out _ H3.out)).mono ?_
    intro e W4 hm4
    obtain ⟨A4, c4, rfl, _, _, _, hb4⟩ := hm4.parts
    have H4 := Lib.hid (H3.out.trans (hb4.mono H3.out.size))
    rw [HLEN.out]
    clear hm4 hb4
    go_wp2_with fail
    go_ret
    exact ⟨rfl, H4.out⟩
  · rw [decide_eq_false lt, decide_eq_false_iff_not] at hd
    have e1 : decide (v < 0) = false := by simpa using hd
    have e2 : decide ((n : Int) < (m : Int)) = false := by simp; omega
    have e3 : decide (n < m) = false := by simp; omega
    clear hd lt
    go_wp2_with fail
    refine (bytes_any A1 c1 (kk x m) W3 (AT1.out _ H3.out)).mono ?_
    intro e W4 hm4
    obtain ⟨A4, c4, rfl, _, _, _, hb4⟩ := hm4.parts
    have H4 := Lib.hid (H3.out.trans (hb4.mono H3.out.size))
    rw [HLEN.out]
    clear hm4 hb4
    go_wp2_with fail
    go_ret
    exact ⟨rfl, H4.out⟩

set_option maxRecDepth 100000 in
theorem lifted (os : Os) (started : os.Started) (H : Type) (enc : TypeId × Value → H) :
    ReturnsInHanded {} Try.checked os 7 .any (Rows.ikeyBytesOrderSpec.pre6 enc Try.prog Try.f7 Rows.ikeyBytesOrderRow.domain false) (Rows.ikeyBytesOrderSpec.post enc Try.prog Try.f7 false true false false) := by
  refine lift_true (C := Try.checked) own started (by kernel_rfl) Try.func7
    (ChangeSpec.witness6 (enc := enc) (C := Try.checked) false ⟨#[], #[.slice none 0 0, .slice none 0 0, .int .u64 0, .int .u64 0], []⟩ 8 (by kernel_rfl) (by kernel_rfl) (by kernel_rfl) (by kernel_rfl))
    (by kernel_rfl) (by kernel_rfl) (by kernel_rfl) Try.underlying4 rfl ?_ ?_
  · intro ds hds
    match ds, hds with
    | [d1, d2, d3, d4], _ => exact ⟨rfl, rfl, rfl⟩
  · intro W base args ds p hval0 hA0 hlt _
    have hval : ∀ (j : Nat) t v, Try.f7.params[j]? = some t → args[j]? = some v → Value.okWide Try.prog W .any base t v := hval0
    have hA : DataW.TrodAll enc Try.prog W 0 (fun _ => true) true Try.f7.params.toList args.toList ds p := hA0
    rw [Try.params7] at hA hval
    obtain ⟨v0, vs0, d0, ds0, p0, q0, hargs, rfl, rfl, h0, r0⟩ := trodAll_cons hA
    obtain ⟨v1, vs1, d1, ds1, p1, q1, rfl, rfl, rfl, h1, r1⟩ := trodAll_cons r0
    obtain ⟨v2, vs2, d2, ds2, p2, q2, rfl, rfl, rfl, h2, r2⟩ := trodAll_cons r1
    obtain ⟨v3, vs3, d3, ds3, p3, q3, rfl, rfl, rfl, h3, r3⟩ := trodAll_cons r2
    obtain ⟨rfl, rfl, rfl⟩ := trodAll_nil r3
    obtain rfl : args = #[v0, v1, v2, v3] := by cases args; simp_all
    obtain ⟨A0, c0, zs0, rfl, hc0, hm0, hl0, hw0⟩ := open_nums Try.underlying22 Try.underlying5 (by kernel_rfl) (hval 0 _ v0 rfl rfl) h0 (fun x hx => hlt x (by simp [hx]))
    obtain ⟨bs0, rfl, hz0⟩ := as_nat zs0 fun n hn => (u8_of (hw0 n hn)).1
    have hbs0 := fun b hb => (u8_of (hw0 _ (hz0 b hb))).2
    rw [List.length_map] at hc0 ⊢
    rw [List.map_map] at hl0
    obtain ⟨A1, c1, zs1, rfl, hc1, hm1, hl1, hw1⟩ := open_nums Try.underlying22 Try.underlying5 (by kernel_rfl) (hval 1 _ v1 rfl rfl) h1 (fun x hx => hlt x (by simp [hx]))
    obtain ⟨bs1, rfl, hz1⟩ := as_nat zs1 fun n hn => (u8_of (hw1 n hn)).1
    have hbs1 := fun b hb => (u8_of (hw1 _ (hz1 b hb))).2
    rw [List.length_map] at hc1 ⊢
    rw [List.map_map] at hl1
    obtain ⟨a2, rfl, rfl, rfl, w2⟩ := open_int Try.underlying23 (hval 2 _ v2 rfl rfl) h2
    have b2 := u64_of w2
    obtain ⟨a3, rfl, rfl, rfl, w3⟩ := open_int Try.underlying23 (hval 3 _ v3 rfl rfl) h3
    have b3 := u64_of w3
    obtain ⟨m, rfl⟩ := Int.eq_ofNat_of_zero_le b2.1
    obtain ⟨n, rfl⟩ := Int.eq_ofNat_of_zero_le b3.1
    have x8 : ∀ a, a ∈ bs0 → a < 256 := fun a ha => by have := hbs0 a ha; omega
    have y8 : ∀ a, a ∈ bs1 → a < 256 := fun a ha => by have := hbs1 a ha; omega
    by_cases h : bs0.length < 1 ∨ 100 < bs0.length ∨ bs0.length ≠ bs1.length ∨ 72057594037927935 < m ∨ 72057594037927935 < n
    · exact walk_out A0 A1 c0 c1 m n bs0 bs1 W h
    · by_cases q : bs0 = bs1
      · subst q
        by_cases e : m = n
        · subst e
          exact walk_same _ A0 A1 c0 c1 m bs0 W hl0 hl1 x8 y8 hc0 hm0 hc1 hm1 (by omega) (by omega) (by omega) (by omega) rfl rfl (cmpK_self _)
        · refine walk_other _ A0 A1 c0 c1 m n bs0 W hl0 hl1 x8 y8 hc0 hm0 hc1 hm1 (by omega) (by omega) (by omega) (by omega) rfl rfl e ?_
          rw [cmpK_near (a := kk bs0 m) (b := kk bs0 n) rfl, if_neg e]
          have := cmp3_lt (n : Int) m
          have := cmp3_one (n : Int) m
          by_cases e2 : n < m
          · rw [decide_eq_true e2, decide_eq_true_iff]; show cmp3 (n : Int) m < 0; omega
          · rw [decide_eq_false e2, decide_eq_false_iff_not]; show ¬ cmp3 (n : Int) m < 0; omega
      · exact walk_far _ A0 A1 c0 c1 m n bs0 bs1 W hl0 hl1 x8 y8 hc0 hm0 hc1 hm1 (by omega) (by omega) (by omega) (by omega) (by omega) rfl q

theorem over : Rows.ikeyBytesOrderRow.holds Try.pinned (OpenSpec.ofChange Rows.ikeyBytesOrderSpec) :=
  OpenClaim.holds_of_wide 7 Try.f7 rfl rfl rfl rfl rfl rfl rfl ⟨rfl, rfl, rfl, rfl, rfl⟩ rfl rfl rfl rfl rfl (by kernel_rfl) Try.func7 (by kernel_rfl)
    (of_decide_eq_true (by kernel_rfl)) (by unfold Func.isWrapper; first | (rw [if_pos (by decide +kernel)]; kernel_rfl) | (rw [if_neg (by decide +kernel)]; exact ⟨rfl, rfl⟩))
    (fun os started H enc _ => lifted os started H enc)

theorem proved : Rows.IkeyBytesOrderSaid :=
  over
#print axioms proved
end Go.Proofs.Ythbiphchongmgaa.ikeyBytesOrder
