/- Proved: for any two user keys and three numbers, IkeyNewest of butterylaw4 answers true (of keys with one user key the one with the greater number is first, and no key with another user key is between them), and its arguments read as before. Conditions: none beyond what the given row states. -/
import Derived.Test.YthbiphchongmgaaKopen
namespace Go.Proofs.Ythbiphchongmgaa.ikeyNewest
set_option linter.unusedVariables false
set_option linter.unusedSimpArgs false
open Go.ChangeShapes Go.WideShapes Go.ChangeAt Go.RowKit Lift Ik

theorem own : ownKnob Try.prog.godebug = none := by kernel_rfl

/-- A key of kind 1. -/
abbrev kk (bs : List Nat) (s : Nat) : K := ⟨bs, s, 1⟩
theorem kk_at {W : World} {A : Option Addr} {c : Nat} {bs : List Nat} {s : Nat} (hl : Lies W W.heap.size A (bs.map vb)) (hc : bs.length ≤ c) (hm : c ≤ maxLen) (hb : ∀ x, x ∈ bs → x < 256) (hs : s < 18446744073709551616) :
    At W W.heap.size A c (kk bs s) := ⟨hl, hc, hm, hb, hs, by show (-9223372036854775808 : Int) ≤ 1; decide, by show (1 : Int) ≤ 9223372036854775807; decide⟩
theorem drewB {W w : World} (h : Hid (Below W.heap.size W w)) : Hid (Below W.heap.size W w.drew) := Lib.hid h.out.drew

set_option maxRecDepth 100000 in
set_option maxHeartbeats 400000 in
theorem walk_out (A1 A2 : Option Addr) (c1 c2 s1 s2 s3 : Nat) (x y : List Nat) (w : World) (l1 : Lies w w.heap.size A1 (x.map vb)) (l2 : Lies w w.heap.size A2 (y.map vb)) (X8 : ∀ a, a ∈ x → a < 256) (Y8 : ∀ a, a ∈ y → a < 256)
    (h : 100 < x.length ∨ 100 < y.length ∨ x = y) :
    Calls Try.prog 6 #[.slice A1 x.length c1, .slice A2 y.length c2, .int .u64 (s1 : Int), .int .u64 (s2 : Int), .int .u64 (s3 : Int)] w (Yes w) := by
  have L1 := Lib.hid l1
  have L2 := Lib.hid l2
  clear l1 l2
  by_cases n1 : 100 < x.length
  · skip
    go_enter Try.func6, Try.ntmps6
    go_wp2_with fail
    refine (alive_any _).mono ?_; rintro e W1 ⟨rfl, hb1⟩
    have HB1 := Lib.hid hb1
    have r1 := run_str (c := c1) (L1.out.below hb1)
    have r2 := run_str (c := c2) (L2.out.below hb1)
    clear hb1
    go_wp2_with fail
    go_ret
    exact ⟨rfl, HB1.out⟩
  · by_cases n2 : 100 < y.length
    · skip
      go_enter Try.func6, Try.ntmps6
      go_wp2_with fail
      refine (alive_any _).mono ?_; rintro e W1 ⟨rfl, hb1⟩
      have HB1 := Lib.hid hb1
      have r1 := run_str (c := c1) (L1.out.below hb1)
      have r2 := run_str (c := c2) (L2.out.below hb1)
      clear hb1
      go_wp2_with fail
      go_ret
      exact ⟨rfl, HB1.out⟩
    · have q : x = y := h.elim (fun h => absurd h n1) fun h => h.elim (fun h => absurd h n2) id
      have hs := str_eq X8 Y8
      rw [decide_eq_true q] at hs
      clear q h
      go_enter Try.func6, Try.ntmps6
      go_wp2_with fail
      refine (alive_any _).mono ?_; rintro e W1 ⟨rfl, hb1⟩
      have HB1 := Lib.hid hb1
      have r1 := run_str (c := c1) (L1.out.below hb1)
      have r2 := run_str (c := c2) (L2.out.below hb1)
      clear hb1
      go_wp2_with fail
      go_ret
      exact ⟨rfl, HB1.out⟩

set_option maxRecDepth 100000 in
set_option maxHeartbeats 1600000 in
theorem walk (v z : Int) (A1 A2 : Option Addr) (c1 c2 s1 s2 s3 : Nat) (x y : List Nat) (w : World) (l1 : Lies w w.heap.size A1 (x.map vb)) (l2 : Lies w w.heap.size A2 (y.map vb)) (X8 : ∀ a, a ∈ x → a < 256) (Y8 : ∀ a, a ∈ y → a < 256)
    (hc1 : x.length ≤ c1) (hm1 : c1 ≤ maxLen) (hc2 : y.length ≤ c2) (hm2 : c2 ≤ maxLen) (b1 : s1 < 18446744073709551616) (b2 : s2 < 18446744073709551616) (b3 : s3 < 18446744073709551616)
    (n1 : x.length ≤ 100) (n2 : y.length ≤ 100) (q : x ≠ y) (hv : cmpK (kk x s1) (kk x s2) = v) (hz : cmpB x y = z) (hd : decide (v < 0) = decide (s2 < s1)) :
    Calls Try.prog 6 #[.slice A1 x.length c1, .slice A2 y.length c2, .int .u64 (s1 : Int), .int .u64 (s2 : Int), .int .u64 (s3 : Int)] w (Yes w) := by
  have hs := str_eq X8 Y8
  rw [decide_eq_false q] at hs
  have z1 := Lib.hid ((cmpK_far (a := kk x s1) (b := kk y s3) q).trans hz)
  have z2 := Lib.hid ((cmpK_far (a := kk x s2) (b := kk y s3) q).trans hz)
  have V := Lib.hid hv
  have L1 := Lib.hid l1
  have L2 := Lib.hid l2
  have AT1 := Lib.hid fun w' (hb : Below w.heap.size w w') => kk_at ((l1.below hb).up hb.size) hc1 hm1 X8 b1
  have AT2 := Lib.hid fun w' (hb : Below w.heap.size w w') => kk_at ((l1.below hb).up hb.size) hc1 hm1 X8 b2
  have AT3 := Lib.hid fun w' (hb : Below w.heap.size w w') => kk_at ((l2.below hb).up hb.size) hc2 hm2 Y8 b3
  clear l1 l2 hv hz q X8 Y8
  go_enter Try.func6, Try.ntmps6
  go_wp2_with fail
  refine (alive_any _).mono ?_; rintro e W1 ⟨rfl, hb1⟩
  have HB1 := Lib.hid hb1
  have r1 := run_str (c := c1) (L1.out.below hb1)
  have r2 := run_str (c := c2) (L2.out.below hb1)
  clear hb1
  by_cases lt : s2 < s1
  · skip
    rw [decide_eq_true lt, decide_eq_true_iff] at hd
    have d1 : decide (v < 0) = true := by simpa using hd
    have d2 : decide ((s2 : Int) < (s1 : Int)) = true := by simp; omega
    have d3 : decide (s2 < s1) = true := by simp; omega
    clear hd lt
    go_wp2_with fail
    have hb0 := Joins.below_alloc3 W1 (.cells #[.slice A1 x.length c1, .int .u64 (s1 : Int), .int .i64 1] 25) (.cells #[.slice A1 x.length c1, .int .u64 (s2 : Int), .int .i64 1] 25) (.cells #[.slice A2 y.length c2, .int .u64 (s3 : Int), .int .i64 1] 25)
    have hz : (((W1.alloc (.cells #[.slice A1 x.length c1, .int .u64 (s1 : Int), .int .i64 1] 25)).alloc (.cells #[.slice A1 x.length c1, .int .u64 (s2 : Int), .int .i64 1] 25)).alloc (.cells #[.slice A2 y.length c2, .int .u64 (s3 : Int), .int .i64 1] 25)).heap.size = W1.heap.size + 3 := by simp
    have t1 : Box (((W1.alloc (.cells #[.slice A1 x.length c1, .int .u64 (s1 : Int), .int .i64 1] 25)).alloc (.cells #[.slice A1 x.length c1, .int .u64 (s2 : Int), .int .i64 1] 25)).alloc (.cells #[.slice A2 y.length c2, .int .u64 (s3 : Int), .int .i64 1] 25)) W1.heap.size A1 c1 (kk x s1) := ((Box.new W1 A1 c1 (kk x s1)).later (Joins.below_alloc2 _ _ _) (by simp))
    have t2 : Box (((W1.alloc (.cells #[.slice A1 x.length c1, .int .u64 (s1 : Int), .int .i64 1] 25)).alloc (.cells #[.slice A1 x.length c1, .int .u64 (s2 : Int), .int .i64 1] 25)).alloc (.cells #[.slice A2 y.length c2, .int .u64 (s3 : Int), .int .i64 1] 25)) (W1.heap.size + 1) A1 c1 (kk x s2) := by
      have := (Box.new (W1.alloc (.cells #[.slice A1 x.length c1, .int .u64 (s1 : Int), .int .i64 1] 25)) A1 c1 (kk x s2)).later (Joins.below_alloc1 _ (.cells #[.slice A2 y.length c2, .int .u64 (s3 : Int), .int .i64 1] 25)) (by simp)
      rw [show (W1.alloc (.cells #[.slice A1 x.length c1, .int .u64 (s1 : Int), .int .i64 1] 25)).heap.size = W1.heap.size + 1 by simp] at this
      exact this
    have t3 : Box (((W1.alloc (.cells #[.slice A1 x.length c1, .int .u64 (s1 : Int), .int .i64 1] 25)).alloc (.cells #[.slice A1 x.length c1, .int .u64 (s2 : Int), .int .i64 1] 25)).alloc (.cells #[.slice A2 y.length c2, .int .u64 (s3 : Int), .int .i64 1] 25)) (W1.heap.size + 1 + 1) A2 c2 (kk y s3) := by
      have := Box.new ((W1.alloc (.cells #[.slice A1 x.length c1, .int .u64 (s1 : Int), .int .i64 1] 25)).alloc (.cells #[.slice A1 x.length c1, .int .u64 (s2 : Int), .int .i64 1] 25)) A2 c2 (kk y s3)
      rw [show ((W1.alloc (.cells #[.slice A1 x.length c1, .int .u64 (s1 : Int), .int .i64 1] 25)).alloc (.cells #[.slice A1 x.length c1, .int .u64 (s2 : Int), .int .i64 1] 25)).heap.size = W1.heap.size + 1 + 1 by simp] at this
      exact this
    generalize (((W1.alloc (.cells #[.slice A1 x.length c1, .int .u64 (s1 : Int), .int .i64 1] 25)).alloc (.cells #[.slice A1 x.length c1, .int .u64 (s2 : Int), .int .i64 1] 25)).alloc (.cells #[.slice A2 y.length c2, .int .u64 (s3 : Int), .int .i64 1] 25)) = W0 at hb0 hz t1 t2 t3 ⊢
    have HB0 := Lib.hid (HB1.out.trans (hb0.mono HB1.out.size))
    have B1 := Lib.hid fun w' (hb : Below W0.heap.size W0 w') => t1.later hb (by omega)
    have B2 := Lib.hid fun w' (hb : Below W0.heap.size W0 w') => t2.later hb (by omega)
    have B3 := Lib.hid fun w' (hb : Below W0.heap.size W0 w') => t3.later hb (by omega)
    clear hb0 hz t1 t2 t3 r1 r2
    refine (cmp_as v A1 A1 c1 c1 (kk x s1) (kk x s2) W0 V.out (AT1.out _ HB0.out) (AT2.out _ HB0.out)).mono ?_
    rintro e W2 ⟨rfl, hb⟩
    have HB2 := Lib.hid hb
    clear hb
    go_wp2_with fail
    refine wp_region_held_drew (S := fun w' => Hid (Below W2.heap.size W2 w')) (by kernel_rfl) (Lib.hid (Below.refl _ _).drew) (fun hS => ?_)
    refine wpAnyH_take (i := 0) (v := ?_) rfl (by kernel_rfl) (by kernel_rfl) (by kernel_rfl) (fun _ _ _ h => h) (Or.inl ⟨by rfl, ?_⟩) hS ?_
    rotate_left
    · intro w hw
      obtain ⟨p1, p2, p3⟩ := B1.out w (HB2.out.trans (hw.out.mono HB2.out.size))
      obtain ⟨p4, p5, p6⟩ := B2.out w (HB2.out.trans (hw.out.mono HB2.out.size))
      obtain ⟨p7, p8, p9⟩ := B3.out w (HB2.out.trans (hw.out.mono HB2.out.size))
      go_simp
      try with_reducible rfl
    try simp only [Act.put, List.getElem_toArray, List.getElem_cons_succ, List.getElem_cons_zero, List.setIfInBounds_toArray, List.set_cons_zero, List.set_cons_succ]
    refine wpAnyH_take (i := 1) (v := ?_) rfl (by kernel_rfl) (by kernel_rfl) (by kernel_rfl) (fun _ _ _ h => h) (Or.inl ⟨by rfl, ?_⟩) hS ?_
    rotate_left
    · intro w hw
      obtain ⟨p1, p2, p3⟩ := B1.out w (HB2.out.trans (hw.out.mono HB2.out.size))
      obtain ⟨p4, p5, p6⟩ := B2.out w (HB2.out.trans (hw.out.mono HB2.out.size))
      obtain ⟨p7, p8, p9⟩ := B3.out w (HB2.out.trans (hw.out.mono HB2.out.size))
      go_simp
      try with_reducible rfl
    try simp only [Act.put, List.getElem_toArray, List.getElem_cons_succ, List.getElem_cons_zero, List.setIfInBounds_toArray, List.set_cons_zero, List.set_cons_succ]
    refine wpAnyH_take (i := 3) (v := ?_) rfl (by kernel_rfl) (by kernel_rfl) (by kernel_rfl) (fun _ _ _ h => h) (Or.inl ⟨by rfl, ?_⟩) hS ?_
    rotate_left
    · intro w hw
      obtain ⟨p1, p2, p3⟩ := B1.out w (HB2.out.trans (hw.out.mono HB2.out.size))
      obtain ⟨p4, p5, p6⟩ := B2.out w (HB2.out.trans (hw.out.mono HB2.out.size))
      obtain ⟨p7, p8, p9⟩ := B3.out w (HB2.out.trans (hw.out.mono HB2.out.size))
      go_simp
      try with_reducible rfl
    try simp only [Act.put, List.getElem_toArray, List.getElem_cons_succ, List.getElem_cons_zero, List.setIfInBounds_toArray, List.set_cons_zero, List.set_cons_succ]
    refine wpAnyH_take (i := 4) (v := ?_) rfl (by kernel_rfl) (by kernel_rfl) (by kernel_rfl) (fun _ _ _ h => h) (Or.inl ⟨by rfl, ?_⟩) hS ?_
    rotate_left
    · intro w hw
      obtain ⟨p1, p2, p3⟩ := B1.out w (HB2.out.trans (hw.out.mono HB2.out.size))
      obtain ⟨p4, p5, p6⟩ := B2.out w (HB2.out.trans (hw.out.mono HB2.out.size))
      obtain ⟨p7, p8, p9⟩ := B3.out w (HB2.out.trans (hw.out.mono HB2.out.size))
      go_simp
      try with_reducible rfl
    try simp only [Act.put, List.getElem_toArray, List.getElem_cons_succ, List.getElem_cons_zero, List.setIfInBounds_toArray, List.set_cons_zero, List.set_cons_succ]
    refine wpAnyH_ready (rs := [2]) (by kernel_rfl) (by simp) ?_
    refine AllReadyH.cons rfl (fun K hK => ?_) AllReadyH.nil
    go_simp
    have HX0 := Lib.hid (HB0.out.trans ((HB2.out.trans (hS.out.mono HB2.out.size)).mono HB0.out.size))
    refine (cmp_as z A1 A2 c1 c2 (kk x s1) (kk y s3) _ z1.out (AT1.out _ HX0.out) (AT3.out _ HX0.out)).mono ?_
    rintro e W3 ⟨rfl, hb⟩
    have H3 := Lib.hid (hS.out.trans (hb.mono hS.out.size))
    clear hb
    go_wp2_with fail
    refine hK.out _ _ H3 (fun _ => ?_)
    clear hK K hS
    refine wpAnyH_other (S' := fun w' => Hid (Below W3.heap.size W3 w')) (fun w hw => Lib.hid (H3.out.trans (hw.out.mono H3.out.size))) _ _ _ _ ?_
    have hS : Hid (Below W3.heap.size W3 W3) := Lib.hid (Below.refl _ _)
    try simp only [Act.put, List.getElem_toArray, List.getElem_cons_succ, List.getElem_cons_zero, List.setIfInBounds_toArray, List.set_cons_zero, List.set_cons_succ]
    refine wpAnyH_ready (rs := [5]) (by kernel_rfl) (by simp) ?_
    refine AllReadyH.cons rfl (fun K hK => ?_) AllReadyH.nil
    go_simp
    have HX1 := Lib.hid (HB0.out.trans ((HB2.out.trans (H3.out.mono HB2.out.size)).mono HB0.out.size))
    refine (cmp_as z A1 A2 c1 c2 (kk x s2) (kk y s3) _ z2.out (AT2.out _ HX1.out) (AT3.out _ HX1.out)).mono ?_
    rintro e W4 ⟨rfl, hb⟩
    have H4 := Lib.hid (hS.out.trans (hb.mono hS.out.size))
    have HX2 := Lib.hid (HX1.out.trans (hb.mono HX1.out.size))
    clear hb
    go_wp2_with fail
    refine hK.out _ _ H4 (fun _ => ?_)
    clear hK K hS
    refine wpAnyH_other (S' := fun w' => Hid (Below W4.heap.size W4 w')) (fun w hw => Lib.hid (H4.out.trans (hw.out.mono H4.out.size))) _ _ _ _ ?_
    have hS : Hid (Below W4.heap.size W4 W4) := Lib.hid (Below.refl _ _)
    try simp only [Act.put, List.getElem_toArray, List.getElem_cons_succ, List.getElem_cons_zero, List.setIfInBounds_toArray, List.set_cons_zero, List.set_cons_succ]
    refine wpAnyH_take (i := 6) (v := ?_) rfl (by kernel_rfl) (by kernel_rfl) (by kernel_rfl) (fun _ _ _ h => h) (Or.inl ⟨by rfl, ?_⟩) hS ?_
    rotate_left
    · intro w hw
      go_simp
      try with_reducible rfl
    try simp only [Act.put, List.getElem_toArray, List.getElem_cons_succ, List.getElem_cons_zero, List.setIfInBounds_toArray, List.set_cons_zero, List.set_cons_succ]
    refine wpAnyH_take (i := 7) (v := ?_) rfl (by kernel_rfl) (by kernel_rfl) (by kernel_rfl) (fun _ _ _ h => h) (Or.inl ⟨by rfl, ?_⟩) hS ?_
    rotate_left
    · intro w hw
      go_simp
      try with_reducible rfl
    try simp only [Act.put, List.getElem_toArray, List.getElem_cons_succ, List.getElem_cons_zero, List.setIfInBounds_toArray, List.set_cons_zero, List.set_cons_succ]
    refine wpAnyH_done (by kernel_rfl) ?_ _
    go_wp2_with fail
    go_ret
    exact ⟨rfl, HX2.out⟩
  · skip
    rw [decide_eq_false lt, decide_eq_false_iff_not] at hd
    have d1 : decide (v < 0) = false := by simpa using hd
    have d2 : decide ((s2 : Int) < (s1 : Int)) = false := by simp; omega
    have d3 : decide (s2 < s1) = false := by simp; omega
    clear hd lt
    go_wp2_with fail
    have hb0 := Joins.below_alloc3 W1 (.cells #[.slice A1 x.length c1, .int .u64 (s1 : Int), .int .i64 1] 25) (.cells #[.slice A1 x.length c1, .int .u64 (s2 : Int), .int .i64 1] 25) (.cells #[.slice A2 y.length c2, .int .u64 (s3 : Int), .int .i64 1] 25)
    have hz : (((W1.alloc (.cells #[.slice A1 x.length c1, .int .u64 (s1 : Int), .int .i64 1] 25)).alloc (.cells #[.slice A1 x.length c1, .int .u64 (s2 : Int), .int .i64 1] 25)).alloc (.cells #[.slice A2 y.length c2, .int .u64 (s3 : Int), .int .i64 1] 25)).heap.size = W1.heap.size + 3 := by simp
    have t1 : Box (((W1.alloc (.cells #[.slice A1 x.length c1, .int .u64 (s1 : Int), .int .i64 1] 25)).alloc (.cells #[.slice A1 x.length c1, .int .u64 (s2 : Int), .int .i64 1] 25)).alloc (.cells #[.slice A2 y.length c2, .int .u64 (s3 : Int), .int .i64 1] 25)) W1.heap.size A1 c1 (kk x s1) := ((Box.new W1 A1 c1 (kk x s1)).later (Joins.below_alloc2 _ _ _) (by simp))
    have t2 : Box (((W1.alloc (.cells #[.slice A1 x.length c1, .int .u64 (s1 : Int), .int .i64 1] 25)).alloc (.cells #[.slice A1 x.length c1, .int .u64 (s2 : Int), .int .i64 1] 25)).alloc (.cells #[.slice A2 y.length c2, .int .u64 (s3 : Int), .int .i64 1] 25)) (W1.heap.size + 1) A1 c1 (kk x s2) := by
      have := (Box.new (W1.alloc (.cells #[.slice A1 x.length c1, .int .u64 (s1 : Int), .int .i64 1] 25)) A1 c1 (kk x s2)).later (Joins.below_alloc1 _ (.cells #[.slice A2 y.length c2, .int .u64 (s3 : Int), .int .i64 1] 25)) (by simp)
      rw [show (W1.alloc (.cells #[.slice A1 x.length c1, .int .u64 (s1 : Int), .int .i64 1] 25)).heap.size = W1.heap.size + 1 by simp] at this
      exact this
    have t3 : Box (((W1.alloc (.cells #[.slice A1 x.length c1, .int .u64 (s1 : Int), .int .i64 1] 25)).alloc (.cells #[.slice A1 x.length c1, .int .u64 (s2 : Int), .int .i64 1] 25)).alloc (.cells #[.slice A2 y.length c2, .int .u64 (s3 : Int), .int .i64 1] 25)) (W1.heap.size + 1 + 1) A2 c2 (kk y s3) := by
      have := Box.new ((W1.alloc (.cells #[.slice A1 x.length c1, .int .u64 (s1 : Int), .int .i64 1] 25)).alloc (.cells #[.slice A1 x.length c1, .int .u64 (s2 : Int), .int .i64 1] 25)) A2 c2 (kk y s3)
      rw [show ((W1.alloc (.cells #[.slice A1 x.length c1, .int .u64 (s1 : Int), .int .i64 1] 25)).alloc (.cells #[.slice A1 x.length c1, .int .u64 (s2 : Int), .int .i64 1] 25)).heap.size = W1.heap.size + 1 + 1 by simp] at this
      exact this
    generalize (((W1.alloc (.cells #[.slice A1 x.length c1, .int .u64 (s1 : Int), .int .i64 1] 25)).alloc (.cells #[.slice A1 x.length c1, .int .u64 (s2 : Int), .int .i64 1] 25)).alloc (.cells #[.slice A2 y.length c2, .int .u64 (s3 : Int), .int .i64 1] 25)) = W0 at hb0 hz t1 t2 t3 ⊢
    have HB0 := Lib.hid (HB1.out.trans (hb0.mono HB1.out.size))
    have B1 := Lib.hid fun w' (hb : Below W0.heap.size W0 w') => t1.later hb (by omega)
    have B2 := Lib.hid fun w' (hb : Below W0.heap.size W0 w') => t2.later hb (by omega)
    have B3 := Lib.hid fun w' (hb : Below W0.heap.size W0 w') => t3.later hb (by omega)
    clear hb0 hz t1 t2 t3 r1 r2
    refine (cmp_as v A1 A1 c1 c1 (kk x s1) (kk x s2) W0 V.out (AT1.out _ HB0.out) (AT2.out _ HB0.out)).mono ?_
    rintro e W2 ⟨rfl, hb⟩
    have HB2 := Lib.hid hb
    clear hb
    go_wp2_with fail
    refine wp_region_held_drew (S := fun w' => Hid (Below W2.heap.size W2 w')) (by kernel_rfl) (Lib.hid (Below.refl _ _).drew) (fun hS => ?_)
    refine wpAnyH_take (i := 0) (v := ?_) rfl (by kernel_rfl) (by kernel_rfl) (by kernel_rfl) (fun _ _ _ h => h) (Or.inl ⟨by rfl, ?_⟩) hS ?_
    rotate_left
    · intro w hw
      obtain ⟨p1, p2, p3⟩ := B1.out w (HB2.out.trans (hw.out.mono HB2.out.size))
      obtain ⟨p4, p5, p6⟩ := B2.out w (HB2.out.trans (hw.out.mono HB2.out.size))
      obtain ⟨p7, p8, p9⟩ := B3.out w (HB2.out.trans (hw.out.mono HB2.out.size))
      go_simp
      try with_reducible rfl
    try simp only [Act.put, List.getElem_toArray, List.getElem_cons_succ, List.getElem_cons_zero, List.setIfInBounds_toArray, List.set_cons_zero, List.set_cons_succ]
    refine wpAnyH_take (i := 1) (v := ?_) rfl (by kernel_rfl) (by kernel_rfl) (by kernel_rfl) (fun _ _ _ h => h) (Or.inl ⟨by rfl, ?_⟩) hS ?_
    rotate_left
    · intro w hw
      obtain ⟨p1, p2, p3⟩ := B1.out w (HB2.out.trans (hw.out.mono HB2.out.size))
      obtain ⟨p4, p5, p6⟩ := B2.out w (HB2.out.trans (hw.out.mono HB2.out.size))
      obtain ⟨p7, p8, p9⟩ := B3.out w (HB2.out.trans (hw.out.mono HB2.out.size))
      go_simp
      try with_reducible rfl
    try simp only [Act.put, List.getElem_toArray, List.getElem_cons_succ, List.getElem_cons_zero, List.setIfInBounds_toArray, List.set_cons_zero, List.set_cons_succ]
    refine wpAnyH_take (i := 3) (v := ?_) rfl (by kernel_rfl) (by kernel_rfl) (by kernel_rfl) (fun _ _ _ h => h) (Or.inl ⟨by rfl, ?_⟩) hS ?_
    rotate_left
    · intro w hw
      obtain ⟨p1, p2, p3⟩ := B1.out w (HB2.out.trans (hw.out.mono HB2.out.size))
      obtain ⟨p4, p5, p6⟩ := B2.out w (HB2.out.trans (hw.out.mono HB2.out.size))
      obtain ⟨p7, p8, p9⟩ := B3.out w (HB2.out.trans (hw.out.mono HB2.out.size))
      go_simp
      try with_reducible rfl
    try simp only [Act.put, List.getElem_toArray, List.getElem_cons_succ, List.getElem_cons_zero, List.setIfInBounds_toArray, List.set_cons_zero, List.set_cons_succ]
    refine wpAnyH_take (i := 4) (v := ?_) rfl (by kernel_rfl) (by kernel_rfl) (by kernel_rfl) (fun _ _ _ h => h) (Or.inl ⟨by rfl, ?_⟩) hS ?_
    rotate_left
    · intro w hw
      obtain ⟨p1, p2, p3⟩ := B1.out w (HB2.out.trans (hw.out.mono HB2.out.size))
      obtain ⟨p4, p5, p6⟩ := B2.out w (HB2.out.trans (hw.out.mono HB2.out.size))
      obtain ⟨p7, p8, p9⟩ := B3.out w (HB2.out.trans (hw.out.mono HB2.out.size))
      go_simp
      try with_reducible rfl
    try simp only [Act.put, List.getElem_toArray, List.getElem_cons_succ, List.getElem_cons_zero, List.setIfInBounds_toArray, List.set_cons_zero, List.set_cons_succ]
    refine wpAnyH_ready (rs := [2]) (by kernel_rfl) (by simp) ?_
    refine AllReadyH.cons rfl (fun K hK => ?_) AllReadyH.nil
    go_simp
    have HX0 := Lib.hid (HB0.out.trans ((HB2.out.trans (hS.out.mono HB2.out.size)).mono HB0.out.size))
    refine (cmp_as z A1 A2 c1 c2 (kk x s1) (kk y s3) _ z1.out (AT1.out _ HX0.out) (AT3.out _ HX0.out)).mono ?_
    rintro e W3 ⟨rfl, hb⟩
    have H3 := Lib.hid (hS.out.trans (hb.mono hS.out.size))
    clear hb
    go_wp2_with fail
    refine hK.out _ _ H3 (fun _ => ?_)
    clear hK K hS
    refine wpAnyH_other (S' := fun w' => Hid (Below W3.heap.size W3 w')) (fun w hw => Lib.hid (H3.out.trans (hw.out.mono H3.out.size))) _ _ _ _ ?_
    have hS : Hid (Below W3.heap.size W3 W3) := Lib.hid (Below.refl _ _)
    try simp only [Act.put, List.getElem_toArray, List.getElem_cons_succ, List.getElem_cons_zero, List.setIfInBounds_toArray, List.set_cons_zero, List.set_cons_succ]
    refine wpAnyH_ready (rs := [5]) (by kernel_rfl) (by simp) ?_
    refine AllReadyH.cons rfl (fun K hK => ?_) AllReadyH.nil
    go_simp
    have HX1 := Lib.hid (HB0.out.trans ((HB2.out.trans (H3.out.mono HB2.out.size)).mono HB0.out.size))
    refine (cmp_as z A1 A2 c1 c2 (kk x s2) (kk y s3) _ z2.out (AT2.out _ HX1.out) (AT3.out _ HX1.out)).mono ?_
    rintro e W4 ⟨rfl, hb⟩
    have H4 := Lib.hid (hS.out.trans (hb.mono hS.out.size))
    have HX2 := Lib.hid (HX1.out.trans (hb.mono HX1.out.size))
    clear hb
    go_wp2_with fail
    refine hK.out _ _ H4 (fun _ => ?_)
    clear hK K hS
    refine wpAnyH_other (S' := fun w' => Hid (Below W4.heap.size W4 w')) (fun w hw => Lib.hid (H4.out.trans (hw.out.mono H4.out.size))) _ _ _ _ ?_
    have hS : Hid (Below W4.heap.size W4 W4) := Lib.hid (Below.refl _ _)
    try simp only [Act.put, List.getElem_toArray, List.getElem_cons_succ, List.getElem_cons_zero, List.setIfInBounds_toArray, List.set_cons_zero, List.set_cons_succ]
    refine wpAnyH_take (i := 6) (v := ?_) rfl (by kernel_rfl) (by kernel_rfl) (by kernel_rfl) (fun _ _ _ h => h) (Or.inl ⟨by rfl, ?_⟩) hS ?_
    rotate_left
    · intro w hw
      go_simp
      try with_reducible rfl
    try simp only [Act.put, List.getElem_toArray, List.getElem_cons_succ, List.getElem_cons_zero, List.setIfInBounds_toArray, List.set_cons_zero, List.set_cons_succ]
    refine wpAnyH_take (i := 7) (v := ?_) rfl (by kernel_rfl) (by kernel_rfl) (by kernel_rfl) (fun _ _ _ h => h) (Or.inl ⟨by rfl, ?_⟩) hS ?_
    rotate_left
    · intro w hw
      go_simp
      try with_reducible rfl
    try simp only [Act.put, List.getElem_toArray, List.getElem_cons_succ, List.getElem_cons_zero, List.setIfInBounds_toArray, List.set_cons_zero, List.set_cons_succ]
    refine wpAnyH_done (by kernel_rfl) ?_ _
    go_wp2_with fail
    go_ret
    exact ⟨rfl, HX2.out⟩

set_option maxRecDepth 100000 in
theorem lifted (os : Os) (started : os.Started) (H : Type) (enc : TypeId × Value → H) :
    ReturnsInHanded {} Try.checked os 6 .any (Rows.ikeyNewestSpec.pre6 enc Try.prog Try.f6 Rows.ikeyNewestRow.domain false) (Rows.ikeyNewestSpec.post enc Try.prog Try.f6 false true false false) := by
  refine lift_true (C := Try.checked) own started (by kernel_rfl) Try.func6
    (ChangeSpec.witness6 (enc := enc) (C := Try.checked) false ⟨#[], #[.slice none 0 0, .slice none 0 0, .int .u64 0, .int .u64 0, .int .u64 0], []⟩ 8 (by kernel_rfl) (by kernel_rfl) (by kernel_rfl) (by kernel_rfl))
    (by kernel_rfl) (by kernel_rfl) (by kernel_rfl) Try.underlying4 rfl ?_ ?_
  · intro ds hds
    match ds, hds with
    | [d1, d2, d3, d4, d5], _ => exact ⟨rfl, rfl, rfl⟩
  · intro W base args ds p hval0 hA0 hlt _
    have hval : ∀ (j : Nat) t v, Try.f6.params[j]? = some t → args[j]? = some v → Value.okWide Try.prog W .any base t v := hval0
    have hA : DataW.TrodAll enc Try.prog W 0 (fun _ => true) true Try.f6.params.toList args.toList ds p := hA0
    rw [Try.params6] at hA hval
    obtain ⟨v0, vs0, d0, ds0, p0, q0, hargs, rfl, rfl, h0, r0⟩ := trodAll_cons hA
    obtain ⟨v1, vs1, d1, ds1, p1, q1, rfl, rfl, rfl, h1, r1⟩ := trodAll_cons r0
    obtain ⟨v2, vs2, d2, ds2, p2, q2, rfl, rfl, rfl, h2, r2⟩ := trodAll_cons r1
    obtain ⟨v3, vs3, d3, ds3, p3, q3, rfl, rfl, rfl, h3, r3⟩ := trodAll_cons r2
    obtain ⟨v4, vs4, d4, ds4, p4, q4, rfl, rfl, rfl, h4, r4⟩ := trodAll_cons r3
    obtain ⟨rfl, rfl, rfl⟩ := trodAll_nil r4
    obtain rfl : args = #[v0, v1, v2, v3, v4] := by cases args; simp_all
    obtain ⟨A0, c0, zs0, rfl, hc0, hm0, hl0, hw0⟩ := open_nums Try.underlying22 Try.underlying5 (by kernel_rfl) (hval 0 _ v0 rfl rfl) h0 (fun x hx => hlt x (by simp [hx]))
    obtain ⟨bs0, rfl, hz0⟩ := as_nat zs0 fun n hn => (u8_of (hw0 n hn)).1
    have hbs0 := fun b hb => (u8_of (hw0 _ (hz0 b hb))).2
    rw [List.length_map] at hc0 ⊢
    rw [List.map_map] at hl0
    obtain ⟨A1, c1, zs1, rfl, hc1, hm1, hl1, hw1⟩ := open_nums Try.underlying22 Try.underlying5 (by kernel_rfl) (hval 1 _ v1 rfl rfl) h1 (fun x hx => hlt x (by simp [hx]))
    obtain ⟨bs1, rfl, hz1⟩ := as_nat zs1 fun n hn => (u8_of (hw1 n hn)).1
    have hbs1 := fun b hb => (u8_of (hw1 _ (hz1 b hb))).2
    rw [List.length_map] at hc1 ⊢
    rw [List.map_map] at hl1
    obtain ⟨a2, rfl, rfl, rfl, w2⟩ := open_int Try.underlying23 (hval 2 _ v2 rfl rfl) h2
    have b2 := u64_of w2
    obtain ⟨a3, rfl, rfl, rfl, w3⟩ := open_int Try.underlying23 (hval 3 _ v3 rfl rfl) h3
    have b3 := u64_of w3
    obtain ⟨a4, rfl, rfl, rfl, w4⟩ := open_int Try.underlying23 (hval 4 _ v4 rfl rfl) h4
    have b4 := u64_of w4
    obtain ⟨s1, rfl⟩ := Int.eq_ofNat_of_zero_le b2.1
    obtain ⟨s2, rfl⟩ := Int.eq_ofNat_of_zero_le b3.1
    obtain ⟨s3, rfl⟩ := Int.eq_ofNat_of_zero_le b4.1
    have x8 : ∀ a, a ∈ bs0 → a < 256 := fun a ha => by have := hbs0 a ha; omega
    have y8 : ∀ a, a ∈ bs1 → a < 256 := fun a ha => by have := hbs1 a ha; omega
    by_cases h : 100 < bs0.length ∨ 100 < bs1.length ∨ bs0 = bs1
    · exact walk_out A0 A1 c0 c1 s1 s2 s3 bs0 bs1 W hl0 hl1 x8 y8 h
    · refine walk _ _ A0 A1 c0 c1 s1 s2 s3 bs0 bs1 W hl0 hl1 x8 y8 hc0 hm0 hc1 hm1 (by omega) (by omega) (by omega) (by omega) (by omega) (fun e => h (.inr (.inr e))) rfl rfl ?_
      rw [cmpK_near (a := kk bs0 s1) (b := kk bs0 s2) rfl]
      by_cases e : s1 = s2
      · rw [if_pos e, (cmp3_zero _ _).2 rfl]; simp; omega
      · rw [if_neg e]
        have := cmp3_lt (s2 : Int) s1
        have := cmp3_one (s2 : Int) s1
        by_cases e2 : s2 < s1
        · rw [decide_eq_true e2, decide_eq_true_iff]; show cmp3 (s2 : Int) s1 < 0; omega
        · rw [decide_eq_false e2, decide_eq_false_iff_not]; show ¬ cmp3 (s2 : Int) s1 < 0; omega

theorem over : Rows.ikeyNewestRow.holds Try.pinned (OpenSpec.ofChange Rows.ikeyNewestSpec) :=
  OpenClaim.holds_of_wide 6 Try.f6 rfl rfl rfl rfl rfl rfl rfl ⟨rfl, rfl, rfl, rfl, rfl⟩ rfl rfl rfl rfl rfl (by kernel_rfl) Try.func6 (by kernel_rfl)
    (of_decide_eq_true (by kernel_rfl)) (by unfold Func.isWrapper; first | (rw [if_pos (by decide +kernel)]; kernel_rfl) | (rw [if_neg (by decide +kernel)]; exact ⟨rfl, rfl⟩))
    (fun os started H enc _ => lifted os started H enc)

theorem proved : Rows.IkeyNewestSaid :=
  over
#print axioms proved
end Go.Proofs.Ythbiphchongmgaa.ikeyNewest
