/- Proved: for any three keys, IkeyOrders of butterylaw4 answers true (Compare of package ikey agrees with the definition and is a total order), and its arguments read as before. Conditions: none beyond what the given row states. -/
import Derived.Test.YthbiphchongmgaaKopen
namespace Go.Proofs.Ythbiphchongmgaa.ikeyOrders
set_option linter.unusedVariables false
set_option linter.unusedSimpArgs false
open Go.ChangeShapes Go.WideShapes Go.ChangeAt Go.RowKit Lift Ik

theorem own : ownKnob Try.prog.godebug = none := by kernel_rfl

set_option maxRecDepth 100000 in
set_option maxHeartbeats 1600000 in
theorem walk (v u : Int) (A1 A2 A3 : Option Addr) (c1 c2 c3 : Nat) (a b d : K) (w : World) (h1 : At w w.heap.size A1 c1 a) (h2 : At w w.heap.size A2 c2 b) (h3 : At w w.heap.size A3 c3 d)
    (s1 : a.key.length ≤ 100) (s2 : b.key.length ≤ 100) (s3 : d.key.length ≤ 100) (e1 : cmpK a b = v) (e2 : cmpK b d = u) (hv : v = -1 ∨ v = 0 ∨ v = 1) (hu : u = -1 ∨ u = 0 ∨ u = 1) :
    Calls Try.prog 5 #[key A1 c1 a, key A2 c2 b, key A3 c3 d] w (Yes w) := by
  have H1 := Lib.hid h1
  have H2 := Lib.hid h2
  have H3 := Lib.hid h3
  have E1 := Lib.hid e1
  have E2 := Lib.hid e2
  have E3 := Lib.hid ((cmpK_swap a b).trans (by rw [e1]))
  have E4 := Lib.hid (cmpK_self a)
  have E5 : Hid (sameK a b = decide (v = 0)) := Lib.hid (by unfold sameK; rw [← e1]; congr 1; rw [cmpK_zero])
  have E6 := Lib.hid (cmpK_trans a b d)
  have E7 := Lib.hid (cmpK_one a d)
  clear h1 h2 h3 e1 e2
  rcases hv with rfl | rfl | rfl
  · skip
    go_enter Try.func5, Try.ntmps5
    go_wp2_with fail
    have hb0 := Joins.below_alloc3 w (.cells #[.slice A1 a.key.length c1, .int .u64 (a.seq : Int), .int .i64 a.kind] 25) (.cells #[.slice A2 b.key.length c2, .int .u64 (b.seq : Int), .int .i64 b.kind] 25) (.cells #[.slice A3 d.key.length c3, .int .u64 (d.seq : Int), .int .i64 d.kind] 25)
    have hz : (((w.alloc (.cells #[.slice A1 a.key.length c1, .int .u64 (a.seq : Int), .int .i64 a.kind] 25)).alloc (.cells #[.slice A2 b.key.length c2, .int .u64 (b.seq : Int), .int .i64 b.kind] 25)).alloc (.cells #[.slice A3 d.key.length c3, .int .u64 (d.seq : Int), .int .i64 d.kind] 25)).heap.size = w.heap.size + 3 := by simp
    have t1 : Box (((w.alloc (.cells #[.slice A1 a.key.length c1, .int .u64 (a.seq : Int), .int .i64 a.kind] 25)).alloc (.cells #[.slice A2 b.key.length c2, .int .u64 (b.seq : Int), .int .i64 b.kind] 25)).alloc (.cells #[.slice A3 d.key.length c3, .int .u64 (d.seq : Int), .int .i64 d.kind] 25)) w.heap.size A1 c1 a := ((Box.new w A1 c1 a).later (Joins.below_alloc2 _ _ _) (by simp))
    have t2 : Box (((w.alloc (.cells #[.slice A1 a.key.length c1, .int .u64 (a.seq : Int), .int .i64 a.kind] 25)).alloc (.cells #[.slice A2 b.key.length c2, .int .u64 (b.seq : Int), .int .i64 b.kind] 25)).alloc (.cells #[.slice A3 d.key.length c3, .int .u64 (d.seq : Int), .int .i64 d.kind] 25)) (w.heap.size + 1) A2 c2 b := by
      have := (Box.new (w.alloc (.cells #[.slice A1 a.key.length c1, .int .u64 (a.seq : Int), .int .i64 a.kind] 25)) A2 c2 b).later (Joins.below_alloc1 _ (.cells #[.slice A3 d.key.length c3, .int .u64 (d.seq : Int), .int .i64 d.kind] 25)) (by simp)
      rw [show (w.alloc (.cells #[.slice A1 a.key.length c1, .int .u64 (a.seq : Int), .int .i64 a.kind] 25)).heap.size = w.heap.size + 1 by simp] at this
      exact this
    have t3 : Box (((w.alloc (.cells #[.slice A1 a.key.length c1, .int .u64 (a.seq : Int), .int .i64 a.kind] 25)).alloc (.cells #[.slice A2 b.key.length c2, .int .u64 (b.seq : Int), .int .i64 b.kind] 25)).alloc (.cells #[.slice A3 d.key.length c3, .int .u64 (d.seq : Int), .int .i64 d.kind] 25)) (w.heap.size + 2) A3 c3 d := by
      have := Box.new ((w.alloc (.cells #[.slice A1 a.key.length c1, .int .u64 (a.seq : Int), .int .i64 a.kind] 25)).alloc (.cells #[.slice A2 b.key.length c2, .int .u64 (b.seq : Int), .int .i64 b.kind] 25)) A3 c3 d
      rw [show ((w.alloc (.cells #[.slice A1 a.key.length c1, .int .u64 (a.seq : Int), .int .i64 a.kind] 25)).alloc (.cells #[.slice A2 b.key.length c2, .int .u64 (b.seq : Int), .int .i64 b.kind] 25)).heap.size = w.heap.size + 2 by simp] at this
      exact this
    generalize (((w.alloc (.cells #[.slice A1 a.key.length c1, .int .u64 (a.seq : Int), .int .i64 a.kind] 25)).alloc (.cells #[.slice A2 b.key.length c2, .int .u64 (b.seq : Int), .int .i64 b.kind] 25)).alloc (.cells #[.slice A3 d.key.length c3, .int .u64 (d.seq : Int), .int .i64 d.kind] 25)) = W0 at hb0 hz t1 t2 t3 ⊢
    have HB0 := Lib.hid hb0
    have K1 := Lib.hid fun w' (hb : Below W0.heap.size W0 w') => ((H1.out.next (hb0)).next hb)
    have K2 := Lib.hid fun w' (hb : Below W0.heap.size W0 w') => ((H2.out.next (hb0)).next hb)
    have K3 := Lib.hid fun w' (hb : Below W0.heap.size W0 w') => ((H3.out.next (hb0)).next hb)
    have B1 := Lib.hid fun w' (hb : Below W0.heap.size W0 w') => t1.later hb (by omega)
    have B2 := Lib.hid fun w' (hb : Below W0.heap.size W0 w') => t2.later hb (by omega)
    have B3 := Lib.hid fun w' (hb : Below W0.heap.size W0 w') => t3.later hb (by omega)
    clear hb0 hz t1 t2 t3
    refine (alive_any _).mono ?_; rintro e W1 ⟨rfl, hb⟩
    have HB1 := Lib.hid hb
    clear hb
    obtain ⟨p1, p2, p3⟩ := B1.out _ HB1.out
    obtain ⟨p4, p5, p6⟩ := B2.out _ HB1.out
    obtain ⟨p7, p8, p9⟩ := B3.out _ HB1.out
    go_wp2_with fail
    refine (cmp_as _ A1 A2 c1 c2 a b _ E1.out (K1.out _ HB1.out) (K2.out _ HB1.out)).mono ?_
    rintro e W2 ⟨rfl, hb⟩
    have HB2 := Lib.hid (HB1.out.trans (hb.mono HB1.out.size))
    clear hb p1 p2 p3 p4 p5 p6 p7 p8 p9
    obtain ⟨p1, p2, p3⟩ := B1.out _ HB2.out
    obtain ⟨p4, p5, p6⟩ := B2.out _ HB2.out
    obtain ⟨p7, p8, p9⟩ := B3.out _ HB2.out
    go_wp2_with fail
    refine (rcmp_as _ A1 A2 c1 c2 a b _ E1.out (K1.out _ HB2.out) (K2.out _ HB2.out)).mono ?_
    rintro e W3 ⟨rfl, hb⟩
    have HB3 := Lib.hid (HB2.out.trans (hb.mono HB2.out.size))
    clear hb p1 p2 p3 p4 p5 p6 p7 p8 p9
    obtain ⟨p1, p2, p3⟩ := B1.out _ HB3.out
    obtain ⟨p4, p5, p6⟩ := B2.out _ HB3.out
    obtain ⟨p7, p8, p9⟩ := B3.out _ HB3.out
    go_wp2_with fail
    refine (cmp_as _ A2 A1 c2 c1 b a _ E3.out (K2.out _ HB3.out) (K1.out _ HB3.out)).mono ?_
    rintro e W4 ⟨rfl, hb⟩
    have HB4 := Lib.hid (HB3.out.trans (hb.mono HB3.out.size))
    clear hb p1 p2 p3 p4 p5 p6 p7 p8 p9
    obtain ⟨p1, p2, p3⟩ := B1.out _ HB4.out
    obtain ⟨p4, p5, p6⟩ := B2.out _ HB4.out
    obtain ⟨p7, p8, p9⟩ := B3.out _ HB4.out
    go_wp2_with fail
    refine (cmp_as _ A1 A1 c1 c1 a a _ E4.out (K1.out _ HB4.out) (K1.out _ HB4.out)).mono ?_
    rintro e W5 ⟨rfl, hb⟩
    have HB5 := Lib.hid (HB4.out.trans (hb.mono HB4.out.size))
    clear hb p1 p2 p3 p4 p5 p6 p7 p8 p9
    obtain ⟨p1, p2, p3⟩ := B1.out _ HB5.out
    obtain ⟨p4, p5, p6⟩ := B2.out _ HB5.out
    obtain ⟨p7, p8, p9⟩ := B3.out _ HB5.out
    go_wp2_with fail
    refine (same_as _ A1 A2 c1 c2 a b _ E5.out (K1.out _ HB5.out) (K2.out _ HB5.out)).mono ?_
    rintro e W6 ⟨rfl, hb⟩
    have HB6 := Lib.hid (HB5.out.trans (hb.mono HB5.out.size))
    clear hb p1 p2 p3 p4 p5 p6 p7 p8 p9
    rcases hu with rfl | rfl | rfl
    · obtain q | q : cmpK a d = -1 ∨ cmpK a d = 0 := by
        have h6 := E6.out (by rw [E1.out]; decide) (by rw [E2.out]; decide)
        rcases E7.out with h | h | h <;> omega
      · have Q := Lib.hid q
        clear q
        obtain ⟨p1, p2, p3⟩ := B1.out _ HB6.out
        obtain ⟨p4, p5, p6⟩ := B2.out _ HB6.out
        obtain ⟨p7, p8, p9⟩ := B3.out _ HB6.out
        go_wp2_with fail
        refine (cmp_as _ A2 A3 c2 c3 b d _ E2.out (K2.out _ HB6.out) (K3.out _ HB6.out)).mono ?_
        rintro e W7 ⟨rfl, hb⟩
        have HB7 := Lib.hid (HB6.out.trans (hb.mono HB6.out.size))
        clear hb p1 p2 p3 p4 p5 p6 p7 p8 p9
        obtain ⟨p1, p2, p3⟩ := B1.out _ HB7.out
        obtain ⟨p4, p5, p6⟩ := B2.out _ HB7.out
        obtain ⟨p7, p8, p9⟩ := B3.out _ HB7.out
        go_wp2_with fail
        refine (cmp_as _ A1 A3 c1 c3 a d _ Q.out (K1.out _ HB7.out) (K3.out _ HB7.out)).mono ?_
        rintro e W8 ⟨rfl, hb⟩
        have HB8 := Lib.hid (HB7.out.trans (hb.mono HB7.out.size))
        clear hb p1 p2 p3 p4 p5 p6 p7 p8 p9
        go_wp2_with fail
        go_ret
        exact ⟨rfl, HB0.out.trans (HB8.out.mono HB0.out.size)⟩
      · have Q := Lib.hid q
        clear q
        obtain ⟨p1, p2, p3⟩ := B1.out _ HB6.out
        obtain ⟨p4, p5, p6⟩ := B2.out _ HB6.out
        obtain ⟨p7, p8, p9⟩ := B3.out _ HB6.out
        go_wp2_with fail
        refine (cmp_as _ A2 A3 c2 c3 b d _ E2.out (K2.out _ HB6.out) (K3.out _ HB6.out)).mono ?_
        rintro e W7 ⟨rfl, hb⟩
        have HB7 := Lib.hid (HB6.out.trans (hb.mono HB6.out.size))
        clear hb p1 p2 p3 p4 p5 p6 p7 p8 p9
        obtain ⟨p1, p2, p3⟩ := B1.out _ HB7.out
        obtain ⟨p4, p5, p6⟩ := B2.out _ HB7.out
        obtain ⟨p7, p8, p9⟩ := B3.out _ HB7.out
        go_wp2_with fail
        refine (cmp_as _ A1 A3 c1 c3 a d _ Q.out (K1.out _ HB7.out) (K3.out _ HB7.out)).mono ?_
        rintro e W8 ⟨rfl, hb⟩
        have HB8 := Lib.hid (HB7.out.trans (hb.mono HB7.out.size))
        clear hb p1 p2 p3 p4 p5 p6 p7 p8 p9
        go_wp2_with fail
        go_ret
        exact ⟨rfl, HB0.out.trans (HB8.out.mono HB0.out.size)⟩
    · obtain q | q : cmpK a d = -1 ∨ cmpK a d = 0 := by
        have h6 := E6.out (by rw [E1.out]; decide) (by rw [E2.out]; decide)
        rcases E7.out with h | h | h <;> omega
      · have Q := Lib.hid q
        clear q
        obtain ⟨p1, p2, p3⟩ := B1.out _ HB6.out
        obtain ⟨p4, p5, p6⟩ := B2.out _ HB6.out
        obtain ⟨p7, p8, p9⟩ := B3.out _ HB6.out
        go_wp2_with fail
        refine (cmp_as _ A2 A3 c2 c3 b d _ E2.out (K2.out _ HB6.out) (K3.out _ HB6.out)).mono ?_
        rintro e W7 ⟨rfl, hb⟩
        have HB7 := Lib.hid (HB6.out.trans (hb.mono HB6.out.size))
        clear hb p1 p2 p3 p4 p5 p6 p7 p8 p9
        obtain ⟨p1, p2, p3⟩ := B1.out _ HB7.out
        obtain ⟨p4, p5, p6⟩ := B2.out _ HB7.out
        obtain ⟨p7, p8, p9⟩ := B3.out _ HB7.out
        go_wp2_with fail
        refine (cmp_as _ A1 A3 c1 c3 a d _ Q.out (K1.out _ HB7.out) (K3.out _ HB7.out)).mono ?_
        rintro e W8 ⟨rfl, hb⟩
        have HB8 := Lib.hid (HB7.out.trans (hb.mono HB7.out.size))
        clear hb p1 p2 p3 p4 p5 p6 p7 p8 p9
        go_wp2_with fail
        go_ret
        exact ⟨rfl, HB0.out.trans (HB8.out.mono HB0.out.size)⟩
      · have Q := Lib.hid q
        clear q
        obtain ⟨p1, p2, p3⟩ := B1.out _ HB6.out
        obtain ⟨p4, p5, p6⟩ := B2.out _ HB6.out
        obtain ⟨p7, p8, p9⟩ := B3.out _ HB6.out
        go_wp2_with fail
        refine (cmp_as _ A2 A3 c2 c3 b d _ E2.out (K2.out _ HB6.out) (K3.out _ HB6.out)).mono ?_
        rintro e W7 ⟨rfl, hb⟩
        have HB7 := Lib.hid (HB6.out.trans (hb.mono HB6.out.size))
        clear hb p1 p2 p3 p4 p5 p6 p7 p8 p9
        obtain ⟨p1, p2, p3⟩ := B1.out _ HB7.out
        obtain ⟨p4, p5, p6⟩ := B2.out _ HB7.out
        obtain ⟨p7, p8, p9⟩ := B3.out _ HB7.out
        go_wp2_with fail
        refine (cmp_as _ A1 A3 c1 c3 a d _ Q.out (K1.out _ HB7.out) (K3.out _ HB7.out)).mono ?_
        rintro e W8 ⟨rfl, hb⟩
        have HB8 := Lib.hid (HB7.out.trans (hb.mono HB7.out.size))
        clear hb p1 p2 p3 p4 p5 p6 p7 p8 p9
        go_wp2_with fail
        go_ret
        exact ⟨rfl, HB0.out.trans (HB8.out.mono HB0.out.size)⟩
    · skip
      obtain ⟨p1, p2, p3⟩ := B1.out _ HB6.out
      obtain ⟨p4, p5, p6⟩ := B2.out _ HB6.out
      obtain ⟨p7, p8, p9⟩ := B3.out _ HB6.out
      go_wp2_with fail
      refine (cmp_as _ A2 A3 c2 c3 b d _ E2.out (K2.out _ HB6.out) (K3.out _ HB6.out)).mono ?_
      rintro e W7 ⟨rfl, hb⟩
      have HB7 := Lib.hid (HB6.out.trans (hb.mono HB6.out.size))
      clear hb p1 p2 p3 p4 p5 p6 p7 p8 p9
      go_wp2_with fail
      go_ret
      exact ⟨rfl, HB0.out.trans (HB7.out.mono HB0.out.size)⟩
  · skip
    go_enter Try.func5, Try.ntmps5
    go_wp2_with fail
    have hb0 := Joins.below_alloc3 w (.cells #[.slice A1 a.key.length c1, .int .u64 (a.seq : Int), .int .i64 a.kind] 25) (.cells #[.slice A2 b.key.length c2, .int .u64 (b.seq : Int), .int .i64 b.kind] 25) (.cells #[.slice A3 d.key.length c3, .int .u64 (d.seq : Int), .int .i64 d.kind] 25)
    have hz : (((w.alloc (.cells #[.slice A1 a.key.length c1, .int .u64 (a.seq : Int), .int .i64 a.kind] 25)).alloc (.cells #[.slice A2 b.key.length c2, .int .u64 (b.seq : Int), .int .i64 b.kind] 25)).alloc (.cells #[.slice A3 d.key.length c3, .int .u64 (d.seq : Int), .int .i64 d.kind] 25)).heap.size = w.heap.size + 3 := by simp
    have t1 : Box (((w.alloc (.cells #[.slice A1 a.key.length c1, .int .u64 (a.seq : Int), .int .i64 a.kind] 25)).alloc (.cells #[.slice A2 b.key.length c2, .int .u64 (b.seq : Int), .int .i64 b.kind] 25)).alloc (.cells #[.slice A3 d.key.length c3, .int .u64 (d.seq : Int), .int .i64 d.kind] 25)) w.heap.size A1 c1 a := ((Box.new w A1 c1 a).later (Joins.below_alloc2 _ _ _) (by simp))
    have t2 : Box (((w.alloc (.cells #[.slice A1 a.key.length c1, .int .u64 (a.seq : Int), .int .i64 a.kind] 25)).alloc (.cells #[.slice A2 b.key.length c2, .int .u64 (b.seq : Int), .int .i64 b.kind] 25)).alloc (.cells #[.slice A3 d.key.length c3, .int .u64 (d.seq : Int), .int .i64 d.kind] 25)) (w.heap.size + 1) A2 c2 b := by
      have := (Box.new (w.alloc (.cells #[.slice A1 a.key.length c1, .int .u64 (a.seq : Int), .int .i64 a.kind] 25)) A2 c2 b).later (Joins.below_alloc1 _ (.cells #[.slice A3 d.key.length c3, .int .u64 (d.seq : Int), .int .i64 d.kind] 25)) (by simp)
      rw [show (w.alloc (.cells #[.slice A1 a.key.length c1, .int .u64 (a.seq : Int), .int .i64 a.kind] 25)).heap.size = w.heap.size + 1 by simp] at this
      exact this
    have t3 : Box (((w.alloc (.cells #[.slice A1 a.key.length c1, .int .u64 (a.seq : Int), .int .i64 a.kind] 25)).alloc (.cells #[.slice A2 b.key.length c2, .int .u64 (b.seq : Int), .int .i64 b.kind] 25)).alloc (.cells #[.slice A3 d.key.length c3, .int .u64 (d.seq : Int), .int .i64 d.kind] 25)) (w.heap.size + 2) A3 c3 d := by
      have := Box.new ((w.alloc (.cells #[.slice A1 a.key.length c1, .int .u64 (a.seq : Int), .int .i64 a.kind] 25)).alloc (.cells #[.slice A2 b.key.length c2, .int .u64 (b.seq : Int), .int .i64 b.kind] 25)) A3 c3 d
      rw [show ((w.alloc (.cells #[.slice A1 a.key.length c1, .int .u64 (a.seq : Int), .int .i64 a.kind] 25)).alloc (.cells #[.slice A2 b.key.length c2, .int .u64 (b.seq : Int), .int .i64 b.kind] 25)).heap.size = w.heap.size + 2 by simp] at this
      exact this
    generalize (((w.alloc (.cells #[.slice A1 a.key.length c1, .int .u64 (a.seq : Int), .int .i64 a.kind] 25)).alloc (.cells #[.slice A2 b.key.length c2, .int .u64 (b.seq : Int), .int .i64 b.kind] 25)).alloc (.cells #[.slice A3 d.key.length c3, .int .u64 (d.seq : Int), .int .i64 d.kind] 25)) = W0 at hb0 hz t1 t2 t3 ⊢
    have HB0 := Lib.hid hb0
    have K1 := Lib.hid fun w' (hb : Below W0.heap.size W0 w') => ((H1.out.next (hb0)).next hb)
    have K2 := Lib.hid fun w' (hb : Below W0.heap.size W0 w') => ((H2.out.next (hb0)).next hb)
    have K3 := Lib.hid fun w' (hb : Below W0.heap.size W0 w') => ((H3.out.next (hb0)).next hb)
    have B1 := Lib.hid fun w' (hb : Below W0.heap.size W0 w') => t1.later hb (by omega)
    have B2 := Lib.hid fun w' (hb : Below W0.heap.size W0 w') => t2.later hb (by omega)
    have B3 := Lib.hid fun w' (hb : Below W0.heap.size W0 w') => t3.later hb (by omega)
    clear hb0 hz t1 t2 t3
    refine (alive_any _).mono ?_; rintro e W1 ⟨rfl, hb⟩
    have HB1 := Lib.hid hb
    clear hb
    obtain ⟨p1, p2, p3⟩ := B1.out _ HB1.out
    obtain ⟨p4, p5, p6⟩ := B2.out _ HB1.out
    obtain ⟨p7, p8, p9⟩ := B3.out _ HB1.out
    go_wp2_with fail
    refine (cmp_as _ A1 A2 c1 c2 a b _ E1.out (K1.out _ HB1.out) (K2.out _ HB1.out)).mono ?_
    rintro e W2 ⟨rfl, hb⟩
    have HB2 := Lib.hid (HB1.out.trans (hb.mono HB1.out.size))
    clear hb p1 p2 p3 p4 p5 p6 p7 p8 p9
    obtain ⟨p1, p2, p3⟩ := B1.out _ HB2.out
    obtain ⟨p4, p5, p6⟩ := B2.out _ HB2.out
    obtain ⟨p7, p8, p9⟩ := B3.out _ HB2.out
    go_wp2_with fail
    refine (rcmp_as _ A1 A2 c1 c2 a b _ E1.out (K1.out _ HB2.out) (K2.out _ HB2.out)).mono ?_
    rintro e W3 ⟨rfl, hb⟩
    have HB3 := Lib.hid (HB2.out.trans (hb.mono HB2.out.size))
    clear hb p1 p2 p3 p4 p5 p6 p7 p8 p9
    obtain ⟨p1, p2, p3⟩ := B1.out _ HB3.out
    obtain ⟨p4, p5, p6⟩ := B2.out _ HB3.out
    obtain ⟨p7, p8, p9⟩ := B3.out _ HB3.out
    go_wp2_with fail
    refine (cmp_as _ A2 A1 c2 c1 b a _ E3.out (K2.out _ HB3.out) (K1.out _ HB3.out)).mono ?_
    rintro e W4 ⟨rfl, hb⟩
    have HB4 := Lib.hid (HB3.out.trans (hb.mono HB3.out.size))
    clear hb p1 p2 p3 p4 p5 p6 p7 p8 p9
    obtain ⟨p1, p2, p3⟩ := B1.out _ HB4.out
    obtain ⟨p4, p5, p6⟩ := B2.out _ HB4.out
    obtain ⟨p7, p8, p9⟩ := B3.out _ HB4.out
    go_wp2_with fail
    refine (cmp_as _ A1 A1 c1 c1 a a _ E4.out (K1.out _ HB4.out) (K1.out _ HB4.out)).mono ?_
    rintro e W5 ⟨rfl, hb⟩
    have HB5 := Lib.hid (HB4.out.trans (hb.mono HB4.out.size))
    clear hb p1 p2 p3 p4 p5 p6 p7 p8 p9
    obtain ⟨p1, p2, p3⟩ := B1.out _ HB5.out
    obtain ⟨p4, p5, p6⟩ := B2.out _ HB5.out
    obtain ⟨p7, p8, p9⟩ := B3.out _ HB5.out
    go_wp2_with fail
    refine (same_as _ A1 A2 c1 c2 a b _ E5.out (K1.out _ HB5.out) (K2.out _ HB5.out)).mono ?_
    rintro e W6 ⟨rfl, hb⟩
    have HB6 := Lib.hid (HB5.out.trans (hb.mono HB5.out.size))
    clear hb p1 p2 p3 p4 p5 p6 p7 p8 p9
    rcases hu with rfl | rfl | rfl
    · obtain q | q : cmpK a d = -1 ∨ cmpK a d = 0 := by
        have h6 := E6.out (by rw [E1.out]; decide) (by rw [E2.out]; decide)
        rcases E7.out with h | h | h <;> omega
      · have Q := Lib.hid q
        clear q
        obtain ⟨p1, p2, p3⟩ := B1.out _ HB6.out
        obtain ⟨p4, p5, p6⟩ := B2.out _ HB6.out
        obtain ⟨p7, p8, p9⟩ := B3.out _ HB6.out
        go_wp2_with fail
        refine (cmp_as _ A2 A3 c2 c3 b d _ E2.out (K2.out _ HB6.out) (K3.out _ HB6.out)).mono ?_
        rintro e W7 ⟨rfl, hb⟩
        have HB7 := Lib.hid (HB6.out.trans (hb.mono HB6.out.size))
        clear hb p1 p2 p3 p4 p5 p6 p7 p8 p9
        obtain ⟨p1, p2, p3⟩ := B1.out _ HB7.out
        obtain ⟨p4, p5, p6⟩ := B2.out _ HB7.out
        obtain ⟨p7, p8, p9⟩ := B3.out _ HB7.out
        go_wp2_with fail
        refine (cmp_as _ A1 A3 c1 c3 a d _ Q.out (K1.out _ HB7.out) (K3.out _ HB7.out)).mono ?_
        rintro e W8 ⟨rfl, hb⟩
        have HB8 := Lib.hid (HB7.out.trans (hb.mono HB7.out.size))
        clear hb p1 p2 p3 p4 p5 p6 p7 p8 p9
        go_wp2_with fail
        go_ret
        exact ⟨rfl, HB0.out.trans (HB8.out.mono HB0.out.size)⟩
      · have Q := Lib.hid q
        clear q
        obtain ⟨p1, p2, p3⟩ := B1.out _ HB6.out
        obtain ⟨p4, p5, p6⟩ := B2.out _ HB6.out
        obtain ⟨p7, p8, p9⟩ := B3.out _ HB6.out
        go_wp2_with fail
        refine (cmp_as _ A2 A3 c2 c3 b d _ E2.out (K2.out _ HB6.out) (K3.out _ HB6.out)).mono ?_
        rintro e W7 ⟨rfl, hb⟩
        have HB7 := Lib.hid (HB6.out.trans (hb.mono HB6.out.size))
        clear hb p1 p2 p3 p4 p5 p6 p7 p8 p9
        obtain ⟨p1, p2, p3⟩ := B1.out _ HB7.out
        obtain ⟨p4, p5, p6⟩ := B2.out _ HB7.out
        obtain ⟨p7, p8, p9⟩ := B3.out _ HB7.out
        go_wp2_with fail
        refine (cmp_as _ A1 A3 c1 c3 a d _ Q.out (K1.out _ HB7.out) (K3.out _ HB7.out)).mono ?_
        rintro e W8 ⟨rfl, hb⟩
        have HB8 := Lib.hid (HB7.out.trans (hb.mono HB7.out.size))
        clear hb p1 p2 p3 p4 p5 p6 p7 p8 p9
        go_wp2_with fail
        go_ret
        exact ⟨rfl, HB0.out.trans (HB8.out.mono HB0.out.size)⟩
    · obtain q | q : cmpK a d = -1 ∨ cmpK a d = 0 := by
        have h6 := E6.out (by rw [E1.out]; decide) (by rw [E2.out]; decide)
        rcases E7.out with h | h | h <;> omega
      · have Q := Lib.hid q
        clear q
        obtain ⟨p1, p2, p3⟩ := B1.out _ HB6.out
        obtain ⟨p4, p5, p6⟩ := B2.out _ HB6.out
        obtain ⟨p7, p8, p9⟩ := B3.out _ HB6.out
        go_wp2_with fail
        refine (cmp_as _ A2 A3 c2 c3 b d _ E2.out (K2.out _ HB6.out) (K3.out _ HB6.out)).mono ?_
        rintro e W7 ⟨rfl, hb⟩
        have HB7 := Lib.hid (HB6.out.trans (hb.mono HB6.out.size))
        clear hb p1 p2 p3 p4 p5 p6 p7 p8 p9
        obtain ⟨p1, p2, p3⟩ := B1.out _ HB7.out
        obtain ⟨p4, p5, p6⟩ := B2.out _ HB7.out
        obtain ⟨p7, p8, p9⟩ := B3.out _ HB7.out
        go_wp2_with fail
        refine (cmp_as _ A1 A3 c1 c3 a d _ Q.out (K1.out _ HB7.out) (K3.out _ HB7.out)).mono ?_
        rintro e W8 ⟨rfl, hb⟩
        have HB8 := Lib.hid (HB7.out.trans (hb.mono HB7.out.size))
        clear hb p1 p2 p3 p4 p5 p6 p7 p8 p9
        go_wp2_with fail
        go_ret
        exact ⟨rfl, HB0.out.trans (HB8.out.mono HB0.out.size)⟩
      · have Q := Lib.hid q
        clear q
        obtain ⟨p1, p2, p3⟩ := B1.out _ HB6.out
        obtain ⟨p4, p5, p6⟩ := B2.out _ HB6.out
        obtain ⟨p7, p8, p9⟩ := B3.out _ HB6.out
        go_wp2_with fail
        refine (cmp_as _ A2 A3 c2 c3 b d _ E2.out (K2.out _ HB6.out) (K3.out _ HB6.out)).mono ?_
        rintro e W7 ⟨rfl, hb⟩
        have HB7 := Lib.hid (HB6.out.trans (hb.mono HB6.out.size))
        clear hb p1 p2 p3 p4 p5 p6 p7 p8 p9
        obtain ⟨p1, p2, p3⟩ := B1.out _ HB7.out
        obtain ⟨p4, p5, p6⟩ := B2.out _ HB7.out
        obtain ⟨p7, p8, p9⟩ := B3.out _ HB7.out
        go_wp2_with fail
        refine (cmp_as _ A1 A3 c1 c3 a d _ Q.out (K1.out _ HB7.out) (K3.out _ HB7.out)).mono ?_
        rintro e W8 ⟨rfl, hb⟩
        have HB8 := Lib.hid (HB7.out.trans (hb.mono HB7.out.size))
        clear hb p1 p2 p3 p4 p5 p6 p7 p8 p9
        go_wp2_with fail
        go_ret
        exact ⟨rfl, HB0.out.trans (HB8.out.mono HB0.out.size)⟩
    · skip
      obtain ⟨p1, p2, p3⟩ := B1.out _ HB6.out
      obtain ⟨p4, p5, p6⟩ := B2.out _ HB6.out
      obtain ⟨p7, p8, p9⟩ := B3.out _ HB6.out
      go_wp2_with fail
      refine (cmp_as _ A2 A3 c2 c3 b d _ E2.out (K2.out _ HB6.out) (K3.out _ HB6.out)).mono ?_
      rintro e W7 ⟨rfl, hb⟩
      have HB7 := Lib.hid (HB6.out.trans (hb.mono HB6.out.size))
      clear hb p1 p2 p3 p4 p5 p6 p7 p8 p9
      go_wp2_with fail
      go_ret
      exact ⟨rfl, HB0.out.trans (HB7.out.mono HB0.out.size)⟩
  · skip
    go_enter Try.func5, Try.ntmps5
    go_wp2_with fail
    have hb0 := Joins.below_alloc3 w (.cells #[.slice A1 a.key.length c1, .int .u64 (a.seq : Int), .int .i64 a.kind] 25) (.cells #[.slice A2 b.key.length c2, .int .u64 (b.seq : Int), .int .i64 b.kind] 25) (.cells #[.slice A3 d.key.length c3, .int .u64 (d.seq : Int), .int .i64 d.kind] 25)
    have hz : (((w.alloc (.cells #[.slice A1 a.key.length c1, .int .u64 (a.seq : Int), .int .i64 a.kind] 25)).alloc (.cells #[.slice A2 b.key.length c2, .int .u64 (b.seq : Int), .int .i64 b.kind] 25)).alloc (.cells #[.slice A3 d.key.length c3, .int .u64 (d.seq : Int), .int .i64 d.kind] 25)).heap.size = w.heap.size + 3 := by simp
    have t1 : Box (((w.alloc (.cells #[.slice A1 a.key.length c1, .int .u64 (a.seq : Int), .int .i64 a.kind] 25)).alloc (.cells #[.slice A2 b.key.length c2, .int .u64 (b.seq : Int), .int .i64 b.kind] 25)).alloc (.cells #[.slice A3 d.key.length c3, .int .u64 (d.seq : Int), .int .i64 d.kind] 25)) w.heap.size A1 c1 a := ((Box.new w A1 c1 a).later (Joins.below_alloc2 _ _ _) (by simp))
    have t2 : Box (((w.alloc (.cells #[.slice A1 a.key.length c1, .int .u64 (a.seq : Int), .int .i64 a.kind] 25)).alloc (.cells #[.slice A2 b.key.length c2, .int .u64 (b.seq : Int), .int .i64 b.kind] 25)).alloc (.cells #[.slice A3 d.key.length c3, .int .u64 (d.seq : Int), .int .i64 d.kind] 25)) (w.heap.size + 1) A2 c2 b := by
      have := (Box.new (w.alloc (.cells #[.slice A1 a.key.length c1, .int .u64 (a.seq : Int), .int .i64 a.kind] 25)) A2 c2 b).later (Joins.below_alloc1 _ (.cells #[.slice A3 d.key.length c3, .int .u64 (d.seq : Int), .int .i64 d.kind] 25)) (by simp)
      rw [show (w.alloc (.cells #[.slice A1 a.key.length c1, .int .u64 (a.seq : Int), .int .i64 a.kind] 25)).heap.size = w.heap.size + 1 by simp] at this
      exact this
    have t3 : Box (((w.alloc (.cells #[.slice A1 a.key.length c1, .int .u64 (a.seq : Int), .int .i64 a.kind] 25)).alloc (.cells #[.slice A2 b.key.length c2, .int .u64 (b.seq : Int), .int .i64 b.kind] 25)).alloc (.cells #[.slice A3 d.key.length c3, .int .u64 (d.seq : Int), .int .i64 d.kind] 25)) (w.heap.size + 2) A3 c3 d := by
      have := Box.new ((w.alloc (.cells #[.slice A1 a.key.length c1, .int .u64 (a.seq : Int), .int .i64 a.kind] 25)).alloc (.cells #[.slice A2 b.key.length c2, .int .u64 (b.seq : Int), .int .i64 b.kind] 25)) A3 c3 d
      rw [show ((w.alloc (.cells #[.slice A1 a.key.length c1, .int .u64 (a.seq : Int), .int .i64 a.kind] 25)).alloc (.cells #[.slice A2 b.key.length c2, .int .u64 (b.seq : Int), .int .i64 b.kind] 25)).heap.size = w.heap.size + 2 by simp] at this
      exact this
    generalize (((w.alloc (.cells #[.slice A1 a.key.length c1, .int .u64 (a.seq : Int), .int .i64 a.kind] 25)).alloc (.cells #[.slice A2 b.key.length c2, .int .u64 (b.seq : Int), .int .i64 b.kind] 25)).alloc (.cells #[.slice A3 d.key.length c3, .int .u64 (d.seq : Int), .int .i64 d.kind] 25)) = W0 at hb0 hz t1 t2 t3 ⊢
    have HB0 := Lib.hid hb0
    have K1 := Lib.hid fun w' (hb : Below W0.heap.size W0 w') => ((H1.out.next (hb0)).next hb)
    have K2 := Lib.hid fun w' (hb : Below W0.heap.size W0 w') => ((H2.out.next (hb0)).next hb)
    have K3 := Lib.hid fun w' (hb : Below W0.heap.size W0 w') => ((H3.out.next (hb0)).next hb)
    have B1 := Lib.hid fun w' (hb : Below W0.heap.size W0 w') => t1.later hb (by omega)
    have B2 := Lib.hid fun w' (hb : Below W0.heap.size W0 w') => t2.later hb (by omega)
    have B3 := Lib.hid fun w' (hb : Below W0.heap.size W0 w') => t3.later hb (by omega)
    clear hb0 hz t1 t2 t3
    refine (alive_any _).mono ?_; rintro e W1 ⟨rfl, hb⟩
    have HB1 := Lib.hid hb
    clear hb
    obtain ⟨p1, p2, p3⟩ := B1.out _ HB1.out
    obtain ⟨p4, p5, p6⟩ := B2.out _ HB1.out
    obtain ⟨p7, p8, p9⟩ := B3.out _ HB1.out
    go_wp2_with fail
    refine (cmp_as _ A1 A2 c1 c2 a b _ E1.out (K1.out _ HB1.out) (K2.out _ HB1.out)).mono ?_
    rintro e W2 ⟨rfl, hb⟩
    have HB2 := Lib.hid (HB1.out.trans (hb.mono HB1.out.size))
    clear hb p1 p2 p3 p4 p5 p6 p7 p8 p9
    obtain ⟨p1, p2, p3⟩ := B1.out _ HB2.out
    obtain ⟨p4, p5, p6⟩ := B2.out _ HB2.out
    obtain ⟨p7, p8, p9⟩ := B3.out _ HB2.out
    go_wp2_with fail
    refine (rcmp_as _ A1 A2 c1 c2 a b _ E1.out (K1.out _ HB2.out) (K2.out _ HB2.out)).mono ?_
    rintro e W3 ⟨rfl, hb⟩
    have HB3 := Lib.hid (HB2.out.trans (hb.mono HB2.out.size))
    clear hb p1 p2 p3 p4 p5 p6 p7 p8 p9
    obtain ⟨p1, p2, p3⟩ := B1.out _ HB3.out
    obtain ⟨p4, p5, p6⟩ := B2.out _ HB3.out
    obtain ⟨p7, p8, p9⟩ := B3.out _ HB3.out
    go_wp2_with fail
    refine (cmp_as _ A2 A1 c2 c1 b a _ E3.out (K2.out _ HB3.out) (K1.out _ HB3.out)).mono ?_
    rintro e W4 ⟨rfl, hb⟩
    have HB4 := Lib.hid (HB3.out.trans (hb.mono HB3.out.size))
    clear hb p1 p2 p3 p4 p5 p6 p7 p8 p9
    obtain ⟨p1, p2, p3⟩ := B1.out _ HB4.out
    obtain ⟨p4, p5, p6⟩ := B2.out _ HB4.out
    obtain ⟨p7, p8, p9⟩ := B3.out _ HB4.out
    go_wp2_with fail
    refine (cmp_as _ A1 A1 c1 c1 a a _ E4.out (K1.out _ HB4.out) (K1.out _ HB4.out)).mono ?_
    rintro e W5 ⟨rfl, hb⟩
    have HB5 := Lib.hid (HB4.out.trans (hb.mono HB4.out.size))
    clear hb p1 p2 p3 p4 p5 p6 p7 p8 p9
    obtain ⟨p1, p2, p3⟩ := B1.out _ HB5.out
    obtain ⟨p4, p5, p6⟩ := B2.out _ HB5.out
    obtain ⟨p7, p8, p9⟩ := B3.out _ HB5.out
    go_wp2_with fail
    refine (same_as _ A1 A2 c1 c2 a b _ E5.out (K1.out _ HB5.out) (K2.out _ HB5.out)).mono ?_
    rintro e W6 ⟨rfl, hb⟩
    have HB6 := Lib.hid (HB5.out.trans (hb.mono HB5.out.size))
    clear hb p1 p2 p3 p4 p5 p6 p7 p8 p9
    go_wp2_with fail
    go_ret
    exact ⟨rfl, HB0.out.trans (HB6.out.mono HB0.out.size)⟩

set_option maxHeartbeats 400000 in
theorem walk_out (A1 A2 A3 : Option Addr) (c1 c2 c3 : Nat) (a b d : K) (w : World) (h : 100 < a.key.length ∨ 100 < b.key.length ∨ 100 < d.key.length) :
    Calls Try.prog 5 #[key A1 c1 a, key A2 c2 b, key A3 c3 d] w (Yes w) := by
  by_cases s1 : 100 < a.key.length
  · skip
    go_enter Try.func5, Try.ntmps5
    go_wp2_with fail
    have hb0 := Joins.below_alloc3 w (.cells #[.slice A1 a.key.length c1, .int .u64 (a.seq : Int), .int .i64 a.kind] 25) (.cells #[.slice A2 b.key.length c2, .int .u64 (b.seq : Int), .int .i64 b.kind] 25) (.cells #[.slice A3 d.key.length c3, .int .u64 (d.seq : Int), .int .i64 d.kind] 25)
    have hz : (((w.alloc (.cells #[.slice A1 a.key.length c1, .int .u64 (a.seq : Int), .int .i64 a.kind] 25)).alloc (.cells #[.slice A2 b.key.length c2, .int .u64 (b.seq : Int), .int .i64 b.kind] 25)).alloc (.cells #[.slice A3 d.key.length c3, .int .u64 (d.seq : Int), .int .i64 d.kind] 25)).heap.size = w.heap.size + 3 := by simp
    have t1 : Box (((w.alloc (.cells #[.slice A1 a.key.length c1, .int .u64 (a.seq : Int), .int .i64 a.kind] 25)).alloc (.cells #[.slice A2 b.key.length c2, .int .u64 (b.seq : Int), .int .i64 b.kind] 25)).alloc (.cells #[.slice A3 d.key.length c3, .int .u64 (d.seq : Int), .int .i64 d.kind] 25)) w.heap.size A1 c1 a := ((Box.new w A1 c1 a).later (Joins.below_alloc2 _ _ _) (by simp))
    have t2 : Box (((w.alloc (.cells #[.slice A1 a.key.length c1, .int .u64 (a.seq : Int), .int .i64 a.kind] 25)).alloc (.cells #[.slice A2 b.key.length c2, .int .u64 (b.seq : Int), .int .i64 b.kind] 25)).alloc (.cells #[.slice A3 d.key.length c3, .int .u64 (d.seq : Int), .int .i64 d.kind] 25)) (w.heap.size + 1) A2 c2 b := by
      have := (Box.new (w.alloc (.cells #[.slice A1 a.key.length c1, .int .u64 (a.seq : Int), .int .i64 a.kind] 25)) A2 c2 b).later (Joins.below_alloc1 _ (.cells #[.slice A3 d.key.length c3, .int .u64 (d.seq : Int), .int .i64 d.kind] 25)) (by simp)
      rw [show (w.alloc (.cells #[.slice A1 a.key.length c1, .int .u64 (a.seq : Int), .int .i64 a.kind] 25)).heap.size = w.heap.size + 1 by simp] at this
      exact this
    have t3 : Box (((w.alloc (.cells #[.slice A1 a.key.length c1, .int .u64 (a.seq : Int), .int .i64 a.kind] 25)).alloc (.cells #[.slice A2 b.key.length c2, .int .u64 (b.seq : Int), .int .i64 b.kind] 25)).alloc (.cells #[.slice A3 d.key.length c3, .int .u64 (d.seq : Int), .int .i64 d.kind] 25)) (w.heap.size + 2) A3 c3 d := by
      have := Box.new ((w.alloc (.cells #[.slice A1 a.key.length c1, .int .u64 (a.seq : Int), .int .i64 a.kind] 25)).alloc (.cells #[.slice A2 b.key.length c2, .int .u64 (b.seq : Int), .int .i64 b.kind] 25)) A3 c3 d
      rw [show ((w.alloc (.cells #[.slice A1 a.key.length c1, .int .u64 (a.seq : Int), .int .i64 a.kind] 25)).alloc (.cells #[.slice A2 b.key.length c2, .int .u64 (b.seq : Int), .int .i64 b.kind] 25)).heap.size = w.heap.size + 2 by simp] at this
      exact this
    generalize (((w.alloc (.cells #[.slice A1 a.key.length c1, .int .u64 (a.seq : Int), .int .i64 a.kind] 25)).alloc (.cells #[.slice A2 b.key.length c2, .int .u64 (b.seq : Int), .int .i64 b.kind] 25)).alloc (.cells #[.slice A3 d.key.length c3, .int .u64 (d.seq : Int), .int .i64 d.kind] 25)) = W0 at hb0 hz t1 t2 t3 ⊢
    have HB0 := Lib.hid hb0
    refine (alive_any _).mono ?_; rintro e W1 ⟨rfl, hb⟩
    have HB1 := Lib.hid hb
    obtain ⟨p1, p2, p3⟩ := t1.later hb (by omega)
    obtain ⟨p4, p5, p6⟩ := t2.later hb (by omega)
    obtain ⟨p7, p8, p9⟩ := t3.later hb (by omega)
    clear hb hb0 hz t1 t2 t3 h
    go_wp2_with fail
    go_ret
    exact ⟨rfl, HB0.out.trans (HB1.out.mono HB0.out.size)⟩
  · by_cases s2 : 100 < b.key.length
    · skip
      go_enter Try.func5, Try.ntmps5
      go_wp2_with fail
      have hb0 := Joins.below_alloc3 w (.cells #[.slice A1 a.key.length c1, .int .u64 (a.seq : Int), .int .i64 a.kind] 25) (.cells #[.slice A2 b.key.length c2, .int .u64 (b.seq : Int), .int .i64 b.kind] 25) (.cells #[.slice A3 d.key.length c3, .int .u64 (d.seq : Int), .int .i64 d.kind] 25)
      have hz : (((w.alloc (.cells #[.slice A1 a.key.length c1, .int .u64 (a.seq : Int), .int .i64 a.kind] 25)).alloc (.cells #[.slice A2 b.key.length c2, .int .u64 (b.seq : Int), .int .i64 b.kind] 25)).alloc (.cells #[.slice A3 d.key.length c3, .int .u64 (d.seq : Int), .int .i64 d.kind] 25)).heap.size = w.heap.size + 3 := by simp
      have t1 : Box (((w.alloc (.cells #[.slice A1 a.key.length c1, .int .u64 (a.seq : Int), .int .i64 a.kind] 25)).alloc (.cells #[.slice A2 b.key.length c2, .int .u64 (b.seq : Int), .int .i64 b.kind] 25)).alloc (.cells #[.slice A3 d.key.length c3, .int .u64 (d.seq : Int), .int .i64 d.kind] 25)) w.heap.size A1 c1 a := ((Box.new w A1 c1 a).later (Joins.below_alloc2 _ _ _) (by simp))
      have t2 : Box (((w.alloc (.cells #[.slice A1 a.key.length c1, .int .u64 (a.seq : Int), .int .i64 a.kind] 25)).alloc (.cells #[.slice A2 b.key.length c2, .int .u64 (b.seq : Int), .int .i64 b.kind] 25)).alloc (.cells #[.slice A3 d.key.length c3, .int .u64 (d.seq : Int), .int .i64 d.kind] 25)) (w.heap.size + 1) A2 c2 b := by
        have := (Box.new (w.alloc (.cells #[.slice A1 a.key.length c1, .int .u64 (a.seq : Int), .int .i64 a.kind] 25)) A2 c2 b).later (Joins.below_alloc1 _ (.cells #[.slice A3 d.key.length c3, .int .u64 (d.seq : Int), .int .i64 d.kind] 25)) (by simp)
        rw [show (w.alloc (.cells #[.slice A1 a.key.length c1, .int .u64 (a.seq : Int), .int .i64 a.kind] 25)).heap.size = w.heap.size + 1 by simp] at this
        exact this
      have t3 : Box (((w.alloc (.cells #[.slice A1 a.key.length c1, .int .u64 (a.seq : Int), .int .i64 a.kind] 25)).alloc (.cells #[.slice A2 b.key.length c2, .int .u64 (b.seq : Int), .int .i64 b.kind] 25)).alloc (.cells #[.slice A3 d.key.length c3, .int .u64 (d.seq : Int), .int .i64 d.kind] 25)) (w.heap.size + 2) A3 c3 d := by
        have := Box.new ((w.alloc (.cells #[.slice A1 a.key.length c1, .int .u64 (a.seq : Int), .int .i64 a.kind] 25)).alloc (.cells #[.slice A2 b.key.length c2, .int .u64 (b.seq : Int), .int .i64 b.kind] 25)) A3 c3 d
        rw [show ((w.alloc (.cells #[.slice A1 a.key.length c1, .int .u64 (a.seq : Int), .int .i64 a.kind] 25)).alloc (.cells #[.slice A2 b.key.length c2, .int .u64 (b.seq : Int), .int .i64 b.kind] 25)).heap.size = w.heap.size + 2 by simp] at this
        exact this
      generalize (((w.alloc (.cells #[.slice A1 a.key.length c1, .int .u64 (a.seq : Int), .int .i64 a.kind] 25)).alloc (.cells #[.slice A2 b.key.length c2, .int .u64 (b.seq : Int), .int .i64 b.kind] 25)).alloc (.cells #[.slice A3 d.key.length c3, .int .u64 (d.seq : Int), .int .i64 d.kind] 25)) = W0 at hb0 hz t1 t2 t3 ⊢
      have HB0 := Lib.hid hb0
      refine (alive_any _).mono ?_; rintro e W1 ⟨rfl, hb⟩
      have HB1 := Lib.hid hb
      obtain ⟨p1, p2, p3⟩ := t1.later hb (by omega)
      obtain ⟨p4, p5, p6⟩ := t2.later hb (by omega)
      obtain ⟨p7, p8, p9⟩ := t3.later hb (by omega)
      clear hb hb0 hz t1 t2 t3 h
      go_wp2_with fail
      go_ret
      exact ⟨rfl, HB0.out.trans (HB1.out.mono HB0.out.size)⟩
    · have s3 : 100 < d.key.length := by omega
      go_enter Try.func5, Try.ntmps5
      go_wp2_with fail
      have hb0 := Joins.below_alloc3 w (.cells #[.slice A1 a.key.length c1, .int .u64 (a.seq : Int), .int .i64 a.kind] 25) (.cells #[.slice A2 b.key.length c2, .int .u64 (b.seq : Int), .int .i64 b.kind] 25) (.cells #[.slice A3 d.key.length c3, .int .u64 (d.seq : Int), .int .i64 d.kind] 25)
      have hz : (((w.alloc (.cells #[.slice A1 a.key.length c1, .int .u64 (a.seq : Int), .int .i64 a.kind] 25)).alloc (.cells #[.slice A2 b.key.length c2, .int .u64 (b.seq : Int), .int .i64 b.kind] 25)).alloc (.cells #[.slice A3 d.key.length c3, .int .u64 (d.seq : Int), .int .i64 d.kind] 25)).heap.size = w.heap.size + 3 := by simp
      have t1 : Box (((w.alloc (.cells #[.slice A1 a.key.length c1, .int .u64 (a.seq : Int), .int .i64 a.kind] 25)).alloc (.cells #[.slice A2 b.key.length c2, .int .u64 (b.seq : Int), .int .i64 b.kind] 25)).alloc (.cells #[.slice A3 d.key.length c3, .int .u64 (d.seq : Int), .int .i64 d.kind] 25)) w.heap.size A1 c1 a := ((Box.new w A1 c1 a).later (Joins.below_alloc2 _ _ _) (by simp))
      have t2 : Box (((w.alloc (.cells #[.slice A1 a.key.length c1, .int .u64 (a.seq : Int), .int .i64 a.kind] 25)).alloc (.cells #[.slice A2 b.key.length c2, .int .u64 (b.seq : Int), .int .i64 b.kind] 25)).alloc (.cells #[.slice A3 d.key.length c3, .int .u64 (d.seq : Int), .int .i64 d.kind] 25)) (w.heap.size + 1) A2 c2 b := by
        have := (Box.new (w.alloc (.cells #[.slice A1 a.key.length c1, .int .u64 (a.seq : Int), .int .i64 a.kind] 25)) A2 c2 b).later (Joins.below_alloc1 _ (.cells #[.slice A3 d.key.length c3, .int .u64 (d.seq : Int), .int .i64 d.kind] 25)) (by simp)
        rw [show (w.alloc (.cells #[.slice A1 a.key.length c1, .int .u64 (a.seq : Int), .int .i64 a.kind] 25)).heap.size = w.heap.size + 1 by simp] at this
        exact this
      have t3 : Box (((w.alloc (.cells #[.slice A1 a.key.length c1, .int .u64 (a.seq : Int), .int .i64 a.kind] 25)).alloc (.cells #[.slice A2 b.key.length c2, .int .u64 (b.seq : Int), .int .i64 b.kind] 25)).alloc (.cells #[.slice A3 d.key.length c3, .int .u64 (d.seq : Int), .int .i64 d.kind] 25)) (w.heap.size + 2) A3 c3 d := by
        have := Box.new ((w.alloc (.cells #[.slice A1 a.key.length c1, .int .u64 (a.seq : Int), .int .i64 a.kind] 25)).alloc (.cells #[.slice A2 b.key.length c2, .int .u64 (b.seq : Int), .int .i64 b.kind] 25)) A3 c3 d
        rw [show ((w.alloc (.cells #[.slice A1 a.key.length c1, .int .u64 (a.seq : Int), .int .i64 a.kind] 25)).alloc (.cells #[.slice A2 b.key.length c2, .int .u64 (b.seq : Int), .int .i64 b.kind] 25)).heap.size = w.heap.size + 2 by simp] at this
        exact this
      generalize (((w.alloc (.cells #[.slice A1 a.key.length c1, .int .u64 (a.seq : Int), .int .i64 a.kind] 25)).alloc (.cells #[.slice A2 b.key.length c2, .int .u64 (b.seq : Int), .int .i64 b.kind] 25)).alloc (.cells #[.slice A3 d.key.length c3, .int .u64 (d.seq : Int), .int .i64 d.kind] 25)) = W0 at hb0 hz t1 t2 t3 ⊢
      have HB0 := Lib.hid hb0
      refine (alive_any _).mono ?_; rintro e W1 ⟨rfl, hb⟩
      have HB1 := Lib.hid hb
      obtain ⟨p1, p2, p3⟩ := t1.later hb (by omega)
      obtain ⟨p4, p5, p6⟩ := t2.later hb (by omega)
      obtain ⟨p7, p8, p9⟩ := t3.later hb (by omega)
      clear hb hb0 hz t1 t2 t3 h
      go_wp2_with fail
      go_ret
      exact ⟨rfl, HB0.out.trans (HB1.out.mono HB0.out.size)⟩

set_option maxRecDepth 100000 in
theorem lifted (os : Os) (started : os.Started) (H : Type) (enc : TypeId × Value → H) :
    ReturnsInHanded {} Try.checked os 5 .any (Rows.ikeyOrdersSpec.pre6 enc Try.prog Try.f5 Rows.ikeyOrdersRow.domain false) (Rows.ikeyOrdersSpec.post enc Try.prog Try.f5 false true false false) := by
  refine lift_true (C := Try.checked) own started (by kernel_rfl) Try.func5
    (ChangeSpec.witness6 (enc := enc) (C := Try.checked) false ⟨#[], #[.agg #[.slice none 0 0, .int .u64 0, .int .i64 0], .agg #[.slice none 0 0, .int .u64 0, .int .i64 0], .agg #[.slice none 0 0, .int .u64 0, .int .i64 0]], []⟩ 8 (by kernel_rfl) (by kernel_rfl) (by kernel_rfl) (by kernel_rfl))
    (by kernel_rfl) (by kernel_rfl) (by kernel_rfl) Try.underlying4 rfl ?_ ?_
  · intro ds hds
    match ds, hds with
    | [d1, d2, d3], _ => exact ⟨rfl, rfl, rfl⟩
  · intro W base args ds p hval0 hA0 hlt _
    have hval : ∀ (j : Nat) t v, Try.f5.params[j]? = some t → args[j]? = some v → Value.okWide Try.prog W .any base t v := hval0
    have hA : DataW.TrodAll enc Try.prog W 0 (fun _ => true) true Try.f5.params.toList args.toList ds p := hA0
    rw [Try.params5] at hA hval
    obtain ⟨v0, vs0, d0, ds0, p0, q0, hargs, rfl, rfl, h0, r0⟩ := trodAll_cons hA
    obtain ⟨v1, vs1, d1, ds1, p1, q1, rfl, rfl, rfl, h1, r1⟩ := trodAll_cons r0
    obtain ⟨v2, vs2, d2, ds2, p2, q2, rfl, rfl, rfl, h2, r2⟩ := trodAll_cons r1
    obtain ⟨rfl, rfl, rfl⟩ := trodAll_nil r2
    obtain rfl : args = #[v0, v1, v2] := by cases args; simp_all
    obtain ⟨A0, c0, k0, rfl, hk0⟩ := Ik.open_key (hval 0 _ v0 rfl rfl) h0 (fun x hx => hlt x (by simp [hx]))
    obtain ⟨A1, c1, k1, rfl, hk1⟩ := Ik.open_key (hval 1 _ v1 rfl rfl) h1 (fun x hx => hlt x (by simp [hx]))
    obtain ⟨A2, c2, k2, rfl, hk2⟩ := Ik.open_key (hval 2 _ v2 rfl rfl) h2 (fun x hx => hlt x (by simp [hx]))
    by_cases h : 100 < k0.key.length ∨ 100 < k1.key.length ∨ 100 < k2.key.length
    · exact walk_out A0 A1 A2 c0 c1 c2 k0 k1 k2 W h
    · exact walk _ _ A0 A1 A2 c0 c1 c2 k0 k1 k2 W hk0 hk1 hk2 (by omega) (by omega) (by omega) rfl rfl (cmpK_one _ _) (cmpK_one _ _)

theorem over : Rows.ikeyOrdersRow.holds Try.pinned (OpenSpec.ofChange Rows.ikeyOrdersSpec) :=
  OpenClaim.holds_of_wide 5 Try.f5 rfl rfl rfl rfl rfl rfl rfl ⟨rfl, rfl, rfl, rfl, rfl⟩ rfl rfl rfl rfl rfl (by kernel_rfl) Try.func5 (by kernel_rfl)
    (of_decide_eq_true (by kernel_rfl)) (by unfold Func.isWrapper; first | (rw [if_pos (by decide +kernel)]; kernel_rfl) | (rw [if_neg (by decide +kernel)]; exact ⟨rfl, rfl⟩))
    (fun os started H enc _ => lifted os started H enc)

theorem proved : Rows.IkeyOrdersSaid :=
  over
#print axioms proved
end Go.Proofs.Ythbiphchongmgaa.ikeyOrders
