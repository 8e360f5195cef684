/- Proved: for any number, VersionErrors of butterylaw17 answers true (Apply of package version gives the documented errors for fifteen edits), and its argument reads as before. Conditions: none beyond what the given row states. -/
import Derived.Test.YthhmjjmjicmhdaaVer
import Derived.Deep.CutBlock
import Derived.Deep.DeepCutAuto
import Derived.Deep.Cut
namespace Go.Proofs.Ythhmjjmjicmhdaa.versionErrors
set_option linter.unusedVariables false
set_option linter.unusedSimpArgs false
open Go.ChangeShapes Go.WideShapes Go.ChangeAt Go.RowKit Lift Ed Ve Ik

theorem own : ownKnob Try.prog.godebug = none := by kernel_rfl

/-- The law's runs and edits, told. -/
abbrev esC : List E := [⟨[], [7], 0, 0, 0⟩, ⟨[ruR 2 9], [], 0, 0, 0⟩, ⟨[], [3, 1], 0, 0, 0⟩, ⟨[], [], 3, 0, 0⟩, ⟨[], [], 0, 8, 0⟩, ⟨[], [], 0, 0, 2⟩, ⟨[ruR 4 4], [], 0, 0, 0⟩, ⟨[ruR 4 4], [], 5, 0, 0⟩, ⟨[ruR 4 4], [], 5, 0, 4⟩, ⟨[ruR 3 3], [3, 2], 0, 0, 0⟩, ⟨[], [2], 0, 0, 0⟩, ⟨[], [1, 1], 0, 0, 0⟩, ⟨[], [], 0, 0, 0⟩, ⟨[], [1, 2, 3], 0, 0, 0⟩, ⟨[ruR 2 1], [2], 0, 0, 0⟩]
abbrev vC : V := ⟨[ruR 3 3, ruR 2 2, ruR 1 1], 4, 9, 3⟩
abbrev wC : List Nat := [8, 9, 10, 10, 10, 10, 10, 10, 0, 0, 0, 1, 0, 0, 10]
theorem all_right : (esC.map fun e => (applyV vC e).1) = wC := by decide +kernel
theorem one_right2 {k : Nat} {e : E} (h : esC[k]? = some e) : wC[k]? = some (applyV vC e).1 := by
  rw [← all_right, List.getElem?_map, h]
  rfl
theorem six_at {W : World} {X : Nat} {d : D} (h : Box W X 41 d.cells) : W.cell? ⟨X, 0, none⟩ = some (.int .i64 d.file) ∧ W.cell? ⟨X, 1, none⟩ = some (.int .i64 d.bytes) ∧ W.cell? ⟨X, 2, none⟩ = some (.int .i64 d.count) ∧ W.cell? ⟨X, 3, none⟩ = some (.slice d.firstA d.first.length d.firstC) ∧ W.cell? ⟨X, 4, none⟩ = some (.slice d.lastA d.last.length d.lastC) ∧ W.cell? ⟨X, 5, none⟩ = some (.int .u64 (d.seq : Int)) :=
  ⟨h.cell 0, h.cell 1, h.cell 2, h.cell 3, h.cell 4, h.cell 5⟩
theorem add_at (g j : Nat) : (⟨g, 0, none⟩ : Addr).add j = ⟨g, j, none⟩ := by unfold Addr.add; split <;> simp_all
/-- The version, in memory. -/
theorem ver_ok {U : World} {g : Nat} {a b c : D} (hc : c.Ok U (· < U.heap.size)) (hb : b.Ok U (· < U.heap.size)) (ha : a.Ok U (· < U.heap.size)) (hbx : Box U g 41 (c.cells ++ (b.cells ++ a.cells))) : (⟨some ⟨g, 0, none⟩, 3, [c, b, a], 4, 9, 3⟩ : Y).Ok U U.heap.size := by
  refine ⟨⟨?_, Nat.le_refl _, (show 3 ≤ maxLen by decide), fun e he => ?_⟩, (show (Lit.int .i64 4).wf = true by decide), (show (Lit.int .i64 9).wf = true by decide), (show 3 < 18446744073709551616 by decide)⟩
  · have := lies_block (B := U.heap.size) hbx hbx.lt
    simpa [cellsL] using this
  · simp at he
    rcases he with rfl | rfl | rfl
    · exact hc
    · exact hb
    · exact ha
set_option maxRecDepth 100000 in
set_option maxHeartbeats 12800000 in
theorem walk (which : Int) (w : World) (hw : (Lit.int .i64 which).wf = true) : Calls Try.prog 10 #[.int .i64 which] w (Yes w) := by
  have hwh := i64_of hw
  clear hw
  go_enter Try.func10, Try.ntmps10
  go_wp2_with fail
  refine (valive_any _).mono ?_
  rintro e V0 ⟨rfl, hb⟩
  have HBE := Lib.hid hb
  clear hb
  go_wp2_with fail
  refine (run_any 1 1 _ (by decide) (by decide)).mono ?_
  rintro e V1 ⟨d1, rfl, ru1, ok1, hb⟩
  have HRU1 := Lib.hid ru1
  have HOK1 := Lib.hid ok1
  have hV : Below V0.heap.size V0 V0 := Below.refl _ _
  have hN : Below V0.heap.size V0 V1 := hV.trans (hb.mono hV.size)
  have HBE2 := Lib.hid (HBE.out.trans (hN.mono HBE.out.size))
  clear HBE
  have HBE := Lib.hid HBE2.out
  clear HBE2 hV hN
  clear ru1 ok1 hb
  go_wp2_with fail
  refine (run_any 2 2 _ (by decide) (by decide)).mono ?_
  rintro e V2 ⟨d2, rfl, ru2, ok2, hb⟩
  have HRU2 := Lib.hid ru2
  have HOK2 := Lib.hid ok2
  have hV : Below V1.heap.size V1 V1 := Below.refl _ _
  have hV := hV.trans ((Joins.below_alloc1 V1 (.cells #[.int .i64 d1.file, .int .i64 d1.bytes, .int .i64 d1.count, .slice d1.firstA d1.first.length d1.firstC, .slice d1.lastA d1.last.length d1.lastC, .int .u64 (d1.seq : Int)] 41)).mono hV.size)
  have hN : Below V1.heap.size V1 V2 := hV.trans (hb.mono hV.size)
  have OAa := One.new HOK1.out
  have OAa := OAa.next hb
  have OA := Lib.hid OAa
  clear OAa
  have HBE2 := Lib.hid (HBE.out.trans (hN.mono HBE.out.size))
  clear HBE
  have HBE := Lib.hid HBE2.out
  clear HBE2 hV hN
  clear ru2 ok2 hb
  go_wp2_with fail
  refine (run_any 3 3 _ (by decide) (by decide)).mono ?_
  rintro e V3 ⟨d3, rfl, ru3, ok3, hb⟩
  have HRU3 := Lib.hid ru3
  have HOK3 := Lib.hid ok3
  have hV : Below V2.heap.size V2 V2 := Below.refl _ _
  have hV := hV.trans ((Joins.below_alloc1 V2 (.cells #[.int .i64 d2.file, .int .i64 d2.bytes, .int .i64 d2.count, .slice d2.firstA d2.first.length d2.firstC, .slice d2.lastA d2.last.length d2.lastC, .int .u64 (d2.seq : Int)] 41)).mono hV.size)
  have hN : Below V2.heap.size V2 V3 := hV.trans (hb.mono hV.size)
  have OAx := Lib.hid (OA.out.next hN)
  clear OA
  have OA := Lib.hid OAx.out
  clear OAx
  have OBa := One.new HOK2.out
  have OBa := OBa.next hb
  have OB := Lib.hid OBa
  clear OBa
  have HBE2 := Lib.hid (HBE.out.trans (hN.mono HBE.out.size))
  clear HBE
  have HBE := Lib.hid HBE2.out
  clear HBE2 hV hN
  clear ru3 ok3 hb
  go_upto_region 5 with fail
  have hV := Joins.below_alloc1 V3 (.cells #[.int .i64 d3.file, .int .i64 d3.bytes, .int .i64 d3.count, .slice d3.firstA d3.first.length d3.firstC, .slice d3.lastA d3.last.length d3.lastC, .int .u64 (d3.seq : Int)] 41)
  have s1 : (V3.alloc (.cells #[.int .i64 d3.file, .int .i64 d3.bytes, .int .i64 d3.count, .slice d3.firstA d3.first.length d3.firstC, .slice d3.lastA d3.last.length d3.lastC, .int .u64 (d3.seq : Int)] 41)).heap.size = V3.heap.size + 1 := by simp
  have OC := One.new HOK3.out
  have OA1 := OA.out.next hV
  have OB1 := OB.out.next hV
  have BC : Hid (Box (V3.alloc (.cells #[.int .i64 d3.file, .int .i64 d3.bytes, .int .i64 d3.count, .slice d3.firstA d3.first.length d3.firstC, .slice d3.lastA d3.last.length d3.lastC, .int .u64 (d3.seq : Int)] 41)) V3.heap.size 41 d3.cells) := Lib.hid OC.box
  have BB : Hid (Box (V3.alloc (.cells #[.int .i64 d3.file, .int .i64 d3.bytes, .int .i64 d3.count, .slice d3.firstA d3.first.length d3.firstC, .slice d3.lastA d3.last.length d3.lastC, .int .u64 (d3.seq : Int)] 41)) V2.heap.size 41 d2.cells) := Lib.hid OB1.box
  have BA : Hid (Box (V3.alloc (.cells #[.int .i64 d3.file, .int .i64 d3.bytes, .int .i64 d3.count, .slice d3.firstA d3.first.length d3.firstC, .slice d3.lastA d3.last.length d3.lastC, .int .u64 (d3.seq : Int)] 41)) V1.heap.size 41 d1.cells) := Lib.hid OA1.box
  have hU := Joins.below_alloc2 (V3.alloc (.cells #[.int .i64 d3.file, .int .i64 d3.bytes, .int .i64 d3.count, .slice d3.firstA d3.first.length d3.firstC, .slice d3.lastA d3.last.length d3.lastC, .int .u64 (d3.seq : Int)] 41)) (.cells #[.int .i64 d3.file, .int .i64 d3.bytes, .int .i64 d3.count, .slice d3.firstA d3.first.length d3.firstC, .slice d3.lastA d3.last.length d3.lastC, .int .u64 (d3.seq : Int), .int .i64 d2.file, .int .i64 d2.bytes, .int .i64 d2.count, .slice d2.firstA d2.first.length d2.firstC, .slice d2.lastA d2.last.length d2.lastC, .int .u64 (d2.seq : Int), .int .i64 d1.file, .int .i64 d1.bytes, .int .i64 d1.count, .slice d1.firstA d1.first.length d1.firstC, .slice d1.lastA d1.last.length d1.lastC, .int .u64 (d1.seq : Int)] 41) (.cells #[.slice (some ⟨V3.heap.size + 1, 0, none⟩) 3 3, .int .i64 4, .int .i64 9, .int .u64 3] 44)
  have hN := hV.trans (hU.mono hV.size)
  have bx : Box (((V3.alloc (.cells #[.int .i64 d3.file, .int .i64 d3.bytes, .int .i64 d3.count, .slice d3.firstA d3.first.length d3.firstC, .slice d3.lastA d3.last.length d3.lastC, .int .u64 (d3.seq : Int)] 41)).alloc (.cells #[.int .i64 d3.file, .int .i64 d3.bytes, .int .i64 d3.count, .slice d3.firstA d3.first.length d3.firstC, .slice d3.lastA d3.last.length d3.lastC, .int .u64 (d3.seq : Int), .int .i64 d2.file, .int .i64 d2.bytes, .int .i64 d2.count, .slice d2.firstA d2.first.length d2.firstC, .slice d2.lastA d2.last.length d2.lastC, .int .u64 (d2.seq : Int), .int .i64 d1.file, .int .i64 d1.bytes, .int .i64 d1.count, .slice d1.firstA d1.first.length d1.firstC, .slice d1.lastA d1.last.length d1.lastC, .int .u64 (d1.seq : Int)] 41)).alloc (.cells #[.slice (some ⟨V3.heap.size + 1, 0, none⟩) 3 3, .int .i64 4, .int .i64 9, .int .u64 3] 44)) (V3.heap.size + 1) 41 (d3.cells ++ (d2.cells ++ d1.cells)) := by
    have h := Box.new (V3.alloc (.cells #[.int .i64 d3.file, .int .i64 d3.bytes, .int .i64 d3.count, .slice d3.firstA d3.first.length d3.firstC, .slice d3.lastA d3.last.length d3.lastC, .int .u64 (d3.seq : Int)] 41)) 41 (d3.cells ++ (d2.cells ++ d1.cells))
    rw [s1] at h
    exact h.alloc _
  have by' : Box (((V3.alloc (.cells #[.int .i64 d3.file, .int .i64 d3.bytes, .int .i64 d3.count, .slice d3.firstA d3.first.length d3.firstC, .slice d3.lastA d3.last.length d3.lastC, .int .u64 (d3.seq : Int)] 41)).alloc (.cells #[.int .i64 d3.file, .int .i64 d3.bytes, .int .i64 d3.count, .slice d3.firstA d3.first.length d3.firstC, .slice d3.lastA d3.last.length d3.lastC, .int .u64 (d3.seq : Int), .int .i64 d2.file, .int .i64 d2.bytes, .int .i64 d2.count, .slice d2.firstA d2.first.length d2.firstC, .slice d2.lastA d2.last.length d2.lastC, .int .u64 (d2.seq : Int), .int .i64 d1.file, .int .i64 d1.bytes, .int .i64 d1.count, .slice d1.firstA d1.first.length d1.firstC, .slice d1.lastA d1.last.length d1.lastC, .int .u64 (d1.seq : Int)] 41)).alloc (.cells #[.slice (some ⟨V3.heap.size + 1, 0, none⟩) 3 3, .int .i64 4, .int .i64 9, .int .u64 3] 44)) (V3.heap.size + 1 + 1) 44 (Y.cells (⟨some ⟨V3.heap.size + 1, 0, none⟩, 3, [d3, d2, d1], 4, 9, 3⟩ : Y)) := by
    have h := Box.new ((V3.alloc (.cells #[.int .i64 d3.file, .int .i64 d3.bytes, .int .i64 d3.count, .slice d3.firstA d3.first.length d3.firstC, .slice d3.lastA d3.last.length d3.lastC, .int .u64 (d3.seq : Int)] 41)).alloc (.cells #[.int .i64 d3.file, .int .i64 d3.bytes, .int .i64 d3.count, .slice d3.firstA d3.first.length d3.firstC, .slice d3.lastA d3.last.length d3.lastC, .int .u64 (d3.seq : Int), .int .i64 d2.file, .int .i64 d2.bytes, .int .i64 d2.count, .slice d2.firstA d2.first.length d2.firstC, .slice d2.lastA d2.last.length d2.lastC, .int .u64 (d2.seq : Int), .int .i64 d1.file, .int .i64 d1.bytes, .int .i64 d1.count, .slice d1.firstA d1.first.length d1.firstC, .slice d1.lastA d1.last.length d1.lastC, .int .u64 (d1.seq : Int)] 41)) 44 (Y.cells (⟨some ⟨V3.heap.size + 1, 0, none⟩, 3, [d3, d2, d1], 4, 9, 3⟩ : Y))
    have e : ((V3.alloc (.cells #[.int .i64 d3.file, .int .i64 d3.bytes, .int .i64 d3.count, .slice d3.firstA d3.first.length d3.firstC, .slice d3.lastA d3.last.length d3.lastC, .int .u64 (d3.seq : Int)] 41)).alloc (.cells #[.int .i64 d3.file, .int .i64 d3.bytes, .int .i64 d3.count, .slice d3.firstA d3.first.length d3.firstC, .slice d3.lastA d3.last.length d3.lastC, .int .u64 (d3.seq : Int), .int .i64 d2.file, .int .i64 d2.bytes, .int .i64 d2.count, .slice d2.firstA d2.first.length d2.firstC, .slice d2.lastA d2.last.length d2.lastC, .int .u64 (d2.seq : Int), .int .i64 d1.file, .int .i64 d1.bytes, .int .i64 d1.count, .slice d1.firstA d1.first.length d1.firstC, .slice d1.lastA d1.last.length d1.lastC, .int .u64 (d1.seq : Int)] 41)).heap.size = V3.heap.size + 1 + 1 := by simp
    rwa [e] at h
  have HY : Hid (Y.Ok (((V3.alloc (.cells #[.int .i64 d3.file, .int .i64 d3.bytes, .int .i64 d3.count, .slice d3.firstA d3.first.length d3.firstC, .slice d3.lastA d3.last.length d3.lastC, .int .u64 (d3.seq : Int)] 41)).alloc (.cells #[.int .i64 d3.file, .int .i64 d3.bytes, .int .i64 d3.count, .slice d3.firstA d3.first.length d3.firstC, .slice d3.lastA d3.last.length d3.lastC, .int .u64 (d3.seq : Int), .int .i64 d2.file, .int .i64 d2.bytes, .int .i64 d2.count, .slice d2.firstA d2.first.length d2.firstC, .slice d2.lastA d2.last.length d2.lastC, .int .u64 (d2.seq : Int), .int .i64 d1.file, .int .i64 d1.bytes, .int .i64 d1.count, .slice d1.firstA d1.first.length d1.firstC, .slice d1.lastA d1.last.length d1.lastC, .int .u64 (d1.seq : Int)] 41)).alloc (.cells #[.slice (some ⟨V3.heap.size + 1, 0, none⟩) 3 3, .int .i64 4, .int .i64 9, .int .u64 3] 44)) (((V3.alloc (.cells #[.int .i64 d3.file, .int .i64 d3.bytes, .int .i64 d3.count, .slice d3.firstA d3.first.length d3.firstC, .slice d3.lastA d3.last.length d3.lastC, .int .u64 (d3.seq : Int)] 41)).alloc (.cells #[.int .i64 d3.file, .int .i64 d3.bytes, .int .i64 d3.count, .slice d3.firstA d3.first.length d3.firstC, .slice d3.lastA d3.last.length d3.lastC, .int .u64 (d3.seq : Int), .int .i64 d2.file, .int .i64 d2.bytes, .int .i64 d2.count, .slice d2.firstA d2.first.length d2.firstC, .slice d2.lastA d2.last.length d2.lastC, .int .u64 (d2.seq : Int), .int .i64 d1.file, .int .i64 d1.bytes, .int .i64 d1.count, .slice d1.firstA d1.first.length d1.firstC, .slice d1.lastA d1.last.length d1.lastC, .int .u64 (d1.seq : Int)] 41)).alloc (.cells #[.slice (some ⟨V3.heap.size + 1, 0, none⟩) 3 3, .int .i64 4, .int .i64 9, .int .u64 3] 44)).heap.size (⟨some ⟨V3.heap.size + 1, 0, none⟩, 3, [d3, d2, d1], 4, 9, 3⟩ : Y)) := Lib.hid (ver_ok (OC.next hU).ok (OB1.next hU).ok (OA1.next hU).ok bx)
  have HVS : Hid (Vs (((V3.alloc (.cells #[.int .i64 d3.file, .int .i64 d3.bytes, .int .i64 d3.count, .slice d3.firstA d3.first.length d3.firstC, .slice d3.lastA d3.last.length d3.lastC, .int .u64 (d3.seq : Int)] 41)).alloc (.cells #[.int .i64 d3.file, .int .i64 d3.bytes, .int .i64 d3.count, .slice d3.firstA d3.first.length d3.firstC, .slice d3.lastA d3.last.length d3.lastC, .int .u64 (d3.seq : Int), .int .i64 d2.file, .int .i64 d2.bytes, .int .i64 d2.count, .slice d2.firstA d2.first.length d2.firstC, .slice d2.lastA d2.last.length d2.lastC, .int .u64 (d2.seq : Int), .int .i64 d1.file, .int .i64 d1.bytes, .int .i64 d1.count, .slice d1.firstA d1.first.length d1.firstC, .slice d1.lastA d1.last.length d1.lastC, .int .u64 (d1.seq : Int)] 41)).alloc (.cells #[.slice (some ⟨V3.heap.size + 1, 0, none⟩) 3 3, .int .i64 4, .int .i64 9, .int .u64 3] 44)) (V3.heap.size + 1 + 1) (⟨some ⟨V3.heap.size + 1, 0, none⟩, 3, [d3, d2, d1], 4, 9, 3⟩ : Y)) := Lib.hid ⟨by', HY.out⟩
  have HBE2 := Lib.hid (HBE.out.trans (hN.mono HBE.out.size))
  clear hV s1 OC OA1 OB1 hU hN bx by' HBE HY
  have HBE := Lib.hid HBE2.out
  clear HBE2
  have lc := load_run (d := d3) (BC.out.cell 0) (BC.out.cell 1) (BC.out.cell 2) (BC.out.cell 3) (BC.out.cell 4) (BC.out.cell 5)
  have lb := load_run (d := d2) (BB.out.cell 0) (BB.out.cell 1) (BB.out.cell 2) (BB.out.cell 3) (BB.out.cell 4) (BB.out.cell 5)
  have la := load_run (d := d1) (BA.out.cell 0) (BA.out.cell 1) (BA.out.cell 2) (BA.out.cell 3) (BA.out.cell 4) (BA.out.cell 5)
  obtain ⟨c0, c1, c2, c3, c4, c5⟩ := six_at BC.out
  obtain ⟨e0, e1, e2, e3, e4, e5⟩ := six_at BB.out
  obtain ⟨f0, f1, f2, f3, f4, f5⟩ := six_at BA.out
  go_upto_region 6 with fail
  clear BC BB BA OA OB lc lb la c0 c1 c2 c3 c4 c5 e0 e1 e2 e3 e4 e5 f0 f1 f2 f3 f4 f5
  generalize ((V3.alloc (.cells #[.int .i64 d3.file, .int .i64 d3.bytes, .int .i64 d3.count, .slice d3.firstA d3.first.length d3.firstC, .slice d3.lastA d3.last.length d3.lastC, .int .u64 (d3.seq : Int)] 41)).alloc (.cells #[.int .i64 d3.file, .int .i64 d3.bytes, .int .i64 d3.count, .slice d3.firstA d3.first.length d3.firstC, .slice d3.lastA d3.last.length d3.lastC, .int .u64 (d3.seq : Int), .int .i64 d2.file, .int .i64 d2.bytes, .int .i64 d2.count, .slice d2.firstA d2.first.length d2.firstC, .slice d2.lastA d2.last.length d2.lastC, .int .u64 (d2.seq : Int), .int .i64 d1.file, .int .i64 d1.bytes, .int .i64 d1.count, .slice d1.firstA d1.first.length d1.firstC, .slice d1.lastA d1.last.length d1.lastC, .int .u64 (d1.seq : Int)] 41)).alloc (.cells #[.slice (some ⟨V3.heap.size + 1, 0, none⟩) 3 3, .int .i64 4, .int .i64 9, .int .u64 3] 44) = V4 at *
  obtain ⟨gr, hgr⟩ : ∃ g, g = V3.heap.size + 1 := ⟨_, rfl⟩
  rw [← hgr] at HVS ⊢
  clear hgr
  obtain ⟨gv, hgv⟩ : ∃ g, g = gr + 1 := ⟨_, rfl⟩
  rw [← hgv] at HVS ⊢
  clear hgv
  obtain ⟨y, hy⟩ : ∃ y : Y, y = (⟨some ⟨gr, 0, none⟩, 3, [d3, d2, d1], 4, 9, 3⟩ : Y) := ⟨_, rfl⟩
  rw [← hy] at HVS
  have HVT : Hid (Y.t y = vC) := Lib.hid (by
    rw [hy]
    unfold Y.t
    simp only [List.map_cons, List.map_nil, HRU1.out, HRU2.out, HRU3.out])
  clear hy HRU1 HRU2 HRU3 HOK1 HOK2 HOK3
  go_cut [8] (fun v wx => ∃ (g : Nat) (xs : List X), v = .slice (some ⟨g, 0, none⟩) 15 15 ∧ Eds wx wx.heap.size (some ⟨g, 0, none⟩) 15 xs ∧ xs.map X.e = esC ∧ Vs wx gv y ∧ Below w.heap.size w wx)
  case first =>
    go_wp2_with fail
    refine (run_any 2 9 _ (by decide) (by decide)).mono ?_
    rintro e V5 ⟨d5, rfl, ru5, ok5, hb⟩
    have HRU5 := Lib.hid ru5
    have HOK5 := Lib.hid ok5
    have hV : Below V4.heap.size V4 V4 := Below.refl _ _
    have hV := hV.trans ((Joins.below_alloc1 V4 (.cells #[.int .i64 7] 3)).mono hV.size)
    have hN : Below V4.heap.size V4 V5 := hV.trans (hb.mono hV.size)
    have HVSx := Lib.hid (HVS.out.next hN)
    clear HVS
    have HVS := Lib.hid HVSx.out
    clear HVSx
    have I0a := Ints.new V4 [7]
    have I0a := I0a.next hb
    have I0 := Lib.hid I0a
    clear I0a
    have HBE2 := Lib.hid (HBE.out.trans (hN.mono HBE.out.size))
    clear HBE
    have HBE := Lib.hid HBE2.out
    clear HBE2 hV hN
    clear ru5 ok5 hb
    go_wp2_with fail
    refine (run_any 4 4 _ (by decide) (by decide)).mono ?_
    rintro e V6 ⟨d6, rfl, ru6, ok6, hb⟩
    have HRU6 := Lib.hid ru6
    have HOK6 := Lib.hid ok6
    have hV : Below V5.heap.size V5 V5 := Below.refl _ _
    have hV := hV.trans ((Joins.below_alloc1 V5 (.cells #[.int .i64 d5.file, .int .i64 d5.bytes, .int .i64 d5.count, .slice d5.firstA d5.first.length d5.firstC, .slice d5.lastA d5.last.length d5.lastC, .int .u64 (d5.seq : Int)] 41)).mono hV.size)
    have hV := hV.trans ((Joins.below_alloc1 (V5.alloc (.cells #[.int .i64 d5.file, .int .i64 d5.bytes, .int .i64 d5.count, .slice d5.firstA d5.first.length d5.firstC, .slice d5.lastA d5.last.length d5.lastC, .int .u64 (d5.seq : Int)] 41)) (.cells #[.int .i64 3, .int .i64 1] 3)).mono hV.size)
    have hN : Below V5.heap.size V5 V6 := hV.trans (hb.mono hV.size)
    have HVSx := Lib.hid (HVS.out.next hN)
    clear HVS
    have HVS := Lib.hid HVSx.out
    clear HVSx
    have I0x := Lib.hid (I0.out.next hN)
    clear I0
    have I0 := Lib.hid I0x.out
    clear I0x
    have O1a := One.new HOK5.out
    have O1a := O1a.next (Joins.below_alloc1 (V5.alloc (.cells #[.int .i64 d5.file, .int .i64 d5.bytes, .int .i64 d5.count, .slice d5.firstA d5.first.length d5.firstC, .slice d5.lastA d5.last.length d5.lastC, .int .u64 (d5.seq : Int)] 41)) (.cells #[.int .i64 3, .int .i64 1] 3))
    have O1a := O1a.next hb
    have O1 := Lib.hid O1a
    clear O1a
    have I2a := Ints.new (V5.alloc (.cells #[.int .i64 d5.file, .int .i64 d5.bytes, .int .i64 d5.count, .slice d5.firstA d5.first.length d5.firstC, .slice d5.lastA d5.last.length d5.lastC, .int .u64 (d5.seq : Int)] 41)) [3, 1]
    rw [show (V5.alloc (.cells #[.int .i64 d5.file, .int .i64 d5.bytes, .int .i64 d5.count, .slice d5.firstA d5.first.length d5.firstC, .slice d5.lastA d5.last.length d5.lastC, .int .u64 (d5.seq : Int)] 41)).heap.size = V5.heap.size + 1 by simp] at I2a
    have I2a := I2a.next hb
    have I2 := Lib.hid I2a
    clear I2a
    have HBE2 := Lib.hid (HBE.out.trans (hN.mono HBE.out.size))
    clear HBE
    have HBE := Lib.hid HBE2.out
    clear HBE2 hV hN
    clear ru6 ok6 hb
    go_wp2_with fail
    refine (run_any 4 4 _ (by decide) (by decide)).mono ?_
    rintro e V7 ⟨d7, rfl, ru7, ok7, hb⟩
    have HRU7 := Lib.hid ru7
    have HOK7 := Lib.hid ok7
    have hV : Below V6.heap.size V6 V6 := Below.refl _ _
    have hV := hV.trans ((Joins.below_alloc1 V6 (.cells #[.int .i64 d6.file, .int .i64 d6.bytes, .int .i64 d6.count, .slice d6.firstA d6.first.length d6.firstC, .slice d6.lastA d6.last.length d6.lastC, .int .u64 (d6.seq : Int)] 41)).mono hV.size)
    have hN : Below V6.heap.size V6 V7 := hV.trans (hb.mono hV.size)
    have HVSx := Lib.hid (HVS.out.next hN)
    clear HVS
    have HVS := Lib.hid HVSx.out
    clear HVSx
    have I0x := Lib.hid (I0.out.next hN)
    clear I0
    have I0 := Lib.hid I0x.out
    clear I0x
    have O1x := Lib.hid (O1.out.next hN)
    clear O1
    have O1 := Lib.hid O1x.out
    clear O1x
    have I2x := Lib.hid (I2.out.next hN)
    clear I2
    have I2 := Lib.hid I2x.out
    clear I2x
    have O6a := One.new HOK6.out
    have O6a := O6a.next hb
    have O6 := Lib.hid O6a
    clear O6a
    have HBE2 := Lib.hid (HBE.out.trans (hN.mono HBE.out.size))
    clear HBE
    have HBE := Lib.hid HBE2.out
    clear HBE2 hV hN
    clear ru7 ok7 hb
    go_wp2_with fail
    refine (run_any 4 4 _ (by decide) (by decide)).mono ?_
    rintro e V8 ⟨d8, rfl, ru8, ok8, hb⟩
    have HRU8 := Lib.hid ru8
    have HOK8 := Lib.hid ok8
    have hV : Below V7.heap.size V7 V7 := Below.refl _ _
    have hV := hV.trans ((Joins.below_alloc1 V7 (.cells #[.int .i64 d7.file, .int .i64 d7.bytes, .int .i64 d7.count, .slice d7.firstA d7.first.length d7.firstC, .slice d7.lastA d7.last.length d7.lastC, .int .u64 (d7.seq : Int)] 41)).mono hV.size)
    have hN : Below V7.heap.size V7 V8 := hV.trans (hb.mono hV.size)
    have HVSx := Lib.hid (HVS.out.next hN)
    clear HVS
    have HVS := Lib.hid HVSx.out
    clear HVSx
    have I0x := Lib.hid (I0.out.next hN)
    clear I0
    have I0 := Lib.hid I0x.out
    clear I0x
    have O1x := Lib.hid (O1.out.next hN)
    clear O1
    have O1 := Lib.hid O1x.out
    clear O1x
    have I2x := Lib.hid (I2.out.next hN)
    clear I2
    have I2 := Lib.hid I2x.out
    clear I2x
    have O6x := Lib.hid (O6.out.next hN)
    clear O6
    have O6 := Lib.hid O6x.out
    clear O6x
    have O7a := One.new HOK7.out
    have O7a := O7a.next hb
    have O7 := Lib.hid O7a
    clear O7a
    have HBE2 := Lib.hid (HBE.out.trans (hN.mono HBE.out.size))
    clear HBE
    have HBE := Lib.hid HBE2.out
    clear HBE2 hV hN
    clear ru8 ok8 hb
    go_wp2_with fail
    refine (run_any 3 3 _ (by decide) (by decide)).mono ?_
    rintro e V9 ⟨d9, rfl, ru9, ok9, hb⟩
    have HRU9 := Lib.hid ru9
    have HOK9 := Lib.hid ok9
    have hV : Below V8.heap.size V8 V8 := Below.refl _ _
    have hV := hV.trans ((Joins.below_alloc1 V8 (.cells #[.int .i64 d8.file, .int .i64 d8.bytes, .int .i64 d8.count, .slice d8.firstA d8.first.length d8.firstC, .slice d8.lastA d8.last.length d8.lastC, .int .u64 (d8.seq : Int)] 41)).mono hV.size)
    have hN : Below V8.heap.size V8 V9 := hV.trans (hb.mono hV.size)
    have HVSx := Lib.hid (HVS.out.next hN)
    clear HVS
    have HVS := Lib.hid HVSx.out
    clear HVSx
    have I0x := Lib.hid (I0.out.next hN)
    clear I0
    have I0 := Lib.hid I0x.out
    clear I0x
    have O1x := Lib.hid (O1.out.next hN)
    clear O1
    have O1 := Lib.hid O1x.out
    clear O1x
    have I2x := Lib.hid (I2.out.next hN)
    clear I2
    have I2 := Lib.hid I2x.out
    clear I2x
    have O6x := Lib.hid (O6.out.next hN)
    clear O6
    have O6 := Lib.hid O6x.out
    clear O6x
    have O7x := Lib.hid (O7.out.next hN)
    clear O7
    have O7 := Lib.hid O7x.out
    clear O7x
    have O8a := One.new HOK8.out
    have O8a := O8a.next hb
    have O8 := Lib.hid O8a
    clear O8a
    have HBE2 := Lib.hid (HBE.out.trans (hN.mono HBE.out.size))
    clear HBE
    have HBE := Lib.hid HBE2.out
    clear HBE2 hV hN
    clear ru9 ok9 hb
    go_wp2_with fail
    refine (run_any 2 1 _ (by decide) (by decide)).mono ?_
    rintro e V10 ⟨d10, rfl, ru10, ok10, hb⟩
    have HRU10 := Lib.hid ru10
    have HOK10 := Lib.hid ok10
    have hV : Below V9.heap.size V9 V9 := Below.refl _ _
    have hV := hV.trans ((Joins.below_alloc1 V9 (.cells #[.int .i64 d9.file, .int .i64 d9.bytes, .int .i64 d9.count, .slice d9.firstA d9.first.length d9.firstC, .slice d9.lastA d9.last.length d9.lastC, .int .u64 (d9.seq : Int)] 41)).mono hV.size)
    have hV := hV.trans ((Joins.below_alloc1 (V9.alloc (.cells #[.int .i64 d9.file, .int .i64 d9.bytes, .int .i64 d9.count, .slice d9.firstA d9.first.length d9.firstC, .slice d9.lastA d9.last.length d9.lastC, .int .u64 (d9.seq : Int)] 41)) (.cells #[.int .i64 3, .int .i64 2] 3)).mono hV.size)
    have hV := hV.trans ((Joins.below_alloc1 ((V9.alloc (.cells #[.int .i64 d9.file, .int .i64 d9.bytes, .int .i64 d9.count, .slice d9.firstA d9.first.length d9.firstC, .slice d9.lastA d9.last.length d9.lastC, .int .u64 (d9.seq : Int)] 41)).alloc (.cells #[.int .i64 3, .int .i64 2] 3)) (.cells #[.int .i64 2] 3)).mono hV.size)
    have hV := hV.trans ((Joins.below_alloc1 (((V9.alloc (.cells #[.int .i64 d9.file, .int .i64 d9.bytes, .int .i64 d9.count, .slice d9.firstA d9.first.length d9.firstC, .slice d9.lastA d9.last.length d9.lastC, .int .u64 (d9.seq : Int)] 41)).alloc (.cells #[.int .i64 3, .int .i64 2] 3)).alloc (.cells #[.int .i64 2] 3)) (.cells #[.int .i64 1, .int .i64 1] 3)).mono hV.size)
    have hV := hV.trans ((Joins.below_alloc1 ((((V9.alloc (.cells #[.int .i64 d9.file, .int .i64 d9.bytes, .int .i64 d9.count, .slice d9.firstA d9.first.length d9.firstC, .slice d9.lastA d9.last.length d9.lastC, .int .u64 (d9.seq : Int)] 41)).alloc (.cells #[.int .i64 3, .int .i64 2] 3)).alloc (.cells #[.int .i64 2] 3)).alloc (.cells #[.int .i64 1, .int .i64 1] 3)) (.cells #[.int .i64 1, .int .i64 2, .int .i64 3] 3)).mono hV.size)
    have hN : Below V9.heap.size V9 V10 := hV.trans (hb.mono hV.size)
    have HVSx := Lib.hid (HVS.out.next hN)
    clear HVS
    have HVS := Lib.hid HVSx.out
    clear HVSx
    have I0x := Lib.hid (I0.out.next hN)
    clear I0
    have I0 := Lib.hid I0x.out
    clear I0x
    have O1x := Lib.hid (O1.out.next hN)
    clear O1
    have O1 := Lib.hid O1x.out
    clear O1x
    have I2x := Lib.hid (I2.out.next hN)
    clear I2
    have I2 := Lib.hid I2x.out
    clear I2x
    have O6x := Lib.hid (O6.out.next hN)
    clear O6
    have O6 := Lib.hid O6x.out
    clear O6x
    have O7x := Lib.hid (O7.out.next hN)
    clear O7
    have O7 := Lib.hid O7x.out
    clear O7x
    have O8x := Lib.hid (O8.out.next hN)
    clear O8
    have O8 := Lib.hid O8x.out
    clear O8x
    have O9a := One.new HOK9.out
    have O9a := O9a.next (Joins.below_alloc1 (V9.alloc (.cells #[.int .i64 d9.file, .int .i64 d9.bytes, .int .i64 d9.count, .slice d9.firstA d9.first.length d9.firstC, .slice d9.lastA d9.last.length d9.lastC, .int .u64 (d9.seq : Int)] 41)) (.cells #[.int .i64 3, .int .i64 2] 3))
    have O9a := O9a.next (Joins.below_alloc1 ((V9.alloc (.cells #[.int .i64 d9.file, .int .i64 d9.bytes, .int .i64 d9.count, .slice d9.firstA d9.first.length d9.firstC, .slice d9.lastA d9.last.length d9.lastC, .int .u64 (d9.seq : Int)] 41)).alloc (.cells #[.int .i64 3, .int .i64 2] 3)) (.cells #[.int .i64 2] 3))
    have O9a := O9a.next (Joins.below_alloc1 (((V9.alloc (.cells #[.int .i64 d9.file, .int .i64 d9.bytes, .int .i64 d9.count, .slice d9.firstA d9.first.length d9.firstC, .slice d9.lastA d9.last.length d9.lastC, .int .u64 (d9.seq : Int)] 41)).alloc (.cells #[.int .i64 3, .int .i64 2] 3)).alloc (.cells #[.int .i64 2] 3)) (.cells #[.int .i64 1, .int .i64 1] 3))
    have O9a := O9a.next (Joins.below_alloc1 ((((V9.alloc (.cells #[.int .i64 d9.file, .int .i64 d9.bytes, .int .i64 d9.count, .slice d9.firstA d9.first.length d9.firstC, .slice d9.lastA d9.last.length d9.lastC, .int .u64 (d9.seq : Int)] 41)).alloc (.cells #[.int .i64 3, .int .i64 2] 3)).alloc (.cells #[.int .i64 2] 3)).alloc (.cells #[.int .i64 1, .int .i64 1] 3)) (.cells #[.int .i64 1, .int .i64 2, .int .i64 3] 3))
    have O9a := O9a.next hb
    have O9 := Lib.hid O9a
    clear O9a
    have I9a := Ints.new (V9.alloc (.cells #[.int .i64 d9.file, .int .i64 d9.bytes, .int .i64 d9.count, .slice d9.firstA d9.first.length d9.firstC, .slice d9.lastA d9.last.length d9.lastC, .int .u64 (d9.seq : Int)] 41)) [3, 2]
    rw [show (V9.alloc (.cells #[.int .i64 d9.file, .int .i64 d9.bytes, .int .i64 d9.count, .slice d9.firstA d9.first.length d9.firstC, .slice d9.lastA d9.last.length d9.lastC, .int .u64 (d9.seq : Int)] 41)).heap.size = V9.heap.size + 1 by simp] at I9a
    have I9a := I9a.next (Joins.below_alloc1 ((V9.alloc (.cells #[.int .i64 d9.file, .int .i64 d9.bytes, .int .i64 d9.count, .slice d9.firstA d9.first.length d9.firstC, .slice d9.lastA d9.last.length d9.lastC, .int .u64 (d9.seq : Int)] 41)).alloc (.cells #[.int .i64 3, .int .i64 2] 3)) (.cells #[.int .i64 2] 3))
    have I9a := I9a.next (Joins.below_alloc1 (((V9.alloc (.cells #[.int .i64 d9.file, .int .i64 d9.bytes, .int .i64 d9.count, .slice d9.firstA d9.first.length d9.firstC, .slice d9.lastA d9.last.length d9.lastC, .int .u64 (d9.seq : Int)] 41)).alloc (.cells #[.int .i64 3, .int .i64 2] 3)).alloc (.cells #[.int .i64 2] 3)) (.cells #[.int .i64 1, .int .i64 1] 3))
    have I9a := I9a.next (Joins.below_alloc1 ((((V9.alloc (.cells #[.int .i64 d9.file, .int .i64 d9.bytes, .int .i64 d9.count, .slice d9.firstA d9.first.length d9.firstC, .slice d9.lastA d9.last.length d9.lastC, .int .u64 (d9.seq : Int)] 41)).alloc (.cells #[.int .i64 3, .int .i64 2] 3)).alloc (.cells #[.int .i64 2] 3)).alloc (.cells #[.int .i64 1, .int .i64 1] 3)) (.cells #[.int .i64 1, .int .i64 2, .int .i64 3] 3))
    have I9a := I9a.next hb
    have I9 := Lib.hid I9a
    clear I9a
    have I10a := Ints.new ((V9.alloc (.cells #[.int .i64 d9.file, .int .i64 d9.bytes, .int .i64 d9.count, .slice d9.firstA d9.first.length d9.firstC, .slice d9.lastA d9.last.length d9.lastC, .int .u64 (d9.seq : Int)] 41)).alloc (.cells #[.int .i64 3, .int .i64 2] 3)) [2]
    rw [show ((V9.alloc (.cells #[.int .i64 d9.file, .int .i64 d9.bytes, .int .i64 d9.count, .slice d9.firstA d9.first.length d9.firstC, .slice d9.lastA d9.last.length d9.lastC, .int .u64 (d9.seq : Int)] 41)).alloc (.cells #[.int .i64 3, .int .i64 2] 3)).heap.size = V9.heap.size + 1 + 1 by simp] at I10a
    have I10a := I10a.next (Joins.below_alloc1 (((V9.alloc (.cells #[.int .i64 d9.file, .int .i64 d9.bytes, .int .i64 d9.count, .slice d9.firstA d9.first.length d9.firstC, .slice d9.lastA d9.last.length d9.lastC, .int .u64 (d9.seq : Int)] 41)).alloc (.cells #[.int .i64 3, .int .i64 2] 3)).alloc (.cells #[.int .i64 2] 3)) (.cells #[.int .i64 1, .int .i64 1] 3))
    have I10a := I10a.next (Joins.below_alloc1 ((((V9.alloc (.cells #[.int .i64 d9.file, .int .i64 d9.bytes, .int .i64 d9.count, .slice d9.firstA d9.first.length d9.firstC, .slice d9.lastA d9.last.length d9.lastC, .int .u64 (d9.seq : Int)] 41)).alloc (.cells #[.int .i64 3, .int .i64 2] 3)).alloc (.cells #[.int .i64 2] 3)).alloc (.cells #[.int .i64 1, .int .i64 1] 3)) (.cells #[.int .i64 1, .int .i64 2, .int .i64 3] 3))
    have I10a := I10a.next hb
    have I10 := Lib.hid I10a
    clear I10a
    have I11a := Ints.new (((V9.alloc (.cells #[.int .i64 d9.file, .int .i64 d9.bytes, .int .i64 d9.count, .slice d9.firstA d9.first.length d9.firstC, .slice d9.lastA d9.last.length d9.lastC, .int .u64 (d9.seq : Int)] 41)).alloc (.cells #[.int .i64 3, .int .i64 2] 3)).alloc (.cells #[.int .i64 2] 3)) [1, 1]
    rw [show (((V9.alloc (.cells #[.int .i64 d9.file, .int .i64 d9.bytes, .int .i64 d9.count, .slice d9.firstA d9.first.length d9.firstC, .slice d9.lastA d9.last.length d9.lastC, .int .u64 (d9.seq : Int)] 41)).alloc (.cells #[.int .i64 3, .int .i64 2] 3)).alloc (.cells #[.int .i64 2] 3)).heap.size = V9.heap.size + 1 + 1 + 1 by simp] at I11a
    have I11a := I11a.next (Joins.below_alloc1 ((((V9.alloc (.cells #[.int .i64 d9.file, .int .i64 d9.bytes, .int .i64 d9.count, .slice d9.firstA d9.first.length d9.firstC, .slice d9.lastA d9.last.length d9.lastC, .int .u64 (d9.seq : Int)] 41)).alloc (.cells #[.int .i64 3, .int .i64 2] 3)).alloc (.cells #[.int .i64 2] 3)).alloc (.cells #[.int .i64 1, .int .i64 1] 3)) (.cells #[.int .i64 1, .int .i64 2, .int .i64 3] 3))
    have I11a := I11a.next hb
    have I11 := Lib.hid I11a
    clear I11a
    have I13a := Ints.new ((((V9.alloc (.cells #[.int .i64 d9.file, .int .i64 d9.bytes, .int .i64 d9.count, .slice d9.firstA d9.first.length d9.firstC, .slice d9.lastA d9.last.length d9.lastC, .int .u64 (d9.seq : Int)] 41)).alloc (.cells #[.int .i64 3, .int .i64 2] 3)).alloc (.cells #[.int .i64 2] 3)).alloc (.cells #[.int .i64 1, .int .i64 1] 3)) [1, 2, 3]
    rw [show ((((V9.alloc (.cells #[.int .i64 d9.file, .int .i64 d9.bytes, .int .i64 d9.count, .slice d9.firstA d9.first.length d9.firstC, .slice d9.lastA d9.last.length d9.lastC, .int .u64 (d9.seq : Int)] 41)).alloc (.cells #[.int .i64 3, .int .i64 2] 3)).alloc (.cells #[.int .i64 2] 3)).alloc (.cells #[.int .i64 1, .int .i64 1] 3)).heap.size = V9.heap.size + 1 + 1 + 1 + 1 by simp] at I13a
    have I13a := I13a.next hb
    have I13 := Lib.hid I13a
    clear I13a
    have HBE2 := Lib.hid (HBE.out.trans (hN.mono HBE.out.size))
    clear HBE
    have HBE := Lib.hid HBE2.out
    clear HBE2 hV hN
    clear ru10 ok10 hb
    go_wp2_with fail
    have hV : Below V10.heap.size V10 V10 := Below.refl _ _
    have hV := hV.trans ((Joins.below_alloc1 V10 (.cells #[.int .i64 d10.file, .int .i64 d10.bytes, .int .i64 d10.count, .slice d10.firstA d10.first.length d10.firstC, .slice d10.lastA d10.last.length d10.lastC, .int .u64 (d10.seq : Int)] 41)).mono hV.size)
    have hV := hV.trans ((Joins.below_alloc1 (V10.alloc (.cells #[.int .i64 d10.file, .int .i64 d10.bytes, .int .i64 d10.count, .slice d10.firstA d10.first.length d10.firstC, .slice d10.lastA d10.last.length d10.lastC, .int .u64 (d10.seq : Int)] 41)) (.cells #[.int .i64 2] 3)).mono hV.size)
    have hV := hV.trans ((Joins.below_alloc1 ((V10.alloc (.cells #[.int .i64 d10.file, .int .i64 d10.bytes, .int .i64 d10.count, .slice d10.firstA d10.first.length d10.firstC, .slice d10.lastA d10.last.length d10.lastC, .int .u64 (d10.seq : Int)] 41)).alloc (.cells #[.int .i64 2] 3)) (.cells (cellsE ([⟨none, 0, [], some ⟨V4.heap.size, 0, none⟩, 1, [7], 0, 0, 0⟩, ⟨some ⟨V5.heap.size, 0, none⟩, 1, [d5], none, 0, [], 0, 0, 0⟩, ⟨none, 0, [], some ⟨V5.heap.size + 1, 0, none⟩, 2, [3, 1], 0, 0, 0⟩, ⟨none, 0, [], none, 0, [], 3, 0, 0⟩, ⟨none, 0, [], none, 0, [], 0, 8, 0⟩, ⟨none, 0, [], none, 0, [], 0, 0, 2⟩, ⟨some ⟨V6.heap.size, 0, none⟩, 1, [d6], none, 0, [], 0, 0, 0⟩, ⟨some ⟨V7.heap.size, 0, none⟩, 1, [d7], none, 0, [], 5, 0, 0⟩, ⟨some ⟨V8.heap.size, 0, none⟩, 1, [d8], none, 0, [], 5, 0, 4⟩, ⟨some ⟨V9.heap.size, 0, none⟩, 1, [d9], some ⟨V9.heap.size + 1, 0, none⟩, 2, [3, 2], 0, 0, 0⟩, ⟨none, 0, [], some ⟨V9.heap.size + 1 + 1, 0, none⟩, 1, [2], 0, 0, 0⟩, ⟨none, 0, [], some ⟨V9.heap.size + 1 + 1 + 1, 0, none⟩, 2, [1, 1], 0, 0, 0⟩, ⟨none, 0, [], none, 0, [], 0, 0, 0⟩, ⟨none, 0, [], some ⟨V9.heap.size + 1 + 1 + 1 + 1, 0, none⟩, 3, [1, 2, 3], 0, 0, 0⟩, ⟨some ⟨V10.heap.size, 0, none⟩, 1, [d10], some ⟨V10.heap.size + 1, 0, none⟩, 1, [2], 0, 0, 0⟩] : List X)).toArray 26)).mono hV.size)
    have hN : Below V10.heap.size V10 (((V10.alloc (.cells #[.int .i64 d10.file, .int .i64 d10.bytes, .int .i64 d10.count, .slice d10.firstA d10.first.length d10.firstC, .slice d10.lastA d10.last.length d10.lastC, .int .u64 (d10.seq : Int)] 41)).alloc (.cells #[.int .i64 2] 3)).alloc (.cells (cellsE ([⟨none, 0, [], some ⟨V4.heap.size, 0, none⟩, 1, [7], 0, 0, 0⟩, ⟨some ⟨V5.heap.size, 0, none⟩, 1, [d5], none, 0, [], 0, 0, 0⟩, ⟨none, 0, [], some ⟨V5.heap.size + 1, 0, none⟩, 2, [3, 1], 0, 0, 0⟩, ⟨none, 0, [], none, 0, [], 3, 0, 0⟩, ⟨none, 0, [], none, 0, [], 0, 8, 0⟩, ⟨none, 0, [], none, 0, [], 0, 0, 2⟩, ⟨some ⟨V6.heap.size, 0, none⟩, 1, [d6], none, 0, [], 0, 0, 0⟩, ⟨some ⟨V7.heap.size, 0, none⟩, 1, [d7], none, 0, [], 5, 0, 0⟩, ⟨some ⟨V8.heap.size, 0, none⟩, 1, [d8], none, 0, [], 5, 0, 4⟩, ⟨some ⟨V9.heap.size, 0, none⟩, 1, [d9], some ⟨V9.heap.size + 1, 0, none⟩, 2, [3, 2], 0, 0, 0⟩, ⟨none, 0, [], some ⟨V9.heap.size + 1 + 1, 0, none⟩, 1, [2], 0, 0, 0⟩, ⟨none, 0, [], some ⟨V9.heap.size + 1 + 1 + 1, 0, none⟩, 2, [1, 1], 0, 0, 0⟩, ⟨none, 0, [], none, 0, [], 0, 0, 0⟩, ⟨none, 0, [], some ⟨V9.heap.size + 1 + 1 + 1 + 1, 0, none⟩, 3, [1, 2, 3], 0, 0, 0⟩, ⟨some ⟨V10.heap.size, 0, none⟩, 1, [d10], some ⟨V10.heap.size + 1, 0, none⟩, 1, [2], 0, 0, 0⟩] : List X)).toArray 26)) := hV
    have HVSx := Lib.hid (HVS.out.next hN)
    clear HVS
    have HVS := Lib.hid HVSx.out
    clear HVSx
    have I0x := Lib.hid (I0.out.next hN)
    clear I0
    have I0 := Lib.hid I0x.out
    clear I0x
    have O1x := Lib.hid (O1.out.next hN)
    clear O1
    have O1 := Lib.hid O1x.out
    clear O1x
    have I2x := Lib.hid (I2.out.next hN)
    clear I2
    have I2 := Lib.hid I2x.out
    clear I2x
    have O6x := Lib.hid (O6.out.next hN)
    clear O6
    have O6 := Lib.hid O6x.out
    clear O6x
    have O7x := Lib.hid (O7.out.next hN)
    clear O7
    have O7 := Lib.hid O7x.out
    clear O7x
    have O8x := Lib.hid (O8.out.next hN)
    clear O8
    have O8 := Lib.hid O8x.out
    clear O8x
    have O9x := Lib.hid (O9.out.next hN)
    clear O9
    have O9 := Lib.hid O9x.out
    clear O9x
    have I9x := Lib.hid (I9.out.next hN)
    clear I9
    have I9 := Lib.hid I9x.out
    clear I9x
    have I10x := Lib.hid (I10.out.next hN)
    clear I10
    have I10 := Lib.hid I10x.out
    clear I10x
    have I11x := Lib.hid (I11.out.next hN)
    clear I11
    have I11 := Lib.hid I11x.out
    clear I11x
    have I13x := Lib.hid (I13.out.next hN)
    clear I13
    have I13 := Lib.hid I13x.out
    clear I13x
    have O14a := One.new HOK10.out
    have O14a := O14a.next (Joins.below_alloc1 (V10.alloc (.cells #[.int .i64 d10.file, .int .i64 d10.bytes, .int .i64 d10.count, .slice d10.firstA d10.first.length d10.firstC, .slice d10.lastA d10.last.length d10.lastC, .int .u64 (d10.seq : Int)] 41)) (.cells #[.int .i64 2] 3))
    have O14a := O14a.next (Joins.below_alloc1 ((V10.alloc (.cells #[.int .i64 d10.file, .int .i64 d10.bytes, .int .i64 d10.count, .slice d10.firstA d10.first.length d10.firstC, .slice d10.lastA d10.last.length d10.lastC, .int .u64 (d10.seq : Int)] 41)).alloc (.cells #[.int .i64 2] 3)) (.cells (cellsE ([⟨none, 0, [], some ⟨V4.heap.size, 0, none⟩, 1, [7], 0, 0, 0⟩, ⟨some ⟨V5.heap.size, 0, none⟩, 1, [d5], none, 0, [], 0, 0, 0⟩, ⟨none, 0, [], some ⟨V5.heap.size + 1, 0, none⟩, 2, [3, 1], 0, 0, 0⟩, ⟨none, 0, [], none, 0, [], 3, 0, 0⟩, ⟨none, 0, [], none, 0, [], 0, 8, 0⟩, ⟨none, 0, [], none, 0, [], 0, 0, 2⟩, ⟨some ⟨V6.heap.size, 0, none⟩, 1, [d6], none, 0, [], 0, 0, 0⟩, ⟨some ⟨V7.heap.size, 0, none⟩, 1, [d7], none, 0, [], 5, 0, 0⟩, ⟨some ⟨V8.heap.size, 0, none⟩, 1, [d8], none, 0, [], 5, 0, 4⟩, ⟨some ⟨V9.heap.size, 0, none⟩, 1, [d9], some ⟨V9.heap.size + 1, 0, none⟩, 2, [3, 2], 0, 0, 0⟩, ⟨none, 0, [], some ⟨V9.heap.size + 1 + 1, 0, none⟩, 1, [2], 0, 0, 0⟩, ⟨none, 0, [], some ⟨V9.heap.size + 1 + 1 + 1, 0, none⟩, 2, [1, 1], 0, 0, 0⟩, ⟨none, 0, [], none, 0, [], 0, 0, 0⟩, ⟨none, 0, [], some ⟨V9.heap.size + 1 + 1 + 1 + 1, 0, none⟩, 3, [1, 2, 3], 0, 0, 0⟩, ⟨some ⟨V10.heap.size, 0, none⟩, 1, [d10], some ⟨V10.heap.size + 1, 0, none⟩, 1, [2], 0, 0, 0⟩] : List X)).toArray 26))
    have O14 := Lib.hid O14a
    clear O14a
    have I14a := Ints.new (V10.alloc (.cells #[.int .i64 d10.file, .int .i64 d10.bytes, .int .i64 d10.count, .slice d10.firstA d10.first.length d10.firstC, .slice d10.lastA d10.last.length d10.lastC, .int .u64 (d10.seq : Int)] 41)) [2]
    rw [show (V10.alloc (.cells #[.int .i64 d10.file, .int .i64 d10.bytes, .int .i64 d10.count, .slice d10.firstA d10.first.length d10.firstC, .slice d10.lastA d10.last.length d10.lastC, .int .u64 (d10.seq : Int)] 41)).heap.size = V10.heap.size + 1 by simp] at I14a
    have I14a := I14a.next (Joins.below_alloc1 ((V10.alloc (.cells #[.int .i64 d10.file, .int .i64 d10.bytes, .int .i64 d10.count, .slice d10.firstA d10.first.length d10.firstC, .slice d10.lastA d10.last.length d10.lastC, .int .u64 (d10.seq : Int)] 41)).alloc (.cells #[.int .i64 2] 3)) (.cells (cellsE ([⟨none, 0, [], some ⟨V4.heap.size, 0, none⟩, 1, [7], 0, 0, 0⟩, ⟨some ⟨V5.heap.size, 0, none⟩, 1, [d5], none, 0, [], 0, 0, 0⟩, ⟨none, 0, [], some ⟨V5.heap.size + 1, 0, none⟩, 2, [3, 1], 0, 0, 0⟩, ⟨none, 0, [], none, 0, [], 3, 0, 0⟩, ⟨none, 0, [], none, 0, [], 0, 8, 0⟩, ⟨none, 0, [], none, 0, [], 0, 0, 2⟩, ⟨some ⟨V6.heap.size, 0, none⟩, 1, [d6], none, 0, [], 0, 0, 0⟩, ⟨some ⟨V7.heap.size, 0, none⟩, 1, [d7], none, 0, [], 5, 0, 0⟩, ⟨some ⟨V8.heap.size, 0, none⟩, 1, [d8], none, 0, [], 5, 0, 4⟩, ⟨some ⟨V9.heap.size, 0, none⟩, 1, [d9], some ⟨V9.heap.size + 1, 0, none⟩, 2, [3, 2], 0, 0, 0⟩, ⟨none, 0, [], some ⟨V9.heap.size + 1 + 1, 0, none⟩, 1, [2], 0, 0, 0⟩, ⟨none, 0, [], some ⟨V9.heap.size + 1 + 1 + 1, 0, none⟩, 2, [1, 1], 0, 0, 0⟩, ⟨none, 0, [], none, 0, [], 0, 0, 0⟩, ⟨none, 0, [], some ⟨V9.heap.size + 1 + 1 + 1 + 1, 0, none⟩, 3, [1, 2, 3], 0, 0, 0⟩, ⟨some ⟨V10.heap.size, 0, none⟩, 1, [d10], some ⟨V10.heap.size + 1, 0, none⟩, 1, [2], 0, 0, 0⟩] : List X)).toArray 26))
    have I14 := Lib.hid I14a
    clear I14a
    have HBE2 := Lib.hid (HBE.out.trans (hN.mono HBE.out.size))
    clear HBE
    have HBE := Lib.hid HBE2.out
    clear HBE2 hV hN
    have hbe : Box (((V10.alloc (.cells #[.int .i64 d10.file, .int .i64 d10.bytes, .int .i64 d10.count, .slice d10.firstA d10.first.length d10.firstC, .slice d10.lastA d10.last.length d10.lastC, .int .u64 (d10.seq : Int)] 41)).alloc (.cells #[.int .i64 2] 3)).alloc (.cells (cellsE ([⟨none, 0, [], some ⟨V4.heap.size, 0, none⟩, 1, [7], 0, 0, 0⟩, ⟨some ⟨V5.heap.size, 0, none⟩, 1, [d5], none, 0, [], 0, 0, 0⟩, ⟨none, 0, [], some ⟨V5.heap.size + 1, 0, none⟩, 2, [3, 1], 0, 0, 0⟩, ⟨none, 0, [], none, 0, [], 3, 0, 0⟩, ⟨none, 0, [], none, 0, [], 0, 8, 0⟩, ⟨none, 0, [], none, 0, [], 0, 0, 2⟩, ⟨some ⟨V6.heap.size, 0, none⟩, 1, [d6], none, 0, [], 0, 0, 0⟩, ⟨some ⟨V7.heap.size, 0, none⟩, 1, [d7], none, 0, [], 5, 0, 0⟩, ⟨some ⟨V8.heap.size, 0, none⟩, 1, [d8], none, 0, [], 5, 0, 4⟩, ⟨some ⟨V9.heap.size, 0, none⟩, 1, [d9], some ⟨V9.heap.size + 1, 0, none⟩, 2, [3, 2], 0, 0, 0⟩, ⟨none, 0, [], some ⟨V9.heap.size + 1 + 1, 0, none⟩, 1, [2], 0, 0, 0⟩, ⟨none, 0, [], some ⟨V9.heap.size + 1 + 1 + 1, 0, none⟩, 2, [1, 1], 0, 0, 0⟩, ⟨none, 0, [], none, 0, [], 0, 0, 0⟩, ⟨none, 0, [], some ⟨V9.heap.size + 1 + 1 + 1 + 1, 0, none⟩, 3, [1, 2, 3], 0, 0, 0⟩, ⟨some ⟨V10.heap.size, 0, none⟩, 1, [d10], some ⟨V10.heap.size + 1, 0, none⟩, 1, [2], 0, 0, 0⟩] : List X)).toArray 26)) (V10.heap.size + 1 + 1) 26 (cellsE ([⟨none, 0, [], some ⟨V4.heap.size, 0, none⟩, 1, [7], 0, 0, 0⟩, ⟨some ⟨V5.heap.size, 0, none⟩, 1, [d5], none, 0, [], 0, 0, 0⟩, ⟨none, 0, [], some ⟨V5.heap.size + 1, 0, none⟩, 2, [3, 1], 0, 0, 0⟩, ⟨none, 0, [], none, 0, [], 3, 0, 0⟩, ⟨none, 0, [], none, 0, [], 0, 8, 0⟩, ⟨none, 0, [], none, 0, [], 0, 0, 2⟩, ⟨some ⟨V6.heap.size, 0, none⟩, 1, [d6], none, 0, [], 0, 0, 0⟩, ⟨some ⟨V7.heap.size, 0, none⟩, 1, [d7], none, 0, [], 5, 0, 0⟩, ⟨some ⟨V8.heap.size, 0, none⟩, 1, [d8], none, 0, [], 5, 0, 4⟩, ⟨some ⟨V9.heap.size, 0, none⟩, 1, [d9], some ⟨V9.heap.size + 1, 0, none⟩, 2, [3, 2], 0, 0, 0⟩, ⟨none, 0, [], some ⟨V9.heap.size + 1 + 1, 0, none⟩, 1, [2], 0, 0, 0⟩, ⟨none, 0, [], some ⟨V9.heap.size + 1 + 1 + 1, 0, none⟩, 2, [1, 1], 0, 0, 0⟩, ⟨none, 0, [], none, 0, [], 0, 0, 0⟩, ⟨none, 0, [], some ⟨V9.heap.size + 1 + 1 + 1 + 1, 0, none⟩, 3, [1, 2, 3], 0, 0, 0⟩, ⟨some ⟨V10.heap.size, 0, none⟩, 1, [d10], some ⟨V10.heap.size + 1, 0, none⟩, 1, [2], 0, 0, 0⟩] : List X)) := by
      have h := Box.new ((V10.alloc (.cells #[.int .i64 d10.file, .int .i64 d10.bytes, .int .i64 d10.count, .slice d10.firstA d10.first.length d10.firstC, .slice d10.lastA d10.last.length d10.lastC, .int .u64 (d10.seq : Int)] 41)).alloc (.cells #[.int .i64 2] 3)) 26 (cellsE ([⟨none, 0, [], some ⟨V4.heap.size, 0, none⟩, 1, [7], 0, 0, 0⟩, ⟨some ⟨V5.heap.size, 0, none⟩, 1, [d5], none, 0, [], 0, 0, 0⟩, ⟨none, 0, [], some ⟨V5.heap.size + 1, 0, none⟩, 2, [3, 1], 0, 0, 0⟩, ⟨none, 0, [], none, 0, [], 3, 0, 0⟩, ⟨none, 0, [], none, 0, [], 0, 8, 0⟩, ⟨none, 0, [], none, 0, [], 0, 0, 2⟩, ⟨some ⟨V6.heap.size, 0, none⟩, 1, [d6], none, 0, [], 0, 0, 0⟩, ⟨some ⟨V7.heap.size, 0, none⟩, 1, [d7], none, 0, [], 5, 0, 0⟩, ⟨some ⟨V8.heap.size, 0, none⟩, 1, [d8], none, 0, [], 5, 0, 4⟩, ⟨some ⟨V9.heap.size, 0, none⟩, 1, [d9], some ⟨V9.heap.size + 1, 0, none⟩, 2, [3, 2], 0, 0, 0⟩, ⟨none, 0, [], some ⟨V9.heap.size + 1 + 1, 0, none⟩, 1, [2], 0, 0, 0⟩, ⟨none, 0, [], some ⟨V9.heap.size + 1 + 1 + 1, 0, none⟩, 2, [1, 1], 0, 0, 0⟩, ⟨none, 0, [], none, 0, [], 0, 0, 0⟩, ⟨none, 0, [], some ⟨V9.heap.size + 1 + 1 + 1 + 1, 0, none⟩, 3, [1, 2, 3], 0, 0, 0⟩, ⟨some ⟨V10.heap.size, 0, none⟩, 1, [d10], some ⟨V10.heap.size + 1, 0, none⟩, 1, [2], 0, 0, 0⟩] : List X))
      have e : ((V10.alloc (.cells #[.int .i64 d10.file, .int .i64 d10.bytes, .int .i64 d10.count, .slice d10.firstA d10.first.length d10.firstC, .slice d10.lastA d10.last.length d10.lastC, .int .u64 (d10.seq : Int)] 41)).alloc (.cells #[.int .i64 2] 3)).heap.size = V10.heap.size + 1 + 1 := by simp
      rwa [e] at h
    have HES : Hid (Eds (((V10.alloc (.cells #[.int .i64 d10.file, .int .i64 d10.bytes, .int .i64 d10.count, .slice d10.firstA d10.first.length d10.firstC, .slice d10.lastA d10.last.length d10.lastC, .int .u64 (d10.seq : Int)] 41)).alloc (.cells #[.int .i64 2] 3)).alloc (.cells (cellsE ([⟨none, 0, [], some ⟨V4.heap.size, 0, none⟩, 1, [7], 0, 0, 0⟩, ⟨some ⟨V5.heap.size, 0, none⟩, 1, [d5], none, 0, [], 0, 0, 0⟩, ⟨none, 0, [], some ⟨V5.heap.size + 1, 0, none⟩, 2, [3, 1], 0, 0, 0⟩, ⟨none, 0, [], none, 0, [], 3, 0, 0⟩, ⟨none, 0, [], none, 0, [], 0, 8, 0⟩, ⟨none, 0, [], none, 0, [], 0, 0, 2⟩, ⟨some ⟨V6.heap.size, 0, none⟩, 1, [d6], none, 0, [], 0, 0, 0⟩, ⟨some ⟨V7.heap.size, 0, none⟩, 1, [d7], none, 0, [], 5, 0, 0⟩, ⟨some ⟨V8.heap.size, 0, none⟩, 1, [d8], none, 0, [], 5, 0, 4⟩, ⟨some ⟨V9.heap.size, 0, none⟩, 1, [d9], some ⟨V9.heap.size + 1, 0, none⟩, 2, [3, 2], 0, 0, 0⟩, ⟨none, 0, [], some ⟨V9.heap.size + 1 + 1, 0, none⟩, 1, [2], 0, 0, 0⟩, ⟨none, 0, [], some ⟨V9.heap.size + 1 + 1 + 1, 0, none⟩, 2, [1, 1], 0, 0, 0⟩, ⟨none, 0, [], none, 0, [], 0, 0, 0⟩, ⟨none, 0, [], some ⟨V9.heap.size + 1 + 1 + 1 + 1, 0, none⟩, 3, [1, 2, 3], 0, 0, 0⟩, ⟨some ⟨V10.heap.size, 0, none⟩, 1, [d10], some ⟨V10.heap.size + 1, 0, none⟩, 1, [2], 0, 0, 0⟩] : List X)).toArray 26)) (((V10.alloc (.cells #[.int .i64 d10.file, .int .i64 d10.bytes, .int .i64 d10.count, .slice d10.firstA d10.first.length d10.firstC, .slice d10.lastA d10.last.length d10.lastC, .int .u64 (d10.seq : Int)] 41)).alloc (.cells #[.int .i64 2] 3)).alloc (.cells (cellsE ([⟨none, 0, [], some ⟨V4.heap.size, 0, none⟩, 1, [7], 0, 0, 0⟩, ⟨some ⟨V5.heap.size, 0, none⟩, 1, [d5], none, 0, [], 0, 0, 0⟩, ⟨none, 0, [], some ⟨V5.heap.size + 1, 0, none⟩, 2, [3, 1], 0, 0, 0⟩, ⟨none, 0, [], none, 0, [], 3, 0, 0⟩, ⟨none, 0, [], none, 0, [], 0, 8, 0⟩, ⟨none, 0, [], none, 0, [], 0, 0, 2⟩, ⟨some ⟨V6.heap.size, 0, none⟩, 1, [d6], none, 0, [], 0, 0, 0⟩, ⟨some ⟨V7.heap.size, 0, none⟩, 1, [d7], none, 0, [], 5, 0, 0⟩, ⟨some ⟨V8.heap.size, 0, none⟩, 1, [d8], none, 0, [], 5, 0, 4⟩, ⟨some ⟨V9.heap.size, 0, none⟩, 1, [d9], some ⟨V9.heap.size + 1, 0, none⟩, 2, [3, 2], 0, 0, 0⟩, ⟨none, 0, [], some ⟨V9.heap.size + 1 + 1, 0, none⟩, 1, [2], 0, 0, 0⟩, ⟨none, 0, [], some ⟨V9.heap.size + 1 + 1 + 1, 0, none⟩, 2, [1, 1], 0, 0, 0⟩, ⟨none, 0, [], none, 0, [], 0, 0, 0⟩, ⟨none, 0, [], some ⟨V9.heap.size + 1 + 1 + 1 + 1, 0, none⟩, 3, [1, 2, 3], 0, 0, 0⟩, ⟨some ⟨V10.heap.size, 0, none⟩, 1, [d10], some ⟨V10.heap.size + 1, 0, none⟩, 1, [2], 0, 0, 0⟩] : List X)).toArray 26)).heap.size (some ⟨V10.heap.size + 1 + 1, 0, none⟩) 15 ([⟨none, 0, [], some ⟨V4.heap.size, 0, none⟩, 1, [7], 0, 0, 0⟩, ⟨some ⟨V5.heap.size, 0, none⟩, 1, [d5], none, 0, [], 0, 0, 0⟩, ⟨none, 0, [], some ⟨V5.heap.size + 1, 0, none⟩, 2, [3, 1], 0, 0, 0⟩, ⟨none, 0, [], none, 0, [], 3, 0, 0⟩, ⟨none, 0, [], none, 0, [], 0, 8, 0⟩, ⟨none, 0, [], none, 0, [], 0, 0, 2⟩, ⟨some ⟨V6.heap.size, 0, none⟩, 1, [d6], none, 0, [], 0, 0, 0⟩, ⟨some ⟨V7.heap.size, 0, none⟩, 1, [d7], none, 0, [], 5, 0, 0⟩, ⟨some ⟨V8.heap.size, 0, none⟩, 1, [d8], none, 0, [], 5, 0, 4⟩, ⟨some ⟨V9.heap.size, 0, none⟩, 1, [d9], some ⟨V9.heap.size + 1, 0, none⟩, 2, [3, 2], 0, 0, 0⟩, ⟨none, 0, [], some ⟨V9.heap.size + 1 + 1, 0, none⟩, 1, [2], 0, 0, 0⟩, ⟨none, 0, [], some ⟨V9.heap.size + 1 + 1 + 1, 0, none⟩, 2, [1, 1], 0, 0, 0⟩, ⟨none, 0, [], none, 0, [], 0, 0, 0⟩, ⟨none, 0, [], some ⟨V9.heap.size + 1 + 1 + 1 + 1, 0, none⟩, 3, [1, 2, 3], 0, 0, 0⟩, ⟨some ⟨V10.heap.size, 0, none⟩, 1, [d10], some ⟨V10.heap.size + 1, 0, none⟩, 1, [2], 0, 0, 0⟩] : List X)) := Lib.hid ⟨by
        have := lies_block (B := (((V10.alloc (.cells #[.int .i64 d10.file, .int .i64 d10.bytes, .int .i64 d10.count, .slice d10.firstA d10.first.length d10.firstC, .slice d10.lastA d10.last.length d10.lastC, .int .u64 (d10.seq : Int)] 41)).alloc (.cells #[.int .i64 2] 3)).alloc (.cells (cellsE ([⟨none, 0, [], some ⟨V4.heap.size, 0, none⟩, 1, [7], 0, 0, 0⟩, ⟨some ⟨V5.heap.size, 0, none⟩, 1, [d5], none, 0, [], 0, 0, 0⟩, ⟨none, 0, [], some ⟨V5.heap.size + 1, 0, none⟩, 2, [3, 1], 0, 0, 0⟩, ⟨none, 0, [], none, 0, [], 3, 0, 0⟩, ⟨none, 0, [], none, 0, [], 0, 8, 0⟩, ⟨none, 0, [], none, 0, [], 0, 0, 2⟩, ⟨some ⟨V6.heap.size, 0, none⟩, 1, [d6], none, 0, [], 0, 0, 0⟩, ⟨some ⟨V7.heap.size, 0, none⟩, 1, [d7], none, 0, [], 5, 0, 0⟩, ⟨some ⟨V8.heap.size, 0, none⟩, 1, [d8], none, 0, [], 5, 0, 4⟩, ⟨some ⟨V9.heap.size, 0, none⟩, 1, [d9], some ⟨V9.heap.size + 1, 0, none⟩, 2, [3, 2], 0, 0, 0⟩, ⟨none, 0, [], some ⟨V9.heap.size + 1 + 1, 0, none⟩, 1, [2], 0, 0, 0⟩, ⟨none, 0, [], some ⟨V9.heap.size + 1 + 1 + 1, 0, none⟩, 2, [1, 1], 0, 0, 0⟩, ⟨none, 0, [], none, 0, [], 0, 0, 0⟩, ⟨none, 0, [], some ⟨V9.heap.size + 1 + 1 + 1 + 1, 0, none⟩, 3, [1, 2, 3], 0, 0, 0⟩, ⟨some ⟨V10.heap.size, 0, none⟩, 1, [d10], some ⟨V10.heap.size + 1, 0, none⟩, 1, [2], 0, 0, 0⟩] : List X)).toArray 26)).heap.size) hbe hbe.lt
        exact this, Nat.le_refl _, (by decide), fun x hx => by
      simp only [List.mem_cons, List.not_mem_nil, or_false] at hx
      rcases hx with rfl | rfl | rfl | rfl | rfl | rfl | rfl | rfl | rfl | rfl | rfl | rfl | rfl | rfl | rfl
      · exact I0.out.drop rfl (by decide) (by decide)
      · exact O1.out.add (by decide) (by decide) (by decide)
      · exact I2.out.drop rfl (by decide) (by decide)
      · exact bare_ok (by decide) (by decide) (by decide)
      · exact bare_ok (by decide) (by decide) (by decide)
      · exact bare_ok (by decide) (by decide) (by decide)
      · exact O6.out.add (by decide) (by decide) (by decide)
      · exact O7.out.add (by decide) (by decide) (by decide)
      · exact O8.out.add (by decide) (by decide) (by decide)
      · exact O9.out.edit I9.out rfl (by decide) (by decide) (by decide) (by decide) (by decide)
      · exact I10.out.drop rfl (by decide) (by decide)
      · exact I11.out.drop rfl (by decide) (by decide)
      · exact bare_ok (by decide) (by decide) (by decide)
      · exact I13.out.drop rfl (by decide) (by decide)
      · exact O14.out.edit I14.out rfl (by decide) (by decide) (by decide) (by decide) (by decide)⟩
    clear hbe I0 O1 I2 O6 O7 O8 O9 I9 I10 I11 I13 O14 I14
    have HXE : Hid (([⟨none, 0, [], some ⟨V4.heap.size, 0, none⟩, 1, [7], 0, 0, 0⟩, ⟨some ⟨V5.heap.size, 0, none⟩, 1, [d5], none, 0, [], 0, 0, 0⟩, ⟨none, 0, [], some ⟨V5.heap.size + 1, 0, none⟩, 2, [3, 1], 0, 0, 0⟩, ⟨none, 0, [], none, 0, [], 3, 0, 0⟩, ⟨none, 0, [], none, 0, [], 0, 8, 0⟩, ⟨none, 0, [], none, 0, [], 0, 0, 2⟩, ⟨some ⟨V6.heap.size, 0, none⟩, 1, [d6], none, 0, [], 0, 0, 0⟩, ⟨some ⟨V7.heap.size, 0, none⟩, 1, [d7], none, 0, [], 5, 0, 0⟩, ⟨some ⟨V8.heap.size, 0, none⟩, 1, [d8], none, 0, [], 5, 0, 4⟩, ⟨some ⟨V9.heap.size, 0, none⟩, 1, [d9], some ⟨V9.heap.size + 1, 0, none⟩, 2, [3, 2], 0, 0, 0⟩, ⟨none, 0, [], some ⟨V9.heap.size + 1 + 1, 0, none⟩, 1, [2], 0, 0, 0⟩, ⟨none, 0, [], some ⟨V9.heap.size + 1 + 1 + 1, 0, none⟩, 2, [1, 1], 0, 0, 0⟩, ⟨none, 0, [], none, 0, [], 0, 0, 0⟩, ⟨none, 0, [], some ⟨V9.heap.size + 1 + 1 + 1 + 1, 0, none⟩, 3, [1, 2, 3], 0, 0, 0⟩, ⟨some ⟨V10.heap.size, 0, none⟩, 1, [d10], some ⟨V10.heap.size + 1, 0, none⟩, 1, [2], 0, 0, 0⟩] : List X).map X.e = esC) := Lib.hid (by
      have r5 := HRU5.out
      have r6 := HRU6.out
      have r7 := HRU7.out
      have r8 := HRU8.out
      have r9 := HRU9.out
      have r10 := HRU10.out
      simp only [List.map_cons, List.map_nil, X.e, r5, r6, r7, r8, r9, r10])
    go_meet
    exact ⟨_, _, rfl, HES.out, HXE.out, HVS.out, HBE.out⟩
  case rest =>
  obtain ⟨gE, xs, rfl, hes, hxe, hvs, hbe⟩ := hcut
  have HES := Lib.hid hes
  have HXE := Lib.hid hxe
  have HVS := Lib.hid hvs
  have HBE := Lib.hid hbe
  clear hes hxe hvs hbe
  generalize wc = W7 at *
  have HLEN : Hid (xs.length = 15) := Lib.hid (by have := congrArg List.length HXE.out; simpa using this)
  have HI : Hid (Ints (W7.alloc (.cells #[.int .i64 8, .int .i64 9, .int .i64 10, .int .i64 10, .int .i64 10, .int .i64 10, .int .i64 10, .int .i64 10, .int .i64 0, .int .i64 0, .int .i64 0, .int .i64 1, .int .i64 0, .int .i64 0, .int .i64 10] 3)) W7.heap.size [8, 9, 10, 10, 10, 10, 10, 10, 0, 0, 0, 1, 0, 0, 10]) := Lib.hid (Ints.new W7 [8, 9, 10, 10, 10, 10, 10, 10, 0, 0, 0, 1, 0, 0, 10])
  have hb := Joins.below_alloc1 W7 (.cells #[.int .i64 8, .int .i64 9, .int .i64 10, .int .i64 10, .int .i64 10, .int .i64 10, .int .i64 10, .int .i64 10, .int .i64 0, .int .i64 0, .int .i64 0, .int .i64 1, .int .i64 0, .int .i64 0, .int .i64 10] 3)
  have HES2 := Lib.hid ((HES.out.below hb).up hb.size)
  have HVS2 := Lib.hid (HVS.out.next hb)
  have HBE2 := Lib.hid (HBE.out.trans (hb.mono HBE.out.size))
  clear HES HVS HBE hb
  go_upto_region 8 with fail
  generalize W7.alloc (.cells #[.int .i64 8, .int .i64 9, .int .i64 10, .int .i64 10, .int .i64 10, .int .i64 10, .int .i64 10, .int .i64 10, .int .i64 0, .int .i64 0, .int .i64 0, .int .i64 1, .int .i64 0, .int .i64 0, .int .i64 10] 3) = W8 at *
  obtain ⟨gw, hgw⟩ : ∃ g, g = W7.heap.size := ⟨_, rfl⟩
  rw [← hgw] at HI ⊢
  clear hgw
  by_cases h0 : which < 0
  · have t0 : decide (which < 0) = true := decide_eq_true h0
    clear h0
    go_wp2_with fail
    go_ret
    exact ⟨rfl, HBE2.out⟩
  · have t0 : decide (which < 0) = false := decide_eq_false h0
    by_cases h1 : 15 ≤ which
    · have t1 : decide (15 ≤ which) = true := decide_eq_true h1
      clear h0 h1
      go_wp2_with fail
      go_ret
      exact ⟨rfl, HBE2.out⟩
    · have t1 : decide (15 ≤ which) = false := decide_eq_false h1
      obtain ⟨k, rfl⟩ : ∃ k : Nat, which = (k : Int) := ⟨which.toNat, by omega⟩
      have hk : k < 15 := by omega
      have hk2 : (k : Int) < 15 := by omega
      obtain ⟨x, hx⟩ : ∃ x, xs[k]? = some x := ⟨_, List.getElem?_eq_getElem (by rw [HLEN.out]; exact hk)⟩
      have HXK := Lib.hid hx
      have HEK : Hid (wC[k]? = some (applyV y.t x.e).1) := Lib.hid (by
        rw [HVT.out]
        exact one_right2 (by rw [← HXE.out, List.getElem?_map, hx]; rfl))
      have HXO := Lib.hid (HES2.out.ok x (List.mem_of_getElem? hx))
      clear hx h0 h1 HXE HVT
      go_upto_region 10 with fail
      clear t0 t1
      generalize W8 = W0 at *
      go_cut [10, 11] (fun pv ev wx => ∃ (g : Nat) (a : Y), pv = .pointer (some ⟨g, 0, none⟩) ∧ ev = .int .i64 (((applyV y.t x.e).1 : Nat) : Int) ∧ a.t = (applyV y.t x.e).2 ∧ Box wx g 44 a.cells ∧ a.Ok wx wx.heap.size ∧ Below W0.heap.size W0 wx ∧ W0.heap.size ≤ g)
      case first =>
        refine wp_region_held_drew (S := (fun w' => Hid (Below W0.heap.size W0 w'))) (by kernel_rfl) (Lib.hid (Below.refl _ _).drew) (fun hS => ?_)
        have HBD : Hid (Below W0.heap.size W0 W0.drew) := Lib.hid (Below.refl _ _).drew
        refine wpAnyH_take (i := 0) (v := ?_) rfl (by kernel_rfl) (by kernel_rfl) (by kernel_rfl) (fun _ _ _ h => h) (Or.inl ⟨by rfl, ?_⟩) hS ?_
        rotate_left
        · intro wi hw
          have q := load_box (HVS2.out.next hw.out).box
          obtain ⟨k0, k1, k2, k3⟩ := Ve.look (HVS2.out.next hw.out).box
          go_simp
          try with_reducible rfl
        try simp only [Act.put, List.getElem_toArray, List.getElem_cons_succ, List.getElem_cons_zero, List.setIfInBounds_toArray, List.set_cons_zero, List.set_cons_succ]
        refine wpAnyH_take (i := 1) (v := ?_) rfl (by kernel_rfl) (by kernel_rfl) (by kernel_rfl) (fun _ _ _ h => h) (Or.inl ⟨by rfl, ?_⟩) hS ?_
        rotate_left
        · intro wi hw
          go_simp
          try with_reducible rfl
        try simp only [Act.put, List.getElem_toArray, List.getElem_cons_succ, List.getElem_cons_zero, List.setIfInBounds_toArray, List.set_cons_zero, List.set_cons_succ]
        refine wpAnyH_take (i := 2) (v := ?_) rfl (by kernel_rfl) (by kernel_rfl) (by kernel_rfl) (fun _ _ _ h => h) (Or.inl ⟨by rfl, ?_⟩) hS ?_
        rotate_left
        · intro wi hw
          go_simp
          try with_reducible rfl
        try simp only [Act.put, List.getElem_toArray, List.getElem_cons_succ, List.getElem_cons_zero, List.setIfInBounds_toArray, List.set_cons_zero, List.set_cons_succ]
        refine wpAnyH_take (i := 3) (v := ?_) rfl (by kernel_rfl) (by kernel_rfl) (by kernel_rfl) (fun _ _ _ h => h) (Or.inl ⟨by rfl, ?_⟩) hS ?_
        rotate_left
        · intro wi hw
          go_simp
          try with_reducible rfl
        try simp only [Act.put, List.getElem_toArray, List.getElem_cons_succ, List.getElem_cons_zero, List.setIfInBounds_toArray, List.set_cons_zero, List.set_cons_succ]
        refine wpAnyH_take (i := 4) (v := ?_) rfl (by kernel_rfl) (by kernel_rfl) (by kernel_rfl) (fun _ _ _ h => h) (Or.inl ⟨by rfl, ?_⟩) hS ?_
        rotate_left
        · intro wi hw
          have hES := HES2.out.below hw.out
          obtain ⟨ad', p', e', -, hpp', q0, q1, q2, q3, q4⟩ := hES.place HXK.out
          injection e' with e'
          subst e'
          have hpq : p' = (⟨gE, k * 5, none⟩ : Addr) := by rw [← hpp', add_at]
          subst hpq
          have ql := load_edit q0 q1 q2 q3 q4
          go_simp
          try with_reducible rfl
        try simp only [Act.put, List.getElem_toArray, List.getElem_cons_succ, List.getElem_cons_zero, List.setIfInBounds_toArray, List.set_cons_zero, List.set_cons_succ]
        refine wpAnyH_ready (rs := [5, 9]) (by kernel_rfl) (by simp) ?_
        refine (AllReadyH.cons rfl (fun K hK => ?_) (AllReadyH.cons rfl (fun K hK => ?_) AllReadyH.nil))
        · go_simp
          refine (vapply_any y x W0.drew ((HVS2.out.next HBD.out).ok) (HXO.out.next HBD.out)).mono ?_
          rintro e W5 ⟨a, rfl, hat, hao, hb5⟩
          have HB5 : Hid (Below W0.heap.size W0 W5) := Lib.hid (HBD.out.trans (hb5.mono HBD.out.size))
          have HA5 := Lib.hid hao
          have HAT := Lib.hid hat
          refine hK.out _ _ HB5 (fun hS => ?_)
          clear hK K hb5 hao hat
          try simp only [Act.put, List.getElem_toArray, List.getElem_cons_succ, List.getElem_cons_zero, List.setIfInBounds_toArray, List.set_cons_zero, List.set_cons_succ]
          refine wpAnyH_take (i := 6) (v := ?_) rfl (by kernel_rfl) (by kernel_rfl) (by kernel_rfl) (fun _ _ _ h => h) (Or.inl ⟨by rfl, ?_⟩) hS ?_
          rotate_left
          · intro wi hw
            go_simp
            try with_reducible rfl
          try simp only [Act.put, List.getElem_toArray, List.getElem_cons_succ, List.getElem_cons_zero, List.setIfInBounds_toArray, List.set_cons_zero, List.set_cons_succ]
          refine wpAnyH_take (i := 7) (v := ?_) rfl (by kernel_rfl) (by kernel_rfl) (by kernel_rfl) (fun _ _ _ h => h) (Or.inl ⟨by rfl, ?_⟩) hS ?_
          rotate_left
          · intro wi hw
            go_simp
            try with_reducible rfl
          try simp only [Act.put, List.getElem_toArray, List.getElem_cons_succ, List.getElem_cons_zero, List.setIfInBounds_toArray, List.set_cons_zero, List.set_cons_succ]
          refine wpAnyH_take (i := 8) (v := ?_) rfl (by kernel_rfl) (by kernel_rfl) (by kernel_rfl) (fun _ _ _ h => h) (Or.inl ⟨by rfl, ?_⟩) hS ?_
          rotate_left
          · intro wi hw
            go_simp
            try with_reducible rfl
          try simp only [Act.put, List.getElem_toArray, List.getElem_cons_succ, List.getElem_cons_zero, List.setIfInBounds_toArray, List.set_cons_zero, List.set_cons_succ]
          refine wpAnyH_ready (rs := [9]) (by kernel_rfl) (by simp) ?_
          refine (AllReadyH.cons rfl (fun K hK => ?_) AllReadyH.nil)
          go_simp
          have hba := Joins.below_alloc1 W5 (.cells #[.slice none 0 0, .int .i64 0, .int .i64 0, .int .u64 0] 44)
          have HB6 : Hid (Below W0.heap.size W0 (W5.alloc (.cells #[.slice none 0 0, .int .i64 0, .int .i64 0, .int .u64 0] 44))) := Lib.hid (HB5.out.trans (hba.mono HB5.out.size))
          have HZ6 : Hid (Box (W5.alloc (.cells #[.slice none 0 0, .int .i64 0, .int .i64 0, .int .u64 0] 44)) W5.heap.size 44 ZV.cells) := Lib.hid (Box.new W5 44 ZV.cells)
          have HA6 := Lib.hid (HA5.out.next hba)
          have HGE : Hid (W0.heap.size ≤ W5.heap.size) := Lib.hid HB5.out.size
          clear hba
          refine hK.out _ _ HB6 (fun hS => ?_)
          clear hK K
          try simp only [Act.put, List.getElem_toArray, List.getElem_cons_succ, List.getElem_cons_zero, List.setIfInBounds_toArray, List.set_cons_zero, List.set_cons_succ]
          generalize W5.alloc (.cells #[.slice none 0 0, .int .i64 0, .int .i64 0, .int .u64 0] 44) = W6 at *
          generalize W5.heap.size = g6 at *
          refine wpAnyH_ready (rs := [10]) (by kernel_rfl) (by simp) ?_
          refine (AllReadyH.cons rfl (fun K hK => ?_) AllReadyH.nil)
          have HBX : Hid (Box (W6.setRow g6 a.cells.toArray) g6 44 a.cells) := Lib.hid (setRow_heap _ _ _ _ _ _ HZ6.out)
          have HA7 : Hid (a.Ok (W6.setRow g6 a.cells.toArray) (W6.setRow g6 a.cells.toArray).heap.size) := Lib.hid (HA6.out.poke (vbox_of HZ6.out) (Ve.keep_setRow _ _ _))
          have HB7 : Hid (Below W0.heap.size W0 (W6.setRow g6 a.cells.toArray)) := Lib.hid (below_setRow HB6.out HGE.out _)
          refine held_store rfl _ _ _ rfl g6 #[.slice a.a a.runs.length a.c, .int .i64 a.next, .int .i64 a.log, .int .u64 (a.seq : Int)] rfl rfl _ ZV.cells.toArray HZ6.out (by kernel_rfl) rfl (by kernel_rfl) ?_
          refine hK.out _ _ HB7 (fun hS => ?_)
          clear hK K
          try simp only [Act.put, List.getElem_toArray, List.getElem_cons_succ, List.getElem_cons_zero, List.setIfInBounds_toArray, List.set_cons_zero, List.set_cons_succ]
          refine wpAnyH_take (i := 11) (v := ?_) rfl (by kernel_rfl) (by kernel_rfl) (by kernel_rfl) (fun _ _ _ h => h) (Or.inl ⟨by rfl, ?_⟩) hS ?_
          rotate_left
          · intro wi hw
            go_simp
            try with_reducible rfl
          try simp only [Act.put, List.getElem_toArray, List.getElem_cons_succ, List.getElem_cons_zero, List.setIfInBounds_toArray, List.set_cons_zero, List.set_cons_succ]
          refine wpAnyH_done (by kernel_rfl) ?_ _
          go_wp2_with fail
          go_meet
          exact ⟨g6, a, rfl, rfl, HAT.out, HBX.out, HA7.out, HB7.out, HGE.out⟩
        · go_simp
          have HB4 : Hid (Below W0.heap.size W0 (W0.alloc (.cells #[.slice none 0 0, .int .i64 0, .int .i64 0, .int .u64 0] 44)).drew) := Lib.hid (Joins.below_alloc1 W0 (.cells #[.slice none 0 0, .int .i64 0, .int .i64 0, .int .u64 0] 44)).drew
          have HZ4 : Hid (Box (W0.alloc (.cells #[.slice none 0 0, .int .i64 0, .int .i64 0, .int .u64 0] 44)).drew W0.heap.size 44 ZV.cells) := Lib.hid (Box.new W0 44 ZV.cells)
          have HGE : Hid (W0.heap.size ≤ W0.heap.size) := Lib.hid (Nat.le_refl _)
          refine hK.out _ _ HB4 (fun hS => ?_)
          clear hK K
          try simp only [Act.put, List.getElem_toArray, List.getElem_cons_succ, List.getElem_cons_zero, List.setIfInBounds_toArray, List.set_cons_zero, List.set_cons_succ]
          generalize hW4 : (W0.alloc (.cells #[.slice none 0 0, .int .i64 0, .int .i64 0, .int .u64 0] 44)).drew = W4 at *
          clear hW4
          refine wpAnyH_ready (rs := [5]) (by kernel_rfl) (by simp) ?_
          refine (AllReadyH.cons rfl (fun K hK => ?_) AllReadyH.nil)
          go_simp
          refine (vapply_any y x W4 ((HVS2.out.next HB4.out).ok) (HXO.out.next HB4.out)).mono ?_
          rintro e W6 ⟨a, rfl, hat, hao, hb5⟩
          have HB6 : Hid (Below W0.heap.size W0 W6) := Lib.hid (HB4.out.trans (hb5.mono HB4.out.size))
          have HZ6 := Lib.hid (HZ4.out.below hb5 HZ4.out.lt)
          have HA6 := Lib.hid hao
          have HAT := Lib.hid hat
          refine hK.out _ _ HB6 (fun hS => ?_)
          clear hK K hb5 hao hat
          try simp only [Act.put, List.getElem_toArray, List.getElem_cons_succ, List.getElem_cons_zero, List.setIfInBounds_toArray, List.set_cons_zero, List.set_cons_succ]
          refine wpAnyH_take (i := 6) (v := ?_) rfl (by kernel_rfl) (by kernel_rfl) (by kernel_rfl) (fun _ _ _ h => h) (Or.inl ⟨by rfl, ?_⟩) hS ?_
          rotate_left
          · intro wi hw
            go_simp
            try with_reducible rfl
          try simp only [Act.put, List.getElem_toArray, List.getElem_cons_succ, List.getElem_cons_zero, List.setIfInBounds_toArray, List.set_cons_zero, List.set_cons_succ]
          refine wpAnyH_take (i := 7) (v := ?_) rfl (by kernel_rfl) (by kernel_rfl) (by kernel_rfl) (fun _ _ _ h => h) (Or.inl ⟨by rfl, ?_⟩) hS ?_
          rotate_left
          · intro wi hw
            go_simp
            try with_reducible rfl
          try simp only [Act.put, List.getElem_toArray, List.getElem_cons_succ, List.getElem_cons_zero, List.setIfInBounds_toArray, List.set_cons_zero, List.set_cons_succ]
          refine wpAnyH_take (i := 8) (v := ?_) rfl (by kernel_rfl) (by kernel_rfl) (by kernel_rfl) (fun _ _ _ h => h) (Or.inl ⟨by rfl, ?_⟩) hS ?_
          rotate_left
          · intro wi hw
            go_simp
            try with_reducible rfl
          try simp only [Act.put, List.getElem_toArray, List.getElem_cons_succ, List.getElem_cons_zero, List.setIfInBounds_toArray, List.set_cons_zero, List.set_cons_succ]
          refine wpAnyH_ready (rs := [10]) (by kernel_rfl) (by simp) ?_
          refine (AllReadyH.cons rfl (fun K hK => ?_) AllReadyH.nil)
          have HBX : Hid (Box (W6.setRow W0.heap.size a.cells.toArray) W0.heap.size 44 a.cells) := Lib.hid (setRow_heap _ _ _ _ _ _ HZ6.out)
          have HA7 : Hid (a.Ok (W6.setRow W0.heap.size a.cells.toArray) (W6.setRow W0.heap.size a.cells.toArray).heap.size) := Lib.hid (HA6.out.poke (vbox_of HZ6.out) (Ve.keep_setRow _ _ _))
          have HB7 : Hid (Below W0.heap.size W0 (W6.setRow W0.heap.size a.cells.toArray)) := Lib.hid (below_setRow HB6.out HGE.out _)
          refine held_store rfl _ _ _ rfl W0.heap.size #[.slice a.a a.runs.length a.c, .int .i64 a.next, .int .i64 a.log, .int .u64 (a.seq : Int)] rfl rfl _ ZV.cells.toArray HZ6.out (by kernel_rfl) rfl (by kernel_rfl) ?_
          refine hK.out _ _ HB7 (fun hS => ?_)
          clear hK K
          try simp only [Act.put, List.getElem_toArray, List.getElem_cons_succ, List.getElem_cons_zero, List.setIfInBounds_toArray, List.set_cons_zero, List.set_cons_succ]
          refine wpAnyH_take (i := 11) (v := ?_) rfl (by kernel_rfl) (by kernel_rfl) (by kernel_rfl) (fun _ _ _ h => h) (Or.inl ⟨by rfl, ?_⟩) hS ?_
          rotate_left
          · intro wi hw
            go_simp
            try with_reducible rfl
          try simp only [Act.put, List.getElem_toArray, List.getElem_cons_succ, List.getElem_cons_zero, List.setIfInBounds_toArray, List.set_cons_zero, List.set_cons_succ]
          refine wpAnyH_done (by kernel_rfl) ?_ _
          go_wp2_with fail
          go_meet
          exact ⟨W0.heap.size, a, rfl, rfl, HAT.out, HBX.out, HA7.out, HB7.out, HGE.out⟩
      case rest =>
      obtain ⟨g3, a, rfl, rfl, hat, hbx, hao, hbw, hge⟩ := hcut
      obtain ⟨er, her⟩ : ∃ er, er = (applyV y.t x.e).1 := ⟨_, rfl⟩
      rw [← her] at HEK ⊢
      have hIL : Ints wc gw [8, 9, 10, 10, 10, 10, 10, 10, 0, 0, 0, 1, 0, 0, 10] := HI.out.next hbw
      have hcw : wc.cell? ⟨gw, k, none⟩ = some (.int .i64 (er : Int)) := by
        rw [hIL.box.cell]
        have e : ([8, 9, 10, 10, 10, 10, 10, 10, 0, 0, 0, 1, 0, 0, 10] : List Int) = wC.map fun n : Nat => (n : Int) := rfl
        rw [e, List.map_map, List.getElem?_map, HEK.out]
        rfl
      have HBF := Lib.hid (HBE2.out.trans (hbw.mono HBE2.out.size))
      have HV := Lib.hid fun (n : Int) (m : Nat) => vnum_any n (wc.drewN m)
      have e1 : ((er : Int) == (er : Int)) = true := by simp
      clear hat hbx hao hbw hge her hIL HEK HES2 HVS2 HXO HXK HBE2 HI
      go_upto_region 11 with fail
      go_quiet (first | (go_at_call 27; refine Calls.quiet_of_same ((HV.out _ _).mono fun e w' hh => ⟨hh.1, hh.2.symm⟩)))
      go_wp2_with fail
      go_ret
      exact ⟨rfl, HBF.out.trans ((Joins.below_draws _ _ _).mono HBF.out.size)⟩

set_option maxRecDepth 100000 in
theorem lifted (os : Os) (started : os.Started) (H : Type) (enc : TypeId × Value → H) :
    ReturnsInHanded {} Try.checked os 10 .any (Rows.versionErrorsSpec.pre6 enc Try.prog Try.f10 Rows.versionErrorsRow.domain false) (Rows.versionErrorsSpec.post enc Try.prog Try.f10 false true false false) := by
  refine lift_true (C := Try.checked) own started (by kernel_rfl) Try.func10
    (ChangeSpec.witness6 (enc := enc) (C := Try.checked) false ⟨#[], #[.int .i64 0], []⟩ 8 (by kernel_rfl) (by kernel_rfl) (by kernel_rfl) (by kernel_rfl))
    (by kernel_rfl) (by kernel_rfl) (by kernel_rfl) Try.underlying4 rfl ?_ ?_
  · intro ds hds
    match ds, hds with
    | [d1], _ => exact ⟨rfl, rfl, rfl⟩
  · intro W base args ds p hval0 hA0 hlt _
    have hval : ∀ (j : Nat) t v, Try.f10.params[j]? = some t → args[j]? = some v → Value.okWide Try.prog W .any base t v := hval0
    have hA : DataW.TrodAll enc Try.prog W 0 (fun _ => true) true Try.f10.params.toList args.toList ds p := hA0
    rw [Try.params10] at hA hval
    obtain ⟨v0, vs0, d0, ds0, p0, q0, hargs, rfl, rfl, h0, r0⟩ := trodAll_cons hA
    obtain ⟨rfl, rfl, rfl⟩ := trodAll_nil r0
    obtain rfl : args = #[v0] := by cases args; simp_all
    obtain ⟨a0, rfl, rfl, rfl, w0⟩ := open_int Try.underlying3 (hval 0 _ v0 rfl rfl) h0
    have b0 := i64_of w0
    exact walk a0 W w0

theorem over : Rows.versionErrorsRow.holds Try.pinned (OpenSpec.ofChange Rows.versionErrorsSpec) :=
  OpenClaim.holds_of_wide 10 Try.f10 rfl rfl rfl rfl rfl rfl rfl ⟨rfl, rfl, rfl, rfl, rfl⟩ rfl rfl rfl rfl rfl (by kernel_rfl) Try.func10 (by kernel_rfl)
    (of_decide_eq_true (by kernel_rfl)) (by unfold Func.isWrapper; first | (rw [if_pos (by decide +kernel)]; kernel_rfl) | (rw [if_neg (by decide +kernel)]; exact ⟨rfl, rfl⟩))
    (fun os started H enc _ => lifted os started H enc)

theorem proved : Rows.VersionErrorsSaid :=
  over
#print axioms proved
end Go.Proofs.Ythhmjjmjicmhdaa.versionErrors
