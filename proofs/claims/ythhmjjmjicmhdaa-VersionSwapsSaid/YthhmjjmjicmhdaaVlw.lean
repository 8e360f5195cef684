/- What the laws of versions share: the example, the number of an error, what is too great. -/
import Derived.Test.YthhmjjmjicmhdaaVoo
import Derived.Test.YthhmjjmjicmhdaaElw
namespace Go.Proofs.Ythhmjjmjicmhdaa.Ve
set_option linter.unusedVariables false
set_option linter.unusedSimpArgs false
open Go.RowKit Lift Ik Ed
theorem vnum_any (n : Int) (w : World) : Calls Try.prog 27 #[.int .i64 n] w fun e w' => e = .returned (.int .i64 n) ∧ w = w' := by
  go_enter Try.func27, Try.ntmps27
  go_wp2_with fail
  go_ret
  exact ⟨rfl, rfl⟩
abbrev oneV : Y := ⟨none, 0, [], 1, 0, 0⟩
theorem oneV_ok (w : World) (B : Nat) : oneV.Ok w B := ⟨Runs.zero _ _, by decide, by decide, by decide⟩
theorem apply_zero : applyV oneV.t zeroX.e = (0, oneV.t) := by rfl
theorem one_right : rightV oneV.t = true := by decide +kernel
theorem none_right : rightV ZV.t = false := by decide +kernel
set_option maxRecDepth 100000 in
set_option maxHeartbeats 1600000 in
theorem valive_any (w : World) : Calls Try.prog 22 #[] w (Yes w) := by
  have H1 := Lib.hid (vapply_any oneV zeroX w (oneV_ok _ _) (zeroX_ok _ _))
  rw [apply_zero] at H1
  go_enter Try.func22, Try.ntmps22
  go_wp2_with fail
  refine H1.out.mono ?_
  rintro e W1 ⟨z, rfl, hzt, hzo, hb1⟩
  have hza := Joins.below_alloc1 W1 z.box
  have HB2 := Lib.hid (hb1.trans (hza.mono hb1.size))
  have HBX := Lib.hid (Box.new W1 44 z.cells)
  have HZO := Lib.hid (hzo.below hza)
  have HN : Hid ((z.next == 1) = true) := Lib.hid (by rw [beq_iff_eq]; exact congrArg V.next hzt)
  have HZT := Lib.hid hzt
  have HSZ := Lib.hid hza.size
  clear hzt hzo hb1 hza H1
  go_upto_region 2 with fail
  generalize hW2 : W1.alloc z.box = W2 at *
  obtain ⟨z0, z1, z2, z3⟩ := look HBX.out
  have t1 := HN.out
  have HR := Lib.hid (vright_any z W1.heap.size W2 HZO.out HSZ.out)
  rw [HZT.out, one_right] at HR
  go_wp2_with ((go_at_call 27; refine (vnum_any _ _).mono ?_; rintro e w' ⟨rfl, rfl⟩))
  refine HR.out.mono ?_
  rintro e W3 ⟨rfl, hb3⟩
  have HB3 := Lib.hid (HB2.out.trans (hb3.mono HB2.out.size))
  have H4 := Lib.hid (vright_any ZV W3.heap.size W3 (ZV_ok _ _) (Nat.le_refl _))
  rw [none_right] at H4
  clear hb3 HR z0 z1 z2 z3
  go_wp2_with fail
  refine H4.out.mono ?_
  rintro e W4 ⟨rfl, hb4⟩
  have HB4 := Lib.hid (HB3.out.trans (hb4.mono HB3.out.size))
  clear hb4
  go_wp2_with fail
  go_ret
  exact ⟨rfl, HB4.out⟩
/-- Is a version too great for the laws? -/
def bigV (y : Y) : Bool := bigX ⟨y.a, y.c, y.runs, none, 0, [], 0, 0, 0⟩
set_option maxRecDepth 100000 in
theorem bigv_any (y : Y) (w : World) (hy : y.Ok w w.heap.size) : Calls Try.prog 23 #[y.v] w fun e w' => e = .returned (.bool (bigV y)) ∧ Below w.heap.size w w' := by
  have hb := Joins.below_alloc1 w y.box
  have HB := Lib.hid hb
  have hy1 := (hy.below hb).up hb.size
  have HG := Lib.hid (big_any ⟨y.a, y.c, y.runs, none, 0, [], 0, 0, 0⟩ (w.alloc y.box) ⟨hy1.runs, .inl rfl, Nat.le_refl _, Nat.zero_le _, (fun _ h => by cases h), by show (Lit.int .i64 0).wf = true; decide, by show (Lit.int .i64 0).wf = true; decide, Nat.zero_lt_succ _⟩)
  obtain ⟨z0, z1, z2, z3⟩ := look (Box.new w 44 y.cells)
  clear hb hy hy1
  go_enter Try.func23, Try.ntmps23
  go_wp2_with fail
  refine HG.out.mono ?_
  rintro e W1 ⟨rfl, hb1⟩
  have HB1 := Lib.hid (HB.out.trans (hb1.mono HB.out.size))
  clear hb1
  go_wp2_with fail
  go_ret
  exact ⟨rfl, HB1.out⟩
theorem bigv_parts {y : Y} (h : bigV y = false) : (∀ d, d ∈ y.runs → d.first.length ≤ 300 ∧ d.last.length ≤ 300) ∧ y.runs.length ≤ 110 := by
  have := big_parts h
  exact ⟨this.1, this.2.1⟩
end Go.Proofs.Ythhmjjmjicmhdaa.Ve
