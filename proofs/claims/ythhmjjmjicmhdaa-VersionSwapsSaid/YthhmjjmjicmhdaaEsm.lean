/- Two edits of the same content: SameRuns, SameInts and SameEdit answer true. -/
import Derived.Test.YthhmjjmjicmhdaaErm
namespace Go.Proofs.Ythhmjjmjicmhdaa.Ed
set_option linter.unusedVariables false
set_option linter.unusedSimpArgs false
open Go.RowKit Lift Ik
theorem run_str {w : World} {B c : Nat} {A : Option Addr} {bs : List Nat} (hl : Lies w B A (bs.map vb)) : Sem.run Try.prog (convert 29 9 (.slice A bs.length c)) w = .ok (.string (str bs)) w :=
  run_string_lies (P := Try.prog) (c := c) _ _ 5 Try.underlying29 Try.underlying5 Try.underlying9 hl
theorem same_at {L M : List D} (he : L.map D.ru = M.map D.ru) {j : Nat} {d : D} (hd : L[j]? = some d) : ∃ e, M[j]? = some e ∧ e.file = d.file ∧ e.bytes = d.bytes ∧ e.count = d.count ∧ e.first = d.first ∧ e.last = d.last ∧ e.seq = d.seq := by
  have h1 : (L.map D.ru)[j]? = some d.ru := by rw [List.getElem?_map, hd]; rfl
  rw [he, List.getElem?_map] at h1
  obtain ⟨e, h2, h3⟩ := Option.map_eq_some_iff.1 h1
  unfold D.ru at h3
  injection h3 with k1 k2 k3 k4 k5 k6
  exact ⟨e, h2, k1, k2, k3, k4, k5, k6⟩
abbrev rob (d : D) : Obj := .cells #[.int .i64 d.file, .int .i64 d.bytes, .int .i64 d.count, .slice d.firstA d.first.length d.firstC, .slice d.lastA d.last.length d.lastC, .int .u64 (d.seq : Int)] 41
set_option maxRecDepth 100000 in
set_option maxHeartbeats 3200000 in
theorem same_runs {A1 A2 : Option Addr} {c1 c2 : Nat} {L M : List D} {w : World} (h1 : Runs w w.heap.size A1 c1 L) (h2 : Runs w w.heap.size A2 c2 M) (he : L.map D.ru = M.map D.ru) (hfew : L.length ≤ 1000000) :
    Calls Try.prog 45 #[.slice A1 L.length c1, .slice A2 M.length c2] w fun e w' => e = .returned (.bool true) ∧ Below w.heap.size w w' := by
  have hlen : M.length = L.length := by have := congrArg List.length he; simpa using this.symm
  rw [hlen]
  have H1 := Lib.hid h1
  have H2 := Lib.hid h2
  have HE := Lib.hid he
  have HL := Lib.hid hlen
  clear h1 h2 he hlen
  go_enter Try.func45, Try.ntmps45
  go_wp2_with fail
  go_loopw [5] (fun i wr => ∃ j : Nat, j ≤ L.length ∧ i = .int .i64 j ∧ Hid (Below w.heap.size w wr)) (fun i _ => L.length + 1 - (intOf i).toNat)
  case atStart => exact ⟨0, by omega, rfl, Lib.hid (Below.refl _ _)⟩
  case round =>
    obtain ⟨j, hj, rfl, hb⟩ := hrel
    by_cases hlt : j < L.length
    · obtain ⟨d, hd⟩ : ∃ d, L[j]? = some d := ⟨_, List.getElem?_eq_getElem hlt⟩
      obtain ⟨d2, hd2, k1, k2, k3, k4, k5, k6⟩ := same_at HE.out hd
      have hb2 : Below w.heap.size w (wr.alloc (rob d)) := hb.out.alloc hb.out.size _
      have hb3 : Below w.heap.size w ((wr.alloc (rob d)).alloc (rob d2)) := hb2.alloc (by have := hb.out.size; simp; omega) _
      have o1 := H1.out.below hb.out
      have o2 := H2.out.below hb2
      have o3 := H1.out.below hb3
      have o4 := H2.out.below hb3
      obtain ⟨ad1, p, hA1, hp1, hpb1, p0, p1, p2, p3, p4, p5⟩ := o1.place hd
      obtain ⟨ad2, q, hA2, hq1, hpb2, q0, q1, q2, q3, q4, q5⟩ := o2.place hd2
      have x1 := o3.ok d (List.mem_of_getElem? hd)
      have x2 := o4.ok d2 (List.mem_of_getElem? hd2)
      have s1 := run_str (c := d.firstC) (x1.fl.lies (B := w.heap.size) fun _ h => h)
      have s2 := run_str (c := d2.firstC) (x2.fl.lies (B := w.heap.size) fun _ h => h)
      have s3 := run_str (c := d.lastC) (x1.ll.lies (B := w.heap.size) fun _ h => h)
      have s4 := run_str (c := d2.lastC) (x2.ll.lies (B := w.heap.size) fun _ h => h)
      rw [k1] at q0
      rw [k2] at q1
      rw [k3] at q2
      rw [k4] at q3 s2
      rw [k5] at q4 s4
      rw [k6] at q5
      unfold rob at q0 q1 q2 q3 q4 q5 s1 s2 s3 s4
      rw [k1, k2, k3, k4, k5, k6] at s1 s2 s3 s4
      have HB3 := Lib.hid hb3
      unfold rob at HB3
      rw [k1, k2, k3, k4, k5, k6] at HB3
      subst hA1 hA2
      clear hd hd2 k1 k2 k3 k4 k5 k6 o1 o2 o3 o4 x1 x2 hb2 hb3
      have n0 : (d.file != d.file) = false := by simp
      have n1 : (d.bytes != d.bytes) = false := by simp
      have n2 : (d.count != d.count) = false := by simp
      have n3 : ((str d.first).toList != (str d.first).toList) = false := by simp
      have n4 : ((str d.last).toList != (str d.last).toList) = false := by simp
      go_wp2_with fail
      go_roundw
      case rel => exact ⟨j + 1, by omega, by go_num, HB3⟩
      case measure => simp [intOf]; omega
    · obtain rfl : j = L.length := by omega
      go_wp2_with fail
      go_ret
      exact ⟨rfl, hb.out⟩
set_option maxRecDepth 100000 in
set_option maxHeartbeats 800000 in
theorem same_ints {w : World} {B B' c c' : Nat} {A A' : Option Addr} {xs : List Int} (h1 : Lies w B A (xs.map (.int .i64))) (h2 : Lies w B' A' (xs.map (.int .i64))) (hn : xs.length ≤ 1000000) :
    Calls Try.prog 30 #[.slice A xs.length c, .slice A' xs.length c'] w fun e w' => e = .returned (.bool true) ∧ Below w.heap.size w w' := by
  have H1 := Lib.hid h1
  have H2 := Lib.hid h2
  clear h1 h2
  go_enter Try.func30, Try.ntmps30
  go_wp2_with fail
  go_loopw [5] (fun i wr => ∃ j n : Nat, j ≤ xs.length ∧ i = .int .i64 j ∧ Hid (wr = w.drewN n)) (fun i _ => xs.length + 1 - (intOf i).toNat)
  case atStart => exact ⟨0, 0, by omega, rfl, Lib.hid rfl⟩
  case round =>
    obtain ⟨j, n, hj, rfl, hd⟩ := hrel
    by_cases hlt : j < xs.length
    · obtain ⟨a1, e1, _, g1⟩ := H1.out.place (by simp; omega)
      obtain ⟨a2, e2, _, g2⟩ := H2.out.place (by simp; omega)
      subst e1
      subst e2
      obtain ⟨x, hx⟩ : ∃ x : Int, xs[j]? = some x := ⟨_, List.getElem?_eq_getElem hlt⟩
      have d1 : wr.cell? (a1.add j) = some (.int .i64 x) := by rw [hd.out]; exact g1 j _ (by rw [List.getElem?_map, hx]; rfl)
      have d2 : wr.cell? (a2.add j) = some (.int .i64 x) := by rw [hd.out]; exact g2 j _ (by rw [List.getElem?_map, hx]; rfl)
      have n0 : (x != x) = false := by simp
      clear g1 g2 hx
      go_wp2_with fail
      go_quiet (fail)
      go_wp2_with fail
      go_roundw
      case rel => exact ⟨j + 1, n + nq, by omega, by go_num, Lib.hid (by rw [hd.out, World.drewN_drewN])⟩
      case measure => simp [intOf]; omega
    · obtain rfl : j = xs.length := by omega
      go_wp2_with fail
      go_ret
      exact ⟨rfl, by rw [hd.out]; exact Joins.below_draws _ _ _⟩
set_option maxRecDepth 100000 in
set_option maxHeartbeats 800000 in
theorem same_edit {x y : X} {w : World} (hx : x.Ok w w.heap.size) (hy : y.Ok w w.heap.size) (he : x.e = y.e) (h1 : x.add.length ≤ 1000000) (h2 : x.drop.length ≤ 1000000) :
    Calls Try.prog 20 #[x.v, y.v] w fun e w' => e = .returned (.bool true) ∧ Below w.heap.size w w' := by
  obtain ⟨xA, xc, xL, xB, xd, xZ, xn, xl, xs⟩ := x
  obtain ⟨yA, yc, yL, yB, yd, yZ, yn, yl, ys⟩ := y
  unfold X.e at he
  simp only [E.mk.injEq] at he
  obtain ⟨k1, k2, k3, k4, k5⟩ := he
  subst k2; subst k3; subst k4; subst k5
  have hb := Joins.below_alloc2 w (.cells #[.slice xA xL.length xc, .slice xB xZ.length xd, .int .i64 xn, .int .i64 xl, .int .u64 (xs : Int)] 26) (.cells #[.slice yA yL.length yc, .slice yB xZ.length yd, .int .i64 xn, .int .i64 xl, .int .u64 (xs : Int)] 26)
  have HX := Lib.hid ((hx.below hb).up hb.size)
  have HY := Lib.hid ((hy.below hb).up hb.size)
  have HB := Lib.hid hb
  have HR := Lib.hid (same_runs HX.out.add HY.out.add k1 h1)
  have n0 : (xn == xn) = true := by simp
  have n1 : (xl == xl) = true := by simp
  clear hx hy hb k1
  go_enter Try.func20, Try.ntmps20
  go_wp2_with fail
  refine HR.out.mono ?_
  rintro e W1 ⟨rfl, hb1⟩
  have HX1 := Lib.hid ((HX.out.below hb1).up hb1.size)
  have HY1 := Lib.hid ((HY.out.below hb1).up hb1.size)
  have HB1 := Lib.hid (HB.out.trans (hb1.mono HB.out.size))
  have b0 : Box W1 w.heap.size 26 [.slice xA xL.length xc, .slice xB xZ.length xd, .int .i64 xn, .int .i64 xl, .int .u64 (xs : Int)] := ((Box.new w 26 [.slice xA xL.length xc, .slice xB xZ.length xd, .int .i64 xn, .int .i64 xl, .int .u64 (xs : Int)]).alloc _).below hb1 (by simp; omega)
  have b1 : Box W1 (w.heap.size + 1) 26 [.slice yA yL.length yc, .slice yB xZ.length yd, .int .i64 xn, .int .i64 xl, .int .u64 (xs : Int)] := by
    have h := Box.new (w.alloc (.cells #[.slice xA xL.length xc, .slice xB xZ.length xd, .int .i64 xn, .int .i64 xl, .int .u64 (xs : Int)] 26)) 26 [.slice yA yL.length yc, .slice yB xZ.length yd, .int .i64 xn, .int .i64 xl, .int .u64 (xs : Int)]
    simp only [World.alloc, Array.size_push] at h
    exact Box.below h hb1 (by simp)
  have HZ := Lib.hid (same_ints HX1.out.dl HY1.out.dl h2 (c := xd) (c' := yd) (w := W1))
  have p1 := b0.cell 1
  have p2 := b1.cell 1
  have H0 := Lib.hid b0
  have H1 := Lib.hid b1
  simp only [List.getElem?_cons_succ, List.getElem?_cons_zero] at p1 p2
  clear hb1 HX HY HB HR b0 b1
  go_wp2_with fail
  refine HZ.out.mono ?_
  rintro e W2 ⟨rfl, hb2⟩
  have c0 := H0.out.below hb2 H0.out.lt
  have c1 := H1.out.below hb2 H1.out.lt
  have HB2 := Lib.hid (HB1.out.trans (hb2.mono HB1.out.size))
  have u2 := c0.cell 2
  have u3 := c0.cell 3
  have u4 := c0.cell 4
  have v2 := c1.cell 2
  have v3 := c1.cell 3
  have v4 := c1.cell 4
  simp only [List.getElem?_cons_succ, List.getElem?_cons_zero] at u2 u3 u4 v2 v3 v4
  clear hb2 p1 p2 c0 c1 HZ
  go_wp2_with fail
  go_ret
  exact ⟨rfl, HB2.out⟩
end Go.Proofs.Ythhmjjmjicmhdaa.Ed
