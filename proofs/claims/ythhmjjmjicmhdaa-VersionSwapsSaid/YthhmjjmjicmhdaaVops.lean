/- Versions, as they lie in memory; where a file's run stands; two versions of the same content. -/
import Derived.Test.YthhmjjmjicmhdaaVmm
import Derived.Test.YthhmjjmjicmhdaaEac
import Derived.Test.YthhmjjmjicmhdaaEsm
namespace Go.Proofs.Ythhmjjmjicmhdaa.Ve
set_option linter.unusedVariables false
set_option linter.unusedSimpArgs false
open Go.ChangeShapes Go.WideShapes Go.ChangeAt Go.RowKit Lift Ik Ed
/-- A version as it lies: the runs' address and capacity, the runs, the numbers. -/
structure Y where
  a : Option Addr
  c : Nat
  runs : List D
  next : Int
  log : Int
  seq : Nat
def Y.t (y : Y) : V := ⟨y.runs.map D.ru, y.next, y.log, y.seq⟩
abbrev Y.v (y : Y) : Value := .agg #[.slice y.a y.runs.length y.c, .int .i64 y.next, .int .i64 y.log, .int .u64 (y.seq : Int)]
abbrev Y.cells (y : Y) : List Value := [.slice y.a y.runs.length y.c, .int .i64 y.next, .int .i64 y.log, .int .u64 (y.seq : Int)]
abbrev Y.box (y : Y) : Obj := .cells #[.slice y.a y.runs.length y.c, .int .i64 y.next, .int .i64 y.log, .int .u64 (y.seq : Int)] 44
structure Y.Ok (w : World) (B : Nat) (y : Y) : Prop where
  runs : Runs w B y.a y.c y.runs
  wn : (Lit.int .i64 y.next).wf = true
  wl : (Lit.int .i64 y.log).wf = true
  sq : y.seq < 18446744073709551616
theorem Y.Ok.below {w w' : World} {B : Nat} {y : Y} (h : y.Ok w B) (hb : Below B w w') : y.Ok w' B := ⟨h.runs.below hb, h.wn, h.wl, h.sq⟩
theorem Y.Ok.up {w : World} {B B' : Nat} {y : Y} (h : y.Ok w B) (hB : B ≤ B') : y.Ok w B' := ⟨h.runs.up hB, h.wn, h.wl, h.sq⟩
theorem Y.Ok.next {y : Y} {w w' : World} (h : y.Ok w w.heap.size) (hb : Below w.heap.size w w') : y.Ok w' w'.heap.size := (h.below hb).up hb.size
theorem look {y : Y} {w : World} {g : Nat} (h : Box w g 44 y.cells) : w.cell? ⟨g, 0, none⟩ = some (.slice y.a y.runs.length y.c) ∧ w.cell? ⟨g, 1, none⟩ = some (.int .i64 y.next) ∧ w.cell? ⟨g, 2, none⟩ = some (.int .i64 y.log) ∧ w.cell? ⟨g, 3, none⟩ = some (.int .u64 (y.seq : Int)) :=
  ⟨h.cell 0, h.cell 1, h.cell 2, h.cell 3⟩
theorem load_box {y : Y} {w : World} {g : Nat} (h : Box w g 44 y.cells) : Sem.run Try.prog (loadVar 44 ⟨g, 0, none⟩) w = .ok y.v w :=
  run_loadVar_row (P := Try.prog) w g 44 44 y.cells.toArray (0, 0) _ h Try.underlying44 rfl (by kernel_rfl)
set_option maxRecDepth 100000 in
/-- A parameter that is a version. -/
theorem open_version {H : Type} {enc : TypeId × Value → H} {W : World} {v : Value} {d : DataW H} {p : List MemPlace} {base : Nat} (hok : Value.okWide Try.prog W .any base 44 v)
    (h : DataW.Trod enc Try.prog W 0 (fun _ => true) true 44 v d p) (hlt : ∀ x, x ∈ p → x.block < W.heap.size) : ∃ y : Y, v = y.v ∧ y.Ok W W.heap.size := by
  obtain ⟨cs, rfl, hsz⟩ := okWide_struct Try.underlying44 hok
  have h4 : Try.prog.cellsOf 44 = 4 := by kernel_rfl
  have c1 : Try.prog.cellsOf 3 = 1 := by kernel_rfl
  have c3 : Try.prog.cellsOf 24 = 1 := by kernel_rfl
  have c4 : Try.prog.cellsOf 22 = 1 := by kernel_rfl
  rw [h4] at hsz
  obtain ⟨fuel, hf⟩ := h
  obtain ⟨xs, n2, _, hy, _, hxl, hg⟩ := DataW.trod_struct Try.underlying44 hf
  obtain ⟨L, rfl⟩ : ∃ L : List Value, cs = L.toArray := ⟨cs.toList, by simp⟩
  have hL : L.length = 4 := by simpa using hsz
  match L, hL, xs, hxl with
  | [v0, v1, v2, v3], _, [y0, y1, y2, y3], _ =>
    have hpe : p = y0.2 ++ (y1.2 ++ (y2.2 ++ y3.2)) := by
      have := congrArg Prod.snd hy
      simpa using this
    rw [hpe] at hlt
    have t0 := hg 0 _ rfl
    have t1 := hg 1 _ rfl
    have t2 := hg 2 _ rfl
    have t3 := hg 3 _ rfl
    obtain ⟨A0, q0, L0, rfl, hr0⟩ := open_runs_at (n := n2) (y := y0) (v := v0) (by simpa [Value.cells, c4] using t0) (fun x hx2 => hlt x (by simp [hx2]))
    obtain ⟨k2, rfl, wk2⟩ := open_int_at (k := .i64) (n := n2) (y := y1) Try.underlying3 (v := v1) (by simpa [Value.cells, c1] using t1)
    obtain ⟨k3, rfl, wk3⟩ := open_int_at (k := .i64) (n := n2) (y := y2) Try.underlying3 (v := v2) (by simpa [Value.cells, c1] using t2)
    obtain ⟨k4, rfl, wk4⟩ := open_int_at (k := .u64) (n := n2) (y := y3) Try.underlying24 (v := v3) (by simpa [Value.cells, c3] using t3)
    obtain ⟨s, rfl⟩ := Int.eq_ofNat_of_zero_le (u64_of wk4).1
    have bs := (u64_of wk4).2
    exact ⟨⟨A0, q0, L0, k2, k3, s⟩, rfl, ⟨hr0, wk2, wk3, by show s < 18446744073709551616; omega⟩⟩
set_option maxRecDepth 100000 in
set_option maxHeartbeats 1600000 in
theorem place_any {w : World} {B : Nat} {A : Option Addr} {c : Nat} {L : List D} (h : Runs w B A c L) (f : Int) :
    Calls Try.prog 60 #[.slice A L.length c, .int .i64 f] w fun e w' => e = .returned (.int .i64 (spotI (L.map D.ru) f)) ∧ w = w' := by
  have H := Lib.hid h
  have b5 := Nat.le_trans h.len h.cap
  unfold maxLen at b5
  obtain ⟨z, hz⟩ : ∃ z, z = spotI (L.map D.ru) f := ⟨_, rfl⟩
  rw [← hz]
  have HZ := Lib.hid hz
  clear h hz
  go_enter Try.func60, Try.ntmps60
  go_wp2_with fail
  go_loopw [5] (fun i wr => ∃ k : Nat, k ≤ L.length ∧ i = .int .i64 (k : Int) ∧ wr = w ∧ Hid (∀ r, r ∈ (L.map D.ru).take k → r.file ≠ f)) (fun i _ => L.length + 1 - (intOf i).toNat)
  case atStart => exact ⟨0, Nat.zero_le _, rfl, rfl, Lib.hid fun r hr => by simp at hr⟩
  case round =>
    obtain ⟨k, hk, rfl, rfl, hall⟩ := hrel
    by_cases hlt : k < L.length
    · obtain ⟨d, hd⟩ : ∃ d, L[k]? = some d := ⟨_, List.getElem?_eq_getElem hlt⟩
      obtain ⟨ad, p, hA, -, hpp, q0, -⟩ := H.out.place hd
      subst hA
      have HD := Lib.hid hd
      have HRU : Hid ((L.map D.ru)[k]? = some d.ru) := Lib.hid (by rw [List.getElem?_map, hd]; rfl)
      clear hd
      by_cases he : d.file = f
      · have t1 : (d.file == f) = true := by rw [beq_iff_eq]; exact he
        have HS : Hid (z = (k : Int)) := Lib.hid (by
          rw [HZ.out]
          unfold spotI
          rw [spot_at HRU.out he hall.out])
        clear he
        go_wp2_with fail
        go_ret
        exact ⟨by rw [HS.out]; rfl, rfl⟩
      · have t1 : (d.file == f) = false := by rw [beq_eq_false_iff_ne]; exact he
        have HE := Lib.hid he
        clear he
        go_wp2_with fail
        go_roundw
        case rel => exact ⟨k + 1, by omega, by go_num, trivial, Lib.hid fun r hr => by
          rw [List.take_add_one, HRU.out] at hr
          rcases List.mem_append.1 hr with hr | hr
          · exact hall.out r hr
          · have e : r = d.ru := by simpa using hr
            rw [e]; exact HE.out⟩
        case measure => simp [intOf]; omega
    · obtain rfl : k = L.length := by omega
      have HS : Hid (z = -1) := Lib.hid (by
        rw [HZ.out]
        unfold spotI
        have : spot (L.map D.ru) f = none := spot_none.2 fun r hr => hall.out r (by rw [show L.length = (L.map D.ru).length by simp, List.take_length]; exact hr)
        rw [this])
      go_wp2_with fail
      go_ret
      exact ⟨by rw [HS.out]; rfl, rfl⟩
set_option maxRecDepth 100000 in
set_option maxHeartbeats 800000 in
theorem same_version {x y : Y} {w : World} (hx : x.Ok w w.heap.size) (hy : y.Ok w w.heap.size) (he : x.t = y.t) (h1 : x.runs.length ≤ 1000000) :
    Calls Try.prog 26 #[x.v, y.v] w fun e w' => e = .returned (.bool true) ∧ Below w.heap.size w w' := by
  obtain ⟨xA, xc, xL, xn, xl, xs⟩ := x
  obtain ⟨yA, yc, yL, yn, yl, ys⟩ := y
  unfold Y.t at he
  simp only [V.mk.injEq] at he
  obtain ⟨k1, k3, k4, k5⟩ := he
  subst k3; subst k4; subst k5
  have hb := Joins.below_alloc2 w (.cells #[.slice xA xL.length xc, .int .i64 xn, .int .i64 xl, .int .u64 (xs : Int)] 44) (.cells #[.slice yA yL.length yc, .int .i64 xn, .int .i64 xl, .int .u64 (xs : Int)] 44)
  have HX := Lib.hid ((hx.below hb).up hb.size)
  have HY := Lib.hid ((hy.below hb).up hb.size)
  have HB := Lib.hid hb
  have HR := Lib.hid (same_runs HX.out.runs HY.out.runs k1 h1)
  have n0 : (xn == xn) = true := by simp
  have n1 : (xl == xl) = true := by simp
  clear hx hy hb k1
  go_enter Try.func26, Try.ntmps26
  go_wp2_with fail
  refine HR.out.mono ?_
  rintro e W1 ⟨rfl, hb1⟩
  have HB1 := Lib.hid (HB.out.trans (hb1.mono HB.out.size))
  have b0 : Box W1 w.heap.size 44 [.slice xA xL.length xc, .int .i64 xn, .int .i64 xl, .int .u64 (xs : Int)] := ((Box.new w 44 [.slice xA xL.length xc, .int .i64 xn, .int .i64 xl, .int .u64 (xs : Int)]).alloc _).below hb1 (by simp; omega)
  have b1 : Box W1 (w.heap.size + 1) 44 [.slice yA yL.length yc, .int .i64 xn, .int .i64 xl, .int .u64 (xs : Int)] := by
    have h := Box.new (w.alloc (.cells #[.slice xA xL.length xc, .int .i64 xn, .int .i64 xl, .int .u64 (xs : Int)] 44)) 44 [.slice yA yL.length yc, .int .i64 xn, .int .i64 xl, .int .u64 (xs : Int)]
    simp only [World.alloc, Array.size_push] at h
    exact Box.below h hb1 (by simp)
  have u2 := b0.cell 1
  have u3 := b0.cell 2
  have u4 := b0.cell 3
  have v2 := b1.cell 1
  have v3 := b1.cell 2
  have v4 := b1.cell 3
  simp only [List.getElem?_cons_succ, List.getElem?_cons_zero] at u2 u3 u4 v2 v3 v4
  clear hb1 HX HY HB HR b0 b1
  go_wp2_with fail
  go_ret
  exact ⟨rfl, HB1.out⟩
end Go.Proofs.Ythhmjjmjicmhdaa.Ve
