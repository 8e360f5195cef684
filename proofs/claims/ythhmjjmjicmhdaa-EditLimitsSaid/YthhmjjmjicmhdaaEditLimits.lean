/- Proved: for any two numbers, EditLimits of butterylaw16 answers true (Right and Bytes of package edit accept exactly up to the limits of an edit). Conditions: none beyond what the given row states. -/
import Derived.Test.YthhmjjmjicmhdaaElm
namespace Go.Proofs.Ythhmjjmjicmhdaa.editLimits
set_option linter.unusedVariables false
set_option linter.unusedSimpArgs false
open Go.ChangeShapes Go.WideShapes Go.ChangeAt Go.RowKit Lift Ed Ik

theorem own : ownKnob Try.prog.godebug = none := by kernel_rfl

theorem right0 (N n : Nat) (Aa : Option Addr) (ca : Nat) (more : Int) (h1 : -1 ≤ more) (h2 : more ≤ 1) (hn : 100 + more = (n : Int)) : right (X.e ⟨Aa, ca, runsI N n, none, 0, [], 0, 0, 0⟩) = decide (more ≤ 0) := by
  show right ⟨(runsI N n).map D.ru, [], 0, 0, 0⟩ = decide (more ≤ 0)
  rw [runsI_ru]
  have hc : more = -1 ∧ n = 99 ∨ more = 0 ∧ n = 100 ∨ more = 1 ∧ n = 101 := by omega
  rcases hc with ⟨rfl, rfl⟩ | ⟨rfl, rfl⟩ | ⟨rfl, rfl⟩ <;> decide +kernel
set_option maxRecDepth 100000 in
set_option maxHeartbeats 6400000 in
theorem walk0 (more : Int) (w : World) (h1 : -1 ≤ more) (h2 : more ≤ 1) : Calls Try.prog 6 #[.int .i64 0, .int .i64 more] w (Yes w) := by
  have d1 : decide (more < -1) = false := decide_eq_false (by omega)
  have d2 : decide (1 < more) = false := decide_eq_false (by omega)
  go_enter Try.func6, Try.ntmps6
  go_wp2_with fail
  refine (alive_any _).mono ?_
  rintro e W1 ⟨rfl, hb1⟩
  have HBS := Lib.hid (base_mk hb1)
  clear hb1
  have kc := fun (W : World) (C : Array Value) (n c : Nat) => Lib.run_convert_bytes_const (P := Try.prog) W 29 5 C n c Try.underlying29 Try.underlying5
  have k2 := Joins.run_convert_bytes_const_at (P := Try.prog) (W1.alloc (.cells #[.int .u8 97] 5 (1, 2))) 29 5 #[.int .u8 98] 1 1 (W1.heap.size + 1) (by simp) Try.underlying29 Try.underlying5
  go_upto_region 6 with fail
  clear kc k2
  generalize hN : W1.heap.size = N at *
  generalize (((((W1.alloc obA).alloc obB).alloc (obR N)).alloc (obR N)).alloc (obE N)) = W at *
  clear hN
  obtain ⟨n, hn⟩ : ∃ n : Nat, 100 + more = (n : Int) := ⟨(100 + more).toNat, by omega⟩
  have HN := Lib.hid hn
  have hnn : n ≤ 101 := by omega
  have hwr : IntKind.i64.wrap (100 + more) = 100 + more := IntWalk.i64_in _ (by omega)
  have z : W.frozen? ⟨N + 1 + 1 + 1 + 1, 0, none⟩ = false := HBS.out.edit.free 0
  have p : W.cell? ⟨N + 1 + 1 + 1 + 1, 0, none⟩ = some (.slice (some ⟨N + 1 + 1 + 1, 0, none⟩) 1 1) := HBS.out.edit.cell 0
  have HAD := Lib.hid HBS.out.adds
  clear HBS hn
  go_upto_region 10 with fail
  clear p z
  generalize W.setCell ⟨N + 1 + 1 + 1 + 1, 0, none⟩ (.slice none 0 0) = W0 at *
  go_wp2_with fail
  go_loopw [8] (fun i wr => ∃ (j : Nat) (va : Value) (F : Int), j ≤ n ∧ i = .int .i64 (j : Int) ∧ Hid (Adds w wr N j va F)) (fun i _ => n + 1 - (intOf i).toNat)
  case atStart => exact ⟨0, _, _, Nat.zero_le _, rfl, HAD⟩
  case round =>
    obtain ⟨j, va, F, hj, rfl, ha⟩ := hrel
    by_cases hlt : j < n
    · have dl : decide ((j : Int) < 100 + more) = true := decide_eq_true (by have := HN.out; omega)
      have HF := Lib.hid (ha.out.file ((j : Int) + 1))
      have p0 : wr.cell? ⟨N + 1 + 1, 0, none⟩ = some (.int .i64 F) := ha.out.run.cell 0
      have z0 : wr.frozen? ⟨N + 1 + 1, 0, none⟩ = false := ha.out.run.free 0
      go_upto_region 14 with fail
      clear p0 z0 ha
      generalize wr.setCell ⟨N + 1 + 1, 0, none⟩ (.int .i64 ((j : Int) + 1)) = W1 at *
      obtain ⟨v', W2, hrun, hc0, hz0, hsb⟩ := HF.out.more (by omega)
      have HRUN := Lib.hid hrun
      have HSB := Lib.hid hsb
      have x0 : W1.cell? ⟨N + 1 + 1, 0, none⟩ = some (.int .i64 ((j : Int) + 1)) := HF.out.run.cell 0
      have x1 : W1.cell? ⟨N + 1 + 1, 0 + 1, none⟩ = some (.int .i64 1) := HF.out.run.cell 1
      have x2 : W1.cell? ⟨N + 1 + 1, 0 + 2, none⟩ = some (.int .i64 1) := HF.out.run.cell 2
      have x3 : W1.cell? ⟨N + 1 + 1, 0 + 3, none⟩ = some (.slice (some ⟨N, 0, none⟩) 1 1) := HF.out.run.cell 3
      have x4 : W1.cell? ⟨N + 1 + 1, 0 + 4, none⟩ = some (.slice (some ⟨N + 1, 0, none⟩) 1 1) := HF.out.run.cell 4
      have x5 : W1.cell? ⟨N + 1 + 1, 0 + 5, none⟩ = some (.int .u64 ((1 : Nat) : Int)) := HF.out.run.cell 5
      have hload := load_run (d := dI N ((j : Int) + 1) 1) (p := ⟨N + 1 + 1, 0, none⟩) x0 x1 x2 x3 x4 x5
      have y0 : W1.cell? ⟨N + 1 + 1 + 1 + 1, 0, none⟩ = some va := HF.out.edit.cell 0
      obtain ⟨Ao, co, rfl, -, -, -⟩ := own_parts HF.out.add.own
      obtain ⟨Av, cv, rfl, -, -, -⟩ := own_parts HSB.out.add.own
      clear hrun hsb HF
      simp only [runsI_len] at HRUN HSB y0 hc0
      go_wp2_with (at_builtin; refine wpList_append_run rfl _ _ 22 rfl rfl rfl HRUN.out ?_)
      go_roundw
      case rel => exact ⟨j + 1, _, _, by omega, by go_num, HSB⟩
      case measure => simp [intOf]; omega
    · obtain rfl : j = n := by omega
      have dl : decide ((j : Int) < 100 + more) = false := decide_eq_false (by have := HN.out; omega)
      obtain ⟨Aa, ca, rfl, -, -, -⟩ := own_parts ha.out.add.own
      have HX := Lib.hid (ok_of (nx := 0) (lg := 0) (sq := 0) (Ad := none) (cd := 0) (Z := []) ha.out.add (World.ownsRow_nil _ _ _ _) (fun _ h => by cases h) ⟨by decide, by decide⟩ ⟨by decide, by decide⟩ (by decide))
      have HBX : Hid (Box wr (N + 1 + 1 + 1 + 1) 26 (X.cells ⟨Aa, ca, runsI N j, none, 0, [], 0, 0, 0⟩)) := Lib.hid ha.out.edit
      have HBE := Lib.hid ha.out.be
      have HRI := Lib.hid (right0 N j Aa ca more h1 h2 HN.out)
      clear ha
      go_upto_region 33 with fail
      obtain ⟨k0, k1, k2, k3, k4⟩ := box_look HBX.out
      have HR := Lib.hid (oright_any ⟨Aa, ca, runsI N j, none, 0, [], 0, 0, 0⟩ wr.heap.size wr HX.out (Nat.le_refl _))
      by_cases hm : more ≤ 0
      · have dm : decide (more ≤ 0) = true := decide_eq_true hm
        have HRT := HRI.out
        rw [dm] at HRT
        rw [HRT] at HR
        have HRR := Lib.hid HRT
        clear HRT hm
        go_wp2_with fail
        refine HR.out.mono ?_
        rintro e V2 ⟨rfl, hb2⟩
        have HB2 := Lib.hid (HBE.out.trans (hb2.mono HBE.out.size))
        have HBY := Lib.hid (obytes_any ⟨Aa, ca, runsI N j, none, 0, [], 0, 0, 0⟩ V2.heap.size V2 (HX.out.next hb2) (Nat.le_refl _))
        rw [bytesE_yes HRR.out] at HBY
        have hpos := encE_pos (X.e ⟨Aa, ca, runsI N j, none, 0, [], 0, 0, 0⟩)
        generalize encE (X.e ⟨Aa, ca, runsI N j, none, 0, [], 0, 0, 0⟩) = P at *
        clear k0 k1 k2 k3 k4
        obtain ⟨k0, k1, k2, k3, k4⟩ := box_look (HBX.out.below hb2 HBX.out.lt)
        clear hb2 HR
        have dp : decide ((0 : Int) < (P.length : Int)) = true := decide_eq_true (by omega)
        have dp2 : decide (0 < P.length) = true := decide_eq_true (by omega)
        go_wp2_with fail
        refine HBY.out.mono ?_
        intro e V3 hm
        obtain ⟨A3, c3, rfl, -, -, -, hb3⟩ := hm.parts
        have HB3 := Lib.hid (HB2.out.trans (hb3.mono HB2.out.size))
        clear hm hb3 HBY
        go_wp2_with fail
        go_ret
        exact ⟨rfl, HB3.out⟩
      · have dm : decide (more ≤ 0) = false := decide_eq_false hm
        have HRT := HRI.out
        rw [dm] at HRT
        rw [HRT] at HR
        have HRR := Lib.hid HRT
        clear HRT hm
        go_wp2_with fail
        refine HR.out.mono ?_
        rintro e V2 ⟨rfl, hb2⟩
        have HB2 := Lib.hid (HBE.out.trans (hb2.mono HBE.out.size))
        have HBY := Lib.hid (obytes_any ⟨Aa, ca, runsI N j, none, 0, [], 0, 0, 0⟩ V2.heap.size V2 (HX.out.next hb2) (Nat.le_refl _))
        rw [bytesE_no HRR.out] at HBY
        clear k0 k1 k2 k3 k4
        obtain ⟨k0, k1, k2, k3, k4⟩ := box_look (HBX.out.below hb2 HBX.out.lt)
        clear hb2 HR
        go_wp2_with fail
        refine HBY.out.mono ?_
        intro e V3 hm
        obtain ⟨A3, c3, rfl, -, -, -, hb3⟩ := hm.parts
        have HB3 := Lib.hid (HB2.out.trans (hb3.mono HB2.out.size))
        clear hm hb3 HBY
        go_wp2_with fail
        go_ret
        exact ⟨rfl, HB3.out⟩

theorem right1 (N n : Nat) (Ad : Option Addr) (cd : Nat) (more : Int) (h1 : -1 ≤ more) (h2 : more ≤ 1) (hn : 100 + more = (n : Int)) : right (X.e ⟨some ⟨N + 1 + 1 + 1, 0, none⟩, 1, [dI N 1 1], Ad, cd, dropsI n, 0, 0, 0⟩) = decide (more ≤ 0) := by
  show right ⟨[⟨1, 1, 1, [97], [98], 1⟩], dropsI n, 0, 0, 0⟩ = decide (more ≤ 0)
  have hc : more = -1 ∧ n = 99 ∨ more = 0 ∧ n = 100 ∨ more = 1 ∧ n = 101 := by omega
  rcases hc with ⟨rfl, rfl⟩ | ⟨rfl, rfl⟩ | ⟨rfl, rfl⟩ <;> decide +kernel
set_option maxRecDepth 100000 in
set_option maxHeartbeats 6400000 in
theorem walk1 (more : Int) (w : World) (h1 : -1 ≤ more) (h2 : more ≤ 1) : Calls Try.prog 6 #[.int .i64 1, .int .i64 more] w (Yes w) := by
  have d1 : decide (more < -1) = false := decide_eq_false (by omega)
  have d2 : decide (1 < more) = false := decide_eq_false (by omega)
  go_enter Try.func6, Try.ntmps6
  go_wp2_with fail
  refine (alive_any _).mono ?_
  rintro e W1 ⟨rfl, hb1⟩
  have HBS := Lib.hid (base_mk hb1)
  clear hb1
  have kc := fun (W : World) (C : Array Value) (n c : Nat) => Lib.run_convert_bytes_const (P := Try.prog) W 29 5 C n c Try.underlying29 Try.underlying5
  have k2 := Joins.run_convert_bytes_const_at (P := Try.prog) (W1.alloc (.cells #[.int .u8 97] 5 (1, 2))) 29 5 #[.int .u8 98] 1 1 (W1.heap.size + 1) (by simp) Try.underlying29 Try.underlying5
  go_upto_region 6 with fail
  clear kc k2
  generalize hN : W1.heap.size = N at *
  generalize (((((W1.alloc obA).alloc obB).alloc (obR N)).alloc (obR N)).alloc (obE N)) = W at *
  clear hN
  obtain ⟨n, hn⟩ : ∃ n : Nat, 100 + more = (n : Int) := ⟨(100 + more).toNat, by omega⟩
  have HN := Lib.hid hn
  have hnn : n ≤ 101 := by omega
  have hwr : IntKind.i64.wrap (100 + more) = 100 + more := IntWalk.i64_in _ (by omega)
  have HDR := Lib.hid HBS.out.drops
  clear HBS hn
  go_wp2_with fail
  go_loopw [9] (fun i wr => ∃ (j : Nat) (vd : Value), j ≤ n ∧ i = .int .i64 (j : Int) ∧ Hid (Drops w wr N j vd)) (fun i _ => n + 1 - (intOf i).toNat)
  case atStart => exact ⟨0, _, Nat.zero_le _, rfl, HDR⟩
  case round =>
    obtain ⟨j, vd, hj, rfl, ha⟩ := hrel
    by_cases hlt : j < n
    · have dl : decide ((j : Int) < 100 + more) = true := decide_eq_true (by have := HN.out; omega)
      have y0 : wr.cell? ⟨N + 1 + 1 + 1 + 1, 1, none⟩ = some vd := ha.out.edit.cell 1
      obtain ⟨v', W2, hrun, hc0, hz0, hsb⟩ := ha.out.more (by omega)
      have HRUN := Lib.hid hrun
      have HSB := Lib.hid hsb
      obtain ⟨Ao, co, rfl, -, -, -⟩ := own_parts ha.out.drop
      obtain ⟨Av, cv, rfl, -, -, -⟩ := own_parts HSB.out.drop
      clear hrun hsb ha
      simp only [dropsI_len] at HRUN HSB y0 hc0
      go_wp2_with (at_builtin; refine wpList_append_run rfl _ _ 23 rfl rfl rfl HRUN.out ?_)
      go_roundw
      case rel => exact ⟨j + 1, _, by omega, by go_num, HSB⟩
      case measure => simp [intOf]; omega
    · obtain rfl : j = n := by omega
      have dl : decide ((j : Int) < 100 + more) = false := decide_eq_false (by have := HN.out; omega)
      have hown := ha.out.drop
      obtain ⟨Ad, cd, rfl, hcd, hmd, hld⟩ := own_parts hown
      have HX := Lib.hid (one_ok (nx := 0) (lg := 0) (sq := 0) ha.out.row (dI_ok ha.out.keys (by decide) (by decide)).low hld hcd hmd (fun z hz => by
        obtain ⟨i, hi, rfl⟩ := List.mem_map.1 hz
        have := List.mem_range.1 hi
        exact WalkArith.wf_i64 (by omega)) (by decide) (by decide) (by decide))
      have HBX : Hid (Box wr (N + 1 + 1 + 1 + 1) 26 (X.cells ⟨some ⟨N + 1 + 1 + 1, 0, none⟩, 1, [dI N 1 1], Ad, cd, dropsI j, 0, 0, 0⟩)) := Lib.hid ha.out.edit
      have HBE := Lib.hid ha.out.be
      have HRI := Lib.hid (right1 N j Ad cd more h1 h2 HN.out)
      clear ha hown hcd hmd hld
      go_upto_region 33 with fail
      obtain ⟨k0, k1, k2, k3, k4⟩ := box_look HBX.out
      have HR := Lib.hid (oright_any ⟨some ⟨N + 1 + 1 + 1, 0, none⟩, 1, [dI N 1 1], Ad, cd, dropsI j, 0, 0, 0⟩ wr.heap.size wr HX.out (Nat.le_refl _))
      by_cases hm : more ≤ 0
      · have dm : decide (more ≤ 0) = true := decide_eq_true hm
        have HRT := HRI.out
        rw [dm] at HRT
        rw [HRT] at HR
        have HRR := Lib.hid HRT
        clear HRT hm
        go_wp2_with fail
        refine HR.out.mono ?_
        rintro e V2 ⟨rfl, hb2⟩
        have HB2 := Lib.hid (HBE.out.trans (hb2.mono HBE.out.size))
        have HBY := Lib.hid (obytes_any ⟨some ⟨N + 1 + 1 + 1, 0, none⟩, 1, [dI N 1 1], Ad, cd, dropsI j, 0, 0, 0⟩ V2.heap.size V2 (HX.out.next hb2) (Nat.le_refl _))
        rw [bytesE_yes HRR.out] at HBY
        have hpos := encE_pos (X.e ⟨some ⟨N + 1 + 1 + 1, 0, none⟩, 1, [dI N 1 1], Ad, cd, dropsI j, 0, 0, 0⟩)
        generalize encE (X.e ⟨some ⟨N + 1 + 1 + 1, 0, none⟩, 1, [dI N 1 1], Ad, cd, dropsI j, 0, 0, 0⟩) = P at *
        clear k0 k1 k2 k3 k4
        obtain ⟨k0, k1, k2, k3, k4⟩ := box_look (HBX.out.below hb2 HBX.out.lt)
        clear hb2 HR
        have dp : decide ((0 : Int) < (P.length : Int)) = true := decide_eq_true (by omega)
        have dp2 : decide (0 < P.length) = true := decide_eq_true (by omega)
        go_wp2_with fail
        refine HBY.out.mono ?_
        intro e V3 hm
        obtain ⟨A3, c3, rfl, -, -, -, hb3⟩ := hm.parts
        have HB3 := Lib.hid (HB2.out.trans (hb3.mono HB2.out.size))
        clear hm hb3 HBY
        go_wp2_with fail
        go_ret
        exact ⟨rfl, HB3.out⟩
      · have dm : decide (more ≤ 0) = false := decide_eq_false hm
        have HRT := HRI.out
        rw [dm] at HRT
        rw [HRT] at HR
        have HRR := Lib.hid HRT
        clear HRT hm
        go_wp2_with fail
        refine HR.out.mono ?_
        rintro e V2 ⟨rfl, hb2⟩
        have HB2 := Lib.hid (HBE.out.trans (hb2.mono HBE.out.size))
        have HBY := Lib.hid (obytes_any ⟨some ⟨N + 1 + 1 + 1, 0, none⟩, 1, [dI N 1 1], Ad, cd, dropsI j, 0, 0, 0⟩ V2.heap.size V2 (HX.out.next hb2) (Nat.le_refl _))
        rw [bytesE_no HRR.out] at HBY
        clear k0 k1 k2 k3 k4
        obtain ⟨k0, k1, k2, k3, k4⟩ := box_look (HBX.out.below hb2 HBX.out.lt)
        clear hb2 HR
        go_wp2_with fail
        refine HBY.out.mono ?_
        intro e V3 hm
        obtain ⟨A3, c3, rfl, -, -, -, hb3⟩ := hm.parts
        have HB3 := Lib.hid (HB2.out.trans (hb3.mono HB2.out.size))
        clear hm hb3 HBY
        go_wp2_with fail
        go_ret
        exact ⟨rfl, HB3.out⟩

theorem right2 (N : Nat) (more : Int) (h1 : -1 ≤ more) (h2 : more ≤ 1) : right (X.e ⟨some ⟨N + 1 + 1 + 1, 0, none⟩, 1, [dI N 1 1], none, 0, [], 1099511627776 + more, 0, 0⟩) = decide (more ≤ 0) := by
  show right ⟨[⟨1, 1, 1, [97], [98], 1⟩], [], 1099511627776 + more, 0, 0⟩ = decide (more ≤ 0)
  have hc : more = -1 ∨ more = 0 ∨ more = 1 := by omega
  rcases hc with rfl | rfl | rfl <;> decide +kernel
set_option maxRecDepth 100000 in
set_option maxHeartbeats 6400000 in
theorem walk2 (more : Int) (w : World) (h1 : -1 ≤ more) (h2 : more ≤ 1) : Calls Try.prog 6 #[.int .i64 2, .int .i64 more] w (Yes w) := by
  have d1 : decide (more < -1) = false := decide_eq_false (by omega)
  have d2 : decide (1 < more) = false := decide_eq_false (by omega)
  go_enter Try.func6, Try.ntmps6
  go_wp2_with fail
  refine (alive_any _).mono ?_
  rintro e W1 ⟨rfl, hb1⟩
  have HBS := Lib.hid (base_mk hb1)
  clear hb1
  have kc := fun (W : World) (C : Array Value) (n c : Nat) => Lib.run_convert_bytes_const (P := Try.prog) W 29 5 C n c Try.underlying29 Try.underlying5
  have k2 := Joins.run_convert_bytes_const_at (P := Try.prog) (W1.alloc (.cells #[.int .u8 97] 5 (1, 2))) 29 5 #[.int .u8 98] 1 1 (W1.heap.size + 1) (by simp) Try.underlying29 Try.underlying5
  go_upto_region 6 with fail
  clear kc k2
  generalize hN : W1.heap.size = N at *
  generalize (((((W1.alloc obA).alloc obB).alloc (obR N)).alloc (obR N)).alloc (obE N)) = W at *
  clear hN
  have z : W.frozen? ⟨N + 1 + 1 + 1 + 1, 2, none⟩ = false := HBS.out.edit.free 2
  have p : W.cell? ⟨N + 1 + 1 + 1 + 1, 2, none⟩ = (xI N).cells[2]? := HBS.out.edit.cell 2
  have q0 : ¬ N = N + 1 + 1 + 1 + 1 := by omega
  have q1 : ¬ N + 1 = N + 1 + 1 + 1 + 1 := by omega
  have q2 : ¬ N + 1 + 1 + 1 = N + 1 + 1 + 1 + 1 := by omega
  have hkp : Keep (· = N + 1 + 1 + 1 + 1) W (W.setCell ⟨N + 1 + 1 + 1 + 1, 2, none⟩ (.int .i64 (1099511627776 + more))) := (Keep.refl (· = N + 1 + 1 + 1 + 1) W).setCell (p := ⟨N + 1 + 1 + 1 + 1, 2, none⟩) (.inr rfl) _
  have HBX : Hid (Box (W.setCell ⟨N + 1 + 1 + 1 + 1, 2, none⟩ (.int .i64 (1099511627776 + more))) (N + 1 + 1 + 1 + 1) 26 (X.cells ⟨some ⟨N + 1 + 1 + 1, 0, none⟩, 1, [dI N 1 1], none, 0, [], 1099511627776 + more, 0, 0⟩)) := Lib.hid (HBS.out.edit.set 2 (.int .i64 (1099511627776 + more)))
  have hkeys := HBS.out.keys.keep hkp q0 q1
  have hrow := HBS.out.row.keep hkp q2
  have HX : Hid (X.Ok (W.setCell ⟨N + 1 + 1 + 1 + 1, 2, none⟩ (.int .i64 (1099511627776 + more))) (W.setCell ⟨N + 1 + 1 + 1 + 1, 2, none⟩ (.int .i64 (1099511627776 + more))).heap.size ⟨some ⟨N + 1 + 1 + 1, 0, none⟩, 1, [dI N 1 1], none, 0, [], 1099511627776 + more, 0, 0⟩) := Lib.hid (one_ok hrow (dI_ok hkeys (by decide) (by decide)).low (.inl rfl) (Nat.le_refl _) (by decide) (fun _ h => by cases h) (WalkArith.wf_i64 (by omega)) (by decide) (by decide))
  have HBE := Lib.hid (HBS.out.be.setCell (p := ⟨N + 1 + 1 + 1 + 1, 2, none⟩) (by have := HBS.out.ge; show w.heap.size ≤ N + 1 + 1 + 1 + 1; omega) (.int .i64 (1099511627776 + more)))
  have HRI := Lib.hid (right2 N more h1 h2)
  clear hkp hkeys hrow q0 q1 q2 HBS
  go_upto_region 33 with fail
  clear p z
  generalize W.setCell ⟨N + 1 + 1 + 1 + 1, 2, none⟩ (.int .i64 (1099511627776 + more)) = V at *
  obtain ⟨k0, k1, k2, k3, k4⟩ := box_look HBX.out
  have HR := Lib.hid (oright_any ⟨some ⟨N + 1 + 1 + 1, 0, none⟩, 1, [dI N 1 1], none, 0, [], 1099511627776 + more, 0, 0⟩ V.heap.size V HX.out (Nat.le_refl _))
  by_cases hm : more ≤ 0
  · have dm : decide (more ≤ 0) = true := decide_eq_true hm
    have HRT := HRI.out
    rw [dm] at HRT
    rw [HRT] at HR
    have HRR := Lib.hid HRT
    clear HRT hm
    go_wp2_with fail
    refine HR.out.mono ?_
    rintro e V2 ⟨rfl, hb2⟩
    have HB2 := Lib.hid (HBE.out.trans (hb2.mono HBE.out.size))
    have HBY := Lib.hid (obytes_any ⟨some ⟨N + 1 + 1 + 1, 0, none⟩, 1, [dI N 1 1], none, 0, [], 1099511627776 + more, 0, 0⟩ V2.heap.size V2 (HX.out.next hb2) (Nat.le_refl _))
    rw [bytesE_yes HRR.out] at HBY
    have hpos := encE_pos (X.e ⟨some ⟨N + 1 + 1 + 1, 0, none⟩, 1, [dI N 1 1], none, 0, [], 1099511627776 + more, 0, 0⟩)
    generalize encE (X.e ⟨some ⟨N + 1 + 1 + 1, 0, none⟩, 1, [dI N 1 1], none, 0, [], 1099511627776 + more, 0, 0⟩) = P at *
    clear k0 k1 k2 k3 k4
    obtain ⟨k0, k1, k2, k3, k4⟩ := box_look (HBX.out.below hb2 HBX.out.lt)
    clear hb2 HR
    have dp : decide ((0 : Int) < (P.length : Int)) = true := decide_eq_true (by omega)
    have dp2 : decide (0 < P.length) = true := decide_eq_true (by omega)
    go_wp2_with fail
    refine HBY.out.mono ?_
    intro e V3 hm
    obtain ⟨A3, c3, rfl, -, -, -, hb3⟩ := hm.parts
    have HB3 := Lib.hid (HB2.out.trans (hb3.mono HB2.out.size))
    clear hm hb3 HBY
    go_wp2_with fail
    go_ret
    exact ⟨rfl, HB3.out⟩
  · have dm : decide (more ≤ 0) = false := decide_eq_false hm
    have HRT := HRI.out
    rw [dm] at HRT
    rw [HRT] at HR
    have HRR := Lib.hid HRT
    clear HRT hm
    go_wp2_with fail
    refine HR.out.mono ?_
    rintro e V2 ⟨rfl, hb2⟩
    have HB2 := Lib.hid (HBE.out.trans (hb2.mono HBE.out.size))
    have HBY := Lib.hid (obytes_any ⟨some ⟨N + 1 + 1 + 1, 0, none⟩, 1, [dI N 1 1], none, 0, [], 1099511627776 + more, 0, 0⟩ V2.heap.size V2 (HX.out.next hb2) (Nat.le_refl _))
    rw [bytesE_no HRR.out] at HBY
    clear k0 k1 k2 k3 k4
    obtain ⟨k0, k1, k2, k3, k4⟩ := box_look (HBX.out.below hb2 HBX.out.lt)
    clear hb2 HR
    go_wp2_with fail
    refine HBY.out.mono ?_
    intro e V3 hm
    obtain ⟨A3, c3, rfl, -, -, -, hb3⟩ := hm.parts
    have HB3 := Lib.hid (HB2.out.trans (hb3.mono HB2.out.size))
    clear hm hb3 HBY
    go_wp2_with fail
    go_ret
    exact ⟨rfl, HB3.out⟩

theorem right3 (N : Nat) (more : Int) (h1 : -1 ≤ more) (h2 : more ≤ 1) : right (X.e ⟨some ⟨N + 1 + 1 + 1, 0, none⟩, 1, [dI N 1 (16777216 + more)], none, 0, [], 0, 0, 0⟩) = decide (more ≤ 0) := by
  show right ⟨[⟨1, (16777216 + more), 1, [97], [98], 1⟩], [], 0, 0, 0⟩ = decide (more ≤ 0)
  have hc : more = -1 ∨ more = 0 ∨ more = 1 := by omega
  rcases hc with rfl | rfl | rfl <;> decide +kernel
set_option maxRecDepth 100000 in
set_option maxHeartbeats 6400000 in
theorem walk3 (more : Int) (w : World) (h1 : -1 ≤ more) (h2 : more ≤ 1) : Calls Try.prog 6 #[.int .i64 3, .int .i64 more] w (Yes w) := by
  have d1 : decide (more < -1) = false := decide_eq_false (by omega)
  have d2 : decide (1 < more) = false := decide_eq_false (by omega)
  go_enter Try.func6, Try.ntmps6
  go_wp2_with fail
  refine (alive_any _).mono ?_
  rintro e W1 ⟨rfl, hb1⟩
  have HBS := Lib.hid (base_mk hb1)
  clear hb1
  have kc := fun (W : World) (C : Array Value) (n c : Nat) => Lib.run_convert_bytes_const (P := Try.prog) W 29 5 C n c Try.underlying29 Try.underlying5
  have k2 := Joins.run_convert_bytes_const_at (P := Try.prog) (W1.alloc (.cells #[.int .u8 97] 5 (1, 2))) 29 5 #[.int .u8 98] 1 1 (W1.heap.size + 1) (by simp) Try.underlying29 Try.underlying5
  go_upto_region 6 with fail
  clear kc k2
  generalize hN : W1.heap.size = N at *
  generalize (((((W1.alloc obA).alloc obB).alloc (obR N)).alloc (obR N)).alloc (obE N)) = W at *
  clear hN
  have z : W.frozen? ⟨N + 1 + 1 + 1, 1, none⟩ = false := HBS.out.row.free 1
  have p : W.cell? ⟨N + 1 + 1 + 1, 1, none⟩ = some (.int .i64 1) := HBS.out.row.cell 1
  have pe : W.cell? ⟨N + 1 + 1 + 1 + 1, 0, none⟩ = some (.slice (some ⟨N + 1 + 1 + 1, 0, none⟩) 1 1) := HBS.out.edit.cell 0
  have q0 : ¬ N = N + 1 + 1 + 1 := by omega
  have q1 : ¬ N + 1 = N + 1 + 1 + 1 := by omega
  have q2 : ¬ N + 1 + 1 + 1 + 1 = N + 1 + 1 + 1 := by omega
  have hkp : Keep (· = N + 1 + 1 + 1) W (W.setCell ⟨N + 1 + 1 + 1, 1, none⟩ (.int .i64 (16777216 + more))) := (Keep.refl (· = N + 1 + 1 + 1) W).setCell (p := ⟨N + 1 + 1 + 1, 1, none⟩) (.inr rfl) _
  have HBX : Hid (Box (W.setCell ⟨N + 1 + 1 + 1, 1, none⟩ (.int .i64 (16777216 + more))) (N + 1 + 1 + 1 + 1) 26 (X.cells ⟨some ⟨N + 1 + 1 + 1, 0, none⟩, 1, [dI N 1 (16777216 + more)], none, 0, [], 0, 0, 0⟩)) := Lib.hid (HBS.out.edit.keep hkp q2)
  have hkeys := HBS.out.keys.keep hkp q0 q1
  have hrow : Box (W.setCell ⟨N + 1 + 1 + 1, 1, none⟩ (.int .i64 (16777216 + more))) (N + 1 + 1 + 1) 41 (dI N 1 (16777216 + more)).cells := HBS.out.row.set 1 _
  have HX : Hid (X.Ok (W.setCell ⟨N + 1 + 1 + 1, 1, none⟩ (.int .i64 (16777216 + more))) (W.setCell ⟨N + 1 + 1 + 1, 1, none⟩ (.int .i64 (16777216 + more))).heap.size ⟨some ⟨N + 1 + 1 + 1, 0, none⟩, 1, [dI N 1 (16777216 + more)], none, 0, [], 0, 0, 0⟩) := Lib.hid (one_ok hrow (dI_ok hkeys (WalkArith.wf_i64 (by omega)) (WalkArith.wf_i64 (by omega))).low (.inl rfl) (Nat.le_refl _) (by decide) (fun _ h => by cases h) (by decide) (by decide) (by decide))
  have HBE := Lib.hid (HBS.out.be.setCell (p := ⟨N + 1 + 1 + 1, 1, none⟩) (by have := HBS.out.ge; show w.heap.size ≤ N + 1 + 1 + 1; omega) (.int .i64 (16777216 + more)))
  have HRI := Lib.hid (right3 N more h1 h2)
  clear hkp hkeys hrow q0 q1 q2 HBS
  go_upto_region 33 with fail
  clear p z pe
  generalize W.setCell ⟨N + 1 + 1 + 1, 1, none⟩ (.int .i64 (16777216 + more)) = V at *
  obtain ⟨k0, k1, k2, k3, k4⟩ := box_look HBX.out
  have HR := Lib.hid (oright_any ⟨some ⟨N + 1 + 1 + 1, 0, none⟩, 1, [dI N 1 (16777216 + more)], none, 0, [], 0, 0, 0⟩ V.heap.size V HX.out (Nat.le_refl _))
  by_cases hm : more ≤ 0
  · have dm : decide (more ≤ 0) = true := decide_eq_true hm
    have HRT := HRI.out
    rw [dm] at HRT
    rw [HRT] at HR
    have HRR := Lib.hid HRT
    clear HRT hm
    go_wp2_with fail
    refine HR.out.mono ?_
    rintro e V2 ⟨rfl, hb2⟩
    have HB2 := Lib.hid (HBE.out.trans (hb2.mono HBE.out.size))
    have HBY := Lib.hid (obytes_any ⟨some ⟨N + 1 + 1 + 1, 0, none⟩, 1, [dI N 1 (16777216 + more)], none, 0, [], 0, 0, 0⟩ V2.heap.size V2 (HX.out.next hb2) (Nat.le_refl _))
    rw [bytesE_yes HRR.out] at HBY
    have hpos := encE_pos (X.e ⟨some ⟨N + 1 + 1 + 1, 0, none⟩, 1, [dI N 1 (16777216 + more)], none, 0, [], 0, 0, 0⟩)
    generalize encE (X.e ⟨some ⟨N + 1 + 1 + 1, 0, none⟩, 1, [dI N 1 (16777216 + more)], none, 0, [], 0, 0, 0⟩) = P at *
    clear k0 k1 k2 k3 k4
    obtain ⟨k0, k1, k2, k3, k4⟩ := box_look (HBX.out.below hb2 HBX.out.lt)
    clear hb2 HR
    have dp : decide ((0 : Int) < (P.length : Int)) = true := decide_eq_true (by omega)
    have dp2 : decide (0 < P.length) = true := decide_eq_true (by omega)
    go_wp2_with fail
    refine HBY.out.mono ?_
    intro e V3 hm
    obtain ⟨A3, c3, rfl, -, -, -, hb3⟩ := hm.parts
    have HB3 := Lib.hid (HB2.out.trans (hb3.mono HB2.out.size))
    clear hm hb3 HBY
    go_wp2_with fail
    go_ret
    exact ⟨rfl, HB3.out⟩
  · have dm : decide (more ≤ 0) = false := decide_eq_false hm
    have HRT := HRI.out
    rw [dm] at HRT
    rw [HRT] at HR
    have HRR := Lib.hid HRT
    clear HRT hm
    go_wp2_with fail
    refine HR.out.mono ?_
    rintro e V2 ⟨rfl, hb2⟩
    have HB2 := Lib.hid (HBE.out.trans (hb2.mono HBE.out.size))
    have HBY := Lib.hid (obytes_any ⟨some ⟨N + 1 + 1 + 1, 0, none⟩, 1, [dI N 1 (16777216 + more)], none, 0, [], 0, 0, 0⟩ V2.heap.size V2 (HX.out.next hb2) (Nat.le_refl _))
    rw [bytesE_no HRR.out] at HBY
    clear k0 k1 k2 k3 k4
    obtain ⟨k0, k1, k2, k3, k4⟩ := box_look (HBX.out.below hb2 HBX.out.lt)
    clear hb2 HR
    go_wp2_with fail
    refine HBY.out.mono ?_
    intro e V3 hm
    obtain ⟨A3, c3, rfl, -, -, -, hb3⟩ := hm.parts
    have HB3 := Lib.hid (HB2.out.trans (hb3.mono HB2.out.size))
    clear hm hb3 HBY
    go_wp2_with fail
    go_ret
    exact ⟨rfl, HB3.out⟩

theorem right4 (N M n : Nat) (A3 : Option Addr) (c3 : Nat) (more : Int) (h1 : -1 ≤ more) (h2 : more ≤ 1) (hn : 256 + more = (n : Int)) : right (X.e ⟨some ⟨N + 1 + 1 + 1, 0, none⟩, 1, [dK M n A3 c3], none, 0, [], 0, 0, 0⟩) = decide (more ≤ 0) := by
  show right ⟨[⟨1, 1, 1, List.replicate n 0, [255], 1⟩], [], 0, 0, 0⟩ = decide (more ≤ 0)
  have hc : more = -1 ∧ n = 255 ∨ more = 0 ∧ n = 256 ∨ more = 1 ∧ n = 257 := by omega
  rcases hc with ⟨rfl, rfl⟩ | ⟨rfl, rfl⟩ | ⟨rfl, rfl⟩ <;> decide +kernel
set_option maxRecDepth 100000 in
set_option maxHeartbeats 6400000 in
theorem walk4 (more : Int) (w : World) (h1 : -1 ≤ more) (h2 : more ≤ 1) : Calls Try.prog 6 #[.int .i64 4, .int .i64 more] w (Yes w) := by
  have d1 : decide (more < -1) = false := decide_eq_false (by omega)
  have d2 : decide (1 < more) = false := decide_eq_false (by omega)
  go_enter Try.func6, Try.ntmps6
  go_wp2_with fail
  refine (alive_any _).mono ?_
  rintro e W1 ⟨rfl, hb1⟩
  have HBS := Lib.hid (base_mk hb1)
  clear hb1
  have kc := fun (W : World) (C : Array Value) (n c : Nat) => Lib.run_convert_bytes_const (P := Try.prog) W 29 5 C n c Try.underlying29 Try.underlying5
  have k2 := Joins.run_convert_bytes_const_at (P := Try.prog) (W1.alloc (.cells #[.int .u8 97] 5 (1, 2))) 29 5 #[.int .u8 98] 1 1 (W1.heap.size + 1) (by simp) Try.underlying29 Try.underlying5
  go_upto_region 6 with fail
  clear kc k2
  generalize hN : W1.heap.size = N at *
  generalize (((((W1.alloc obA).alloc obB).alloc (obR N)).alloc (obR N)).alloc (obE N)) = W at *
  clear hN
  obtain ⟨n, hn⟩ : ∃ n : Nat, 256 + more = (n : Int) := ⟨(256 + more).toNat, by omega⟩
  have HN := Lib.hid hn
  have hmk : ∀ W : World, Sem.run Try.prog (Instr.makeSlice 29 (.int .i64 (256 + more)) (.int .i64 (256 + more))) W = .ok (.slice (some ⟨W.heap.size, 0, none⟩) n n) (W.alloc (.cells (zeros n) 5)) := fun W => by
    rw [hn]; exact make_zeros n (by omega) W
  have HNN := Lib.hid (show n ≤ 1000 by omega)
  have hwr : IntKind.i64.wrap (256 + more) = 256 + more := IntWalk.i64_in _ (by omega)
  clear hn
  go_upto_region 25 with fail
  have HEC : W.drew.cell? ⟨N + 1 + 1 + 1 + 1, 0, none⟩ = some (.slice (some ⟨N + 1 + 1 + 1, 0, none⟩) 1 1) := HBS.out.edit.cell 0
  have HBA := Lib.hid (HBS.out.edit.alloc (.cells (zeros n) 5))
  have HRA := Lib.hid (HBS.out.row.alloc (.cells (zeros n) 5))
  have HSZ0 := Lib.hid HBS.out.size
  refine wp_region_held_drew (S := fun w' => Hid (w'.cell? ⟨N + 1 + 1 + 1 + 1, 0, none⟩ = some (.slice (some ⟨N + 1 + 1 + 1, 0, none⟩) 1 1))) (by kernel_rfl) (Lib.hid HEC) (fun hS => ?_)
  refine wpAnyH_take (i := 0) (v := ?_) rfl (by kernel_rfl) (by kernel_rfl) (by kernel_rfl) (fun _ _ _ h => h) (Or.inl ⟨by rfl, ?_⟩) hS ?_
  rotate_left
  · intro wi hw
    go_simp
    try with_reducible rfl
  try simp only [Act.put, List.getElem_toArray, List.getElem_cons_succ, List.getElem_cons_zero, List.setIfInBounds_toArray, List.set_cons_zero, List.set_cons_succ]
  refine wpAnyH_take (i := 1) (v := ?_) rfl (by kernel_rfl) (by kernel_rfl) (by kernel_rfl) (fun _ _ _ h => h) (Or.inl ⟨by rfl, ?_⟩) hS ?_
  rotate_left
  · intro wi hw
    have q := hw.out
    go_simp
    try with_reducible rfl
  try simp only [Act.put, List.getElem_toArray, List.getElem_cons_succ, List.getElem_cons_zero, List.setIfInBounds_toArray, List.set_cons_zero, List.set_cons_succ]
  refine wpAnyH_take (i := 2) (v := ?_) rfl (by kernel_rfl) (by kernel_rfl) (by kernel_rfl) (fun _ _ _ h => h) (Or.inl ⟨by rfl, ?_⟩) hS ?_
  rotate_left
  · intro wi hw
    go_simp
    try with_reducible rfl
  try simp only [Act.put, List.getElem_toArray, List.getElem_cons_succ, List.getElem_cons_zero, List.setIfInBounds_toArray, List.set_cons_zero, List.set_cons_succ]
  refine wpAnyH_take (i := 3) (v := ?_) rfl (by kernel_rfl) (by kernel_rfl) (by kernel_rfl) (fun _ _ _ h => h) (Or.inl ⟨by rfl, ?_⟩) hS ?_
  rotate_left
  · intro wi hw
    go_simp
    try with_reducible rfl
  try simp only [Act.put, List.getElem_toArray, List.getElem_cons_succ, List.getElem_cons_zero, List.setIfInBounds_toArray, List.set_cons_zero, List.set_cons_succ]
  refine wpAnyH_ready (rs := [4]) (by kernel_rfl) (by simp) ?_
  refine (AllReadyH.cons rfl (fun K hK => ?_) AllReadyH.nil)
  go_simp
  have hca : (W.alloc (.cells (zeros n) 5)).drew.cell? ⟨N + 1 + 1 + 1 + 1, 0, none⟩ = some (.slice (some ⟨N + 1 + 1 + 1, 0, none⟩) 1 1) := HBA.out.cell 0
  refine hK.out _ _ (Lib.hid hca) (fun hS => ?_)
  clear hK K
  try simp only [Act.put, List.getElem_toArray, List.getElem_cons_succ, List.getElem_cons_zero, List.setIfInBounds_toArray, List.set_cons_zero, List.set_cons_succ]
  refine wpAnyH_take (i := 5) (v := ?_) rfl (by kernel_rfl) (by kernel_rfl) (by kernel_rfl) (fun _ _ _ h => h) (Or.inl ⟨by rfl, ?_⟩) hS ?_
  rotate_left
  · intro wi hw
    go_simp
    try with_reducible rfl
  try simp only [Act.put, List.getElem_toArray, List.getElem_cons_succ, List.getElem_cons_zero, List.setIfInBounds_toArray, List.set_cons_zero, List.set_cons_succ]
  refine wpAnyH_take (i := 6) (v := ?_) rfl (by kernel_rfl) (by kernel_rfl) (by kernel_rfl) (fun _ _ _ h => h) (Or.inl ⟨by rfl, ?_⟩) hS ?_
  rotate_left
  · intro wi hw
    go_simp
    try with_reducible rfl
  try simp only [Act.put, List.getElem_toArray, List.getElem_cons_succ, List.getElem_cons_zero, List.setIfInBounds_toArray, List.set_cons_zero, List.set_cons_succ]
  have p3 : (W.alloc (.cells (zeros n) 5)).cell? ⟨N + 1 + 1 + 1, 3, none⟩ = some (.slice (some ⟨N, 0, none⟩) 1 1) := HRA.out.cell 3
  have z3 : (W.alloc (.cells (zeros n) 5)).frozen? ⟨N + 1 + 1 + 1, 3, none⟩ = false := HRA.out.free 3
  have HMID : Hid (Mid w ((W.alloc (.cells (zeros n) 5)).setCell ⟨N + 1 + 1 + 1, 3, none⟩ (.slice (some ⟨W.heap.size, 0, none⟩) n n)).drew N W.heap.size n) := Lib.hid (by
    have hk2 : Keep (· = N + 1 + 1 + 1) (W.alloc (.cells (zeros n) 5)) ((W.alloc (.cells (zeros n) 5)).setCell ⟨N + 1 + 1 + 1, 3, none⟩ (.slice (some ⟨W.heap.size, 0, none⟩) n n)).drew := ((Keep.refl (· = N + 1 + 1 + 1) _).setCell (p := ⟨N + 1 + 1 + 1, 3, none⟩) (.inr rfl) _).drew
    have hz : (W.alloc (.cells (zeros n) 5)).heap[W.heap.size]? = some (.cells (zeros n) 5 (0, 0)) := heap_alloc_new W _
    have hs0 := HSZ0.out
    exact ⟨HBA.out.keep hk2 (by omega), HRA.out.set 3 _, (hk2.block _ (by simp) (by omega)).trans hz, ((HBS.out.be.alloc HBS.out.be.size _).setCell (by have := HBS.out.ge; show w.heap.size ≤ N + 1 + 1 + 1; omega) _).drew, by omega, HBS.out.ge⟩)
  refine wpAnyH_ready (rs := [7]) (by kernel_rfl) (by simp) ?_
  refine (AllReadyH.cons rfl (fun K hK => ?_) AllReadyH.nil)
  go_simp
  refine hK.out _ _ (Lib.hid (HMID.out.edit.cell 0)) (fun hS => ?_)
  clear hK K p3 z3 hca
  try simp only [Act.put, List.getElem_toArray, List.getElem_cons_succ, List.getElem_cons_zero, List.setIfInBounds_toArray, List.set_cons_zero, List.set_cons_succ]
  refine wpAnyH_done (by kernel_rfl) ?_ _
  clear hS HEC HBA HRA hmk HBS
  generalize ((W.alloc (.cells (zeros n) 5)).setCell ⟨N + 1 + 1 + 1, 3, none⟩ (.slice (some ⟨W.heap.size, 0, none⟩) n n)).drew = V at *
  generalize W.heap.size = M at *
  clear HSZ0
  go_upto_region 26 with fail
  have HEC : V.drew.cell? ⟨N + 1 + 1 + 1 + 1, 0, none⟩ = some (.slice (some ⟨N + 1 + 1 + 1, 0, none⟩) 1 1) := HMID.out.edit.cell 0
  have hmr := make_room
  refine wp_region_held_drew (S := fun w' => Hid (w'.cell? ⟨N + 1 + 1 + 1 + 1, 0, none⟩ = some (.slice (some ⟨N + 1 + 1 + 1, 0, none⟩) 1 1))) (by kernel_rfl) (Lib.hid HEC) (fun hS => ?_)
  refine wpAnyH_take (i := 0) (v := ?_) rfl (by kernel_rfl) (by kernel_rfl) (by kernel_rfl) (fun _ _ _ h => h) (Or.inl ⟨by rfl, ?_⟩) hS ?_
  rotate_left
  · intro wi hw
    go_simp
    try with_reducible rfl
  try simp only [Act.put, List.getElem_toArray, List.getElem_cons_succ, List.getElem_cons_zero, List.setIfInBounds_toArray, List.set_cons_zero, List.set_cons_succ]
  refine wpAnyH_take (i := 1) (v := ?_) rfl (by kernel_rfl) (by kernel_rfl) (by kernel_rfl) (fun _ _ _ h => h) (Or.inl ⟨by rfl, ?_⟩) hS ?_
  rotate_left
  · intro wi hw
    have q := hw.out
    go_simp
    try with_reducible rfl
  try simp only [Act.put, List.getElem_toArray, List.getElem_cons_succ, List.getElem_cons_zero, List.setIfInBounds_toArray, List.set_cons_zero, List.set_cons_succ]
  refine wpAnyH_ready (rs := [2, 3]) (by kernel_rfl) (by simp) ?_
  refine (AllReadyH.cons rfl (fun K hK => ?_) (AllReadyH.cons rfl (fun K hK => ?_) AllReadyH.nil))
  · skip
    go_simp
    have hca : (V.alloc (.cells (zeros 4) 5)).drew.cell? ⟨N + 1 + 1 + 1 + 1, 0, none⟩ = some (.slice (some ⟨N + 1 + 1 + 1, 0, none⟩) 1 1) := (HMID.out.edit.alloc (.cells (zeros 4) 5)).cell 0
    refine hK.out _ _ (Lib.hid hca) (fun hS => ?_)
    clear hK K
    try simp only [Act.put, List.getElem_toArray, List.getElem_cons_succ, List.getElem_cons_zero, List.setIfInBounds_toArray, List.set_cons_zero, List.set_cons_succ]
    refine wpAnyH_ready (rs := [3]) (by kernel_rfl) (by simp) ?_
    refine (AllReadyH.cons rfl (fun K hK => ?_) AllReadyH.nil)
    go_simp
    have hcb : ((V.alloc (.cells (zeros 4) 5)).alloc (.cells #[.int .u8 255] 5)).drew.cell? ⟨N + 1 + 1 + 1 + 1, 0, none⟩ = some (.slice (some ⟨N + 1 + 1 + 1, 0, none⟩) 1 1) := ((HMID.out.edit.alloc (.cells (zeros 4) 5)).alloc (.cells #[.int .u8 255] 5)).cell 0
    refine hK.out _ _ (Lib.hid hcb) (fun hS => ?_)
    clear hK K hca hcb
    try simp only [Act.put, List.getElem_toArray, List.getElem_cons_succ, List.getElem_cons_zero, List.setIfInBounds_toArray, List.set_cons_zero, List.set_cons_succ]
    obtain ⟨W2, hW2⟩ : ∃ W2, W2 = ((V.alloc (.cells (zeros 4) 5)).alloc (.cells #[.int .u8 255] 5)).drew := ⟨_, rfl⟩
    have HM2 : Hid (Mid w W2 N M n) := Lib.hid (by rw [hW2]; have h := (HMID.out.alloc (.cells (zeros 4) 5)).alloc (.cells #[.int .u8 255] 5); exact ⟨h.edit, h.row, h.zer, h.be.drew, h.lo, h.ge⟩)
    have hvs : M < V.heap.size := (Array.getElem?_eq_some_iff.1 HMID.out.zer).1
    have hlo := HMID.out.lo
    have hs2 : W2.heap.size = V.heap.size + 2 := by rw [hW2]; simp
    have n1 : W2.heap[V.heap.size]? = some (.cells (zeros 4) 5) := by rw [hW2]; exact (Below.heap_alloc (V.alloc (.cells (zeros 4) 5)) (.cells #[.int .u8 255] 5) V.heap.size (by simp)).trans (heap_alloc_new V _)
    have n2 : W2.heap[V.heap.size + 1]? = some (.cells #[.int .u8 255] 5) := by rw [hW2]; have := heap_alloc_new (V.alloc (.cells (zeros 4) 5)) (.cells #[.int .u8 255] 5); rw [show (V.alloc (.cells (zeros 4) 5)).heap.size = V.heap.size + 1 by simp] at this; exact this
    have HG : Hid (W2.heap[V.heap.size]? = some (.cells (zeros 4) 5)) := Lib.hid n1
    have HH : Hid (W2.heap[V.heap.size + 1]? = some (.cells #[.int .u8 255] 5)) := Lib.hid n2
    have HGE : Hid (N + 5 ≤ V.heap.size) := Lib.hid (by omega)
    have HHL : Hid (V.heap.size + 1 < W2.heap.size) := Lib.hid (by omega)
    have HSZ : Hid (N + 5 ≤ W2.heap.size) := Lib.hid (by omega)
    have HGM : Hid (¬ (Value.slice (some ⟨V.heap.size, 0, none⟩) 0 4).ownBlock = some M) := Lib.hid (fun h => by simp [Value.ownBlock] at h; omega)
    have he2 : Hid (W2.cell? ⟨N + 1 + 1 + 1 + 1, 0, none⟩ = some (.slice (some ⟨N + 1 + 1 + 1, 0, none⟩) 1 1)) := Lib.hid (HM2.out.edit.cell 0)
    rw [← hW2]
    clear n1 n2 hs2 hlo hvs hW2
    obtain ⟨v', W3, hrun, hown3, hon3⟩ := append_bytes (xs := []) (ts := [255]) (c := 1) (own_room (B := N + 5) HGE.out HG.out) ((lies_one (R := (· < W2.heap.size)) HH.out HHL.out).lies fun _ h => h) (by decide) HSZ.out
    obtain ⟨A3, c3, hv3, -, -, -⟩ := own_parts hown3
    have HF := Lib.hid (HM2.out.four (own_room (B := N + 5) HGE.out HG.out) hon3 hv3 (Nat.le_refl _) HGM.out HSZ.out (by rw [hv3] at hown3; exact hown3))
    have hlt := fun k hk => ((own_room (B := N + 5) HGE.out HG.out).lt k hk).1
    have c0 : W3.cell? ⟨N + 1 + 1 + 1 + 1, 0, none⟩ = some (.slice (some ⟨N + 1 + 1 + 1, 0, none⟩) 1 1) := (HM2.out.edit.keep hon3.keep (fun hs => by have := hlt _ hs; omega)).cell 0
    have r3 := HM2.out.row.keep hon3.keep (fun hs => by have := hlt _ hs; omega)
    have p4 := r3.cell 4
    have z4 := r3.free 4
    simp only [List.getElem?_cons_succ, List.getElem?_cons_zero] at p4
    subst hv3
    have HRUN := Lib.hid hrun
    have HC0 := Lib.hid c0
    clear hrun hown3 hon3 c0 r3 hlt
    refine wpAnyH_ready (rs := [4]) (by kernel_rfl) (by simp) ?_
    refine (AllReadyH.cons rfl (fun K hK => ?_) AllReadyH.nil)
    refine held_append rfl _ _ 29 rfl rfl rfl HRUN.out ?_
    refine hK.out _ _ HC0 (fun hS => ?_)
    clear hK K
    try simp only [Act.put, List.getElem_toArray, List.getElem_cons_succ, List.getElem_cons_zero, List.setIfInBounds_toArray, List.set_cons_zero, List.set_cons_succ]
    refine wpAnyH_take (i := 5) (v := ?_) rfl (by kernel_rfl) (by kernel_rfl) (by kernel_rfl) (fun _ _ _ h => h) (Or.inl ⟨by rfl, ?_⟩) hS ?_
    rotate_left
    · intro wi hw
      go_simp
      try with_reducible rfl
    try simp only [Act.put, List.getElem_toArray, List.getElem_cons_succ, List.getElem_cons_zero, List.setIfInBounds_toArray, List.set_cons_zero, List.set_cons_succ]
    refine wpAnyH_take (i := 6) (v := ?_) rfl (by kernel_rfl) (by kernel_rfl) (by kernel_rfl) (fun _ _ _ h => h) (Or.inl ⟨by rfl, ?_⟩) hS ?_
    rotate_left
    · intro wi hw
      go_simp
      try with_reducible rfl
    try simp only [Act.put, List.getElem_toArray, List.getElem_cons_succ, List.getElem_cons_zero, List.setIfInBounds_toArray, List.set_cons_zero, List.set_cons_succ]
    refine wpAnyH_ready (rs := [7]) (by kernel_rfl) (by simp) ?_
    refine (AllReadyH.cons rfl (fun K hK => ?_) AllReadyH.nil)
    go_simp
    refine hK.out _ _ (Lib.hid (HF.out.edit.cell 0)) (fun hS => ?_)
    clear hK K p4 z4
    try simp only [Act.put, List.getElem_toArray, List.getElem_cons_succ, List.getElem_cons_zero, List.setIfInBounds_toArray, List.set_cons_zero, List.set_cons_succ]
    refine wpAnyH_done (by kernel_rfl) ?_ _
    have HX := Lib.hid (HF.out.ok HNN.out)
    have HBX : Hid (Box (W3.setCell ⟨N + 1 + 1 + 1, 4, none⟩ (.slice A3 1 c3)) (N + 1 + 1 + 1 + 1) 26 (X.cells ⟨some ⟨N + 1 + 1 + 1, 0, none⟩, 1, [dK M n A3 c3], none, 0, [], 0, 0, 0⟩)) := Lib.hid HF.out.edit
    have HBE := Lib.hid HF.out.be
    have HRI := Lib.hid (right4 N M n A3 c3 more h1 h2 HN.out)
    clear HF HMID hS HC0 HRUN
    generalize W3.setCell ⟨N + 1 + 1 + 1, 4, none⟩ (.slice A3 1 c3) = V4 at *
    go_upto_region 33 with fail
    obtain ⟨k0, k1, k2, k3, k4⟩ := box_look HBX.out
    have HR := Lib.hid (oright_any ⟨some ⟨N + 1 + 1 + 1, 0, none⟩, 1, [dK M n A3 c3], none, 0, [], 0, 0, 0⟩ V4.heap.size V4 HX.out (Nat.le_refl _))
    by_cases hm : more ≤ 0
    · have dm : decide (more ≤ 0) = true := decide_eq_true hm
      have HRT := HRI.out
      rw [dm] at HRT
      rw [HRT] at HR
      have HRR := Lib.hid HRT
      clear HRT hm
      go_wp2_with fail
      refine HR.out.mono ?_
      rintro e V2 ⟨rfl, hb2⟩
      have HB2 := Lib.hid (HBE.out.trans (hb2.mono HBE.out.size))
      have HBY := Lib.hid (obytes_any ⟨some ⟨N + 1 + 1 + 1, 0, none⟩, 1, [dK M n A3 c3], none, 0, [], 0, 0, 0⟩ V2.heap.size V2 (HX.out.next hb2) (Nat.le_refl _))
      rw [bytesE_yes HRR.out] at HBY
      have hpos := encE_pos (X.e ⟨some ⟨N + 1 + 1 + 1, 0, none⟩, 1, [dK M n A3 c3], none, 0, [], 0, 0, 0⟩)
      generalize encE (X.e ⟨some ⟨N + 1 + 1 + 1, 0, none⟩, 1, [dK M n A3 c3], none, 0, [], 0, 0, 0⟩) = P at *
      clear k0 k1 k2 k3 k4
      obtain ⟨k0, k1, k2, k3, k4⟩ := box_look (HBX.out.below hb2 HBX.out.lt)
      clear hb2 HR
      have dp : decide ((0 : Int) < (P.length : Int)) = true := decide_eq_true (by omega)
      have dp2 : decide (0 < P.length) = true := decide_eq_true (by omega)
      go_wp2_with fail
      refine HBY.out.mono ?_
      intro e V3 hm
      obtain ⟨A3, c3, rfl, -, -, -, hb3⟩ := hm.parts
      have HB3 := Lib.hid (HB2.out.trans (hb3.mono HB2.out.size))
      clear hm hb3 HBY
      go_wp2_with fail
      go_ret
      exact ⟨rfl, HB3.out⟩
    · have dm : decide (more ≤ 0) = false := decide_eq_false hm
      have HRT := HRI.out
      rw [dm] at HRT
      rw [HRT] at HR
      have HRR := Lib.hid HRT
      clear HRT hm
      go_wp2_with fail
      refine HR.out.mono ?_
      rintro e V2 ⟨rfl, hb2⟩
      have HB2 := Lib.hid (HBE.out.trans (hb2.mono HBE.out.size))
      have HBY := Lib.hid (obytes_any ⟨some ⟨N + 1 + 1 + 1, 0, none⟩, 1, [dK M n A3 c3], none, 0, [], 0, 0, 0⟩ V2.heap.size V2 (HX.out.next hb2) (Nat.le_refl _))
      rw [bytesE_no HRR.out] at HBY
      clear k0 k1 k2 k3 k4
      obtain ⟨k0, k1, k2, k3, k4⟩ := box_look (HBX.out.below hb2 HBX.out.lt)
      clear hb2 HR
      go_wp2_with fail
      refine HBY.out.mono ?_
      intro e V3 hm
      obtain ⟨A3, c3, rfl, -, -, -, hb3⟩ := hm.parts
      have HB3 := Lib.hid (HB2.out.trans (hb3.mono HB2.out.size))
      clear hm hb3 HBY
      go_wp2_with fail
      go_ret
      exact ⟨rfl, HB3.out⟩
  · skip
    go_simp
    have hca : (V.alloc (.cells #[.int .u8 255] 5)).drew.cell? ⟨N + 1 + 1 + 1 + 1, 0, none⟩ = some (.slice (some ⟨N + 1 + 1 + 1, 0, none⟩) 1 1) := (HMID.out.edit.alloc (.cells #[.int .u8 255] 5)).cell 0
    refine hK.out _ _ (Lib.hid hca) (fun hS => ?_)
    clear hK K
    try simp only [Act.put, List.getElem_toArray, List.getElem_cons_succ, List.getElem_cons_zero, List.setIfInBounds_toArray, List.set_cons_zero, List.set_cons_succ]
    refine wpAnyH_ready (rs := [2]) (by kernel_rfl) (by simp) ?_
    refine (AllReadyH.cons rfl (fun K hK => ?_) AllReadyH.nil)
    go_simp
    have hcb : ((V.alloc (.cells #[.int .u8 255] 5)).alloc (.cells (zeros 4) 5)).drew.cell? ⟨N + 1 + 1 + 1 + 1, 0, none⟩ = some (.slice (some ⟨N + 1 + 1 + 1, 0, none⟩) 1 1) := ((HMID.out.edit.alloc (.cells #[.int .u8 255] 5)).alloc (.cells (zeros 4) 5)).cell 0
    refine hK.out _ _ (Lib.hid hcb) (fun hS => ?_)
    clear hK K hca hcb
    try simp only [Act.put, List.getElem_toArray, List.getElem_cons_succ, List.getElem_cons_zero, List.setIfInBounds_toArray, List.set_cons_zero, List.set_cons_succ]
    obtain ⟨W2, hW2⟩ : ∃ W2, W2 = ((V.alloc (.cells #[.int .u8 255] 5)).alloc (.cells (zeros 4) 5)).drew := ⟨_, rfl⟩
    have HM2 : Hid (Mid w W2 N M n) := Lib.hid (by rw [hW2]; have h := (HMID.out.alloc (.cells #[.int .u8 255] 5)).alloc (.cells (zeros 4) 5); exact ⟨h.edit, h.row, h.zer, h.be.drew, h.lo, h.ge⟩)
    have hvs : M < V.heap.size := (Array.getElem?_eq_some_iff.1 HMID.out.zer).1
    have hlo := HMID.out.lo
    have hs2 : W2.heap.size = V.heap.size + 2 := by rw [hW2]; simp
    have n1 : W2.heap[V.heap.size]? = some (.cells #[.int .u8 255] 5) := by rw [hW2]; exact (Below.heap_alloc (V.alloc (.cells #[.int .u8 255] 5)) (.cells (zeros 4) 5) V.heap.size (by simp)).trans (heap_alloc_new V _)
    have n2 : W2.heap[V.heap.size + 1]? = some (.cells (zeros 4) 5) := by rw [hW2]; have := heap_alloc_new (V.alloc (.cells #[.int .u8 255] 5)) (.cells (zeros 4) 5); rw [show (V.alloc (.cells #[.int .u8 255] 5)).heap.size = V.heap.size + 1 by simp] at this; exact this
    have HG : Hid (W2.heap[V.heap.size + 1]? = some (.cells (zeros 4) 5)) := Lib.hid n2
    have HH : Hid (W2.heap[V.heap.size]? = some (.cells #[.int .u8 255] 5)) := Lib.hid n1
    have HGE : Hid (N + 5 ≤ V.heap.size + 1) := Lib.hid (by omega)
    have HHL : Hid (V.heap.size < W2.heap.size) := Lib.hid (by omega)
    have HSZ : Hid (N + 5 ≤ W2.heap.size) := Lib.hid (by omega)
    have HGM : Hid (¬ (Value.slice (some ⟨V.heap.size + 1, 0, none⟩) 0 4).ownBlock = some M) := Lib.hid (fun h => by simp [Value.ownBlock] at h; omega)
    have he2 : Hid (W2.cell? ⟨N + 1 + 1 + 1 + 1, 0, none⟩ = some (.slice (some ⟨N + 1 + 1 + 1, 0, none⟩) 1 1)) := Lib.hid (HM2.out.edit.cell 0)
    rw [← hW2]
    clear n1 n2 hs2 hlo hvs hW2
    obtain ⟨v', W3, hrun, hown3, hon3⟩ := append_bytes (xs := []) (ts := [255]) (c := 1) (own_room (B := N + 5) HGE.out HG.out) ((lies_one (R := (· < W2.heap.size)) HH.out HHL.out).lies fun _ h => h) (by decide) HSZ.out
    obtain ⟨A3, c3, hv3, -, -, -⟩ := own_parts hown3
    have HF := Lib.hid (HM2.out.four (own_room (B := N + 5) HGE.out HG.out) hon3 hv3 (Nat.le_refl _) HGM.out HSZ.out (by rw [hv3] at hown3; exact hown3))
    have hlt := fun k hk => ((own_room (B := N + 5) HGE.out HG.out).lt k hk).1
    have c0 : W3.cell? ⟨N + 1 + 1 + 1 + 1, 0, none⟩ = some (.slice (some ⟨N + 1 + 1 + 1, 0, none⟩) 1 1) := (HM2.out.edit.keep hon3.keep (fun hs => by have := hlt _ hs; omega)).cell 0
    have r3 := HM2.out.row.keep hon3.keep (fun hs => by have := hlt _ hs; omega)
    have p4 := r3.cell 4
    have z4 := r3.free 4
    simp only [List.getElem?_cons_succ, List.getElem?_cons_zero] at p4
    subst hv3
    have HRUN := Lib.hid hrun
    have HC0 := Lib.hid c0
    clear hrun hown3 hon3 c0 r3 hlt
    refine wpAnyH_ready (rs := [4]) (by kernel_rfl) (by simp) ?_
    refine (AllReadyH.cons rfl (fun K hK => ?_) AllReadyH.nil)
    refine held_append rfl _ _ 29 rfl rfl rfl HRUN.out ?_
    refine hK.out _ _ HC0 (fun hS => ?_)
    clear hK K
    try simp only [Act.put, List.getElem_toArray, List.getElem_cons_succ, List.getElem_cons_zero, List.setIfInBounds_toArray, List.set_cons_zero, List.set_cons_succ]
    refine wpAnyH_take (i := 5) (v := ?_) rfl (by kernel_rfl) (by kernel_rfl) (by kernel_rfl) (fun _ _ _ h => h) (Or.inl ⟨by rfl, ?_⟩) hS ?_
    rotate_left
    · intro wi hw
      go_simp
      try with_reducible rfl
    try simp only [Act.put, List.getElem_toArray, List.getElem_cons_succ, List.getElem_cons_zero, List.setIfInBounds_toArray, List.set_cons_zero, List.set_cons_succ]
    refine wpAnyH_take (i := 6) (v := ?_) rfl (by kernel_rfl) (by kernel_rfl) (by kernel_rfl) (fun _ _ _ h => h) (Or.inl ⟨by rfl, ?_⟩) hS ?_
    rotate_left
    · intro wi hw
      go_simp
      try with_reducible rfl
    try simp only [Act.put, List.getElem_toArray, List.getElem_cons_succ, List.getElem_cons_zero, List.setIfInBounds_toArray, List.set_cons_zero, List.set_cons_succ]
    refine wpAnyH_ready (rs := [7]) (by kernel_rfl) (by simp) ?_
    refine (AllReadyH.cons rfl (fun K hK => ?_) AllReadyH.nil)
    go_simp
    refine hK.out _ _ (Lib.hid (HF.out.edit.cell 0)) (fun hS => ?_)
    clear hK K p4 z4
    try simp only [Act.put, List.getElem_toArray, List.getElem_cons_succ, List.getElem_cons_zero, List.setIfInBounds_toArray, List.set_cons_zero, List.set_cons_succ]
    refine wpAnyH_done (by kernel_rfl) ?_ _
    have HX := Lib.hid (HF.out.ok HNN.out)
    have HBX : Hid (Box (W3.setCell ⟨N + 1 + 1 + 1, 4, none⟩ (.slice A3 1 c3)) (N + 1 + 1 + 1 + 1) 26 (X.cells ⟨some ⟨N + 1 + 1 + 1, 0, none⟩, 1, [dK M n A3 c3], none, 0, [], 0, 0, 0⟩)) := Lib.hid HF.out.edit
    have HBE := Lib.hid HF.out.be
    have HRI := Lib.hid (right4 N M n A3 c3 more h1 h2 HN.out)
    clear HF HMID hS HC0 HRUN
    generalize W3.setCell ⟨N + 1 + 1 + 1, 4, none⟩ (.slice A3 1 c3) = V4 at *
    go_upto_region 33 with fail
    obtain ⟨k0, k1, k2, k3, k4⟩ := box_look HBX.out
    have HR := Lib.hid (oright_any ⟨some ⟨N + 1 + 1 + 1, 0, none⟩, 1, [dK M n A3 c3], none, 0, [], 0, 0, 0⟩ V4.heap.size V4 HX.out (Nat.le_refl _))
    by_cases hm : more ≤ 0
    · have dm : decide (more ≤ 0) = true := decide_eq_true hm
      have HRT := HRI.out
      rw [dm] at HRT
      rw [HRT] at HR
      have HRR := Lib.hid HRT
      clear HRT hm
      go_wp2_with fail
      refine HR.out.mono ?_
      rintro e V2 ⟨rfl, hb2⟩
      have HB2 := Lib.hid (HBE.out.trans (hb2.mono HBE.out.size))
      have HBY := Lib.hid (obytes_any ⟨some ⟨N + 1 + 1 + 1, 0, none⟩, 1, [dK M n A3 c3], none, 0, [], 0, 0, 0⟩ V2.heap.size V2 (HX.out.next hb2) (Nat.le_refl _))
      rw [bytesE_yes HRR.out] at HBY
      have hpos := encE_pos (X.e ⟨some ⟨N + 1 + 1 + 1, 0, none⟩, 1, [dK M n A3 c3], none, 0, [], 0, 0, 0⟩)
      generalize encE (X.e ⟨some ⟨N + 1 + 1 + 1, 0, none⟩, 1, [dK M n A3 c3], none, 0, [], 0, 0, 0⟩) = P at *
      clear k0 k1 k2 k3 k4
      obtain ⟨k0, k1, k2, k3, k4⟩ := box_look (HBX.out.below hb2 HBX.out.lt)
      clear hb2 HR
      have dp : decide ((0 : Int) < (P.length : Int)) = true := decide_eq_true (by omega)
      have dp2 : decide (0 < P.length) = true := decide_eq_true (by omega)
      go_wp2_with fail
      refine HBY.out.mono ?_
      intro e V3 hm
      obtain ⟨A3, c3, rfl, -, -, -, hb3⟩ := hm.parts
      have HB3 := Lib.hid (HB2.out.trans (hb3.mono HB2.out.size))
      clear hm hb3 HBY
      go_wp2_with fail
      go_ret
      exact ⟨rfl, HB3.out⟩
    · have dm : decide (more ≤ 0) = false := decide_eq_false hm
      have HRT := HRI.out
      rw [dm] at HRT
      rw [HRT] at HR
      have HRR := Lib.hid HRT
      clear HRT hm
      go_wp2_with fail
      refine HR.out.mono ?_
      rintro e V2 ⟨rfl, hb2⟩
      have HB2 := Lib.hid (HBE.out.trans (hb2.mono HBE.out.size))
      have HBY := Lib.hid (obytes_any ⟨some ⟨N + 1 + 1 + 1, 0, none⟩, 1, [dK M n A3 c3], none, 0, [], 0, 0, 0⟩ V2.heap.size V2 (HX.out.next hb2) (Nat.le_refl _))
      rw [bytesE_no HRR.out] at HBY
      clear k0 k1 k2 k3 k4
      obtain ⟨k0, k1, k2, k3, k4⟩ := box_look (HBX.out.below hb2 HBX.out.lt)
      clear hb2 HR
      go_wp2_with fail
      refine HBY.out.mono ?_
      intro e V3 hm
      obtain ⟨A3, c3, rfl, -, -, -, hb3⟩ := hm.parts
      have HB3 := Lib.hid (HB2.out.trans (hb3.mono HB2.out.size))
      clear hm hb3 HBY
      go_wp2_with fail
      go_ret
      exact ⟨rfl, HB3.out⟩

theorem set_set (W : World) (g i : Nat) (u v : Value) (T : TypeId) (us : List Value) (h : Box W g T us) : (W.setCell ⟨g, i, none⟩ u).setCell ⟨g, i, none⟩ v = W.setCell ⟨g, i, none⟩ v := by
  have h1 := setCell_eq_setRow W g i us.toArray T (0, 0) u h
  have h2 := setCell_eq_setRow W g i us.toArray T (0, 0) v h
  rw [h1, h2]
  have h3 := setCell_eq_setRow (W.setRow g (us.toArray.setIfInBounds i u)) g i (us.toArray.setIfInBounds i u) T (0, 0) v (setRow_heap W g _ _ _ _ h)
  rw [h3, setRow_setRow]
  congr 1
  apply Array.ext'
  simp
set_option maxRecDepth 100000 in
set_option maxHeartbeats 6400000 in
theorem walk5 (more : Int) (w : World) (h1 : -1 ≤ more) (h2 : more ≤ 1) : Calls Try.prog 6 #[.int .i64 5, .int .i64 more] w (Yes w) := by
  have d1 : decide (more < -1) = false := decide_eq_false (by omega)
  have d2 : decide (1 < more) = false := decide_eq_false (by omega)
  go_enter Try.func6, Try.ntmps6
  go_wp2_with fail
  refine (alive_any _).mono ?_
  rintro e W1 ⟨rfl, hb1⟩
  have HBS := Lib.hid (base_mk hb1)
  clear hb1
  have kc := fun (W : World) (C : Array Value) (n c : Nat) => Lib.run_convert_bytes_const (P := Try.prog) W 29 5 C n c Try.underlying29 Try.underlying5
  have k2 := Joins.run_convert_bytes_const_at (P := Try.prog) (W1.alloc (.cells #[.int .u8 97] 5 (1, 2))) 29 5 #[.int .u8 98] 1 1 (W1.heap.size + 1) (by simp) Try.underlying29 Try.underlying5
  go_upto_region 6 with fail
  clear kc k2
  generalize hN : W1.heap.size = N at *
  generalize (((((W1.alloc obA).alloc obB).alloc (obR N)).alloc (obR N)).alloc (obE N)) = W at *
  clear hN
  by_cases hpos : 0 < more
  · have dpos : decide (0 < more) = true := decide_eq_true hpos
    have h2' : right (X.e ⟨some ⟨N + 1 + 1 + 1, 0, none⟩, 1, [dI N 1 1], none, 0, [], 0, 0, 72057594037927936⟩) = decide (more ≤ 0) := by
      rw [show decide (more ≤ 0) = false from decide_eq_false (by omega)]
      show right ⟨[⟨1, 1, 1, [97], [98], 1⟩], [], 0, 0, 72057594037927936⟩ = false
      decide +kernel
    clear hpos
    have z : W.frozen? ⟨N + 1 + 1 + 1 + 1, 4, none⟩ = false := HBS.out.edit.free 4
    have p : W.cell? ⟨N + 1 + 1 + 1 + 1, 4, none⟩ = (xI N).cells[4]? := HBS.out.edit.cell 4
    have q0 : ¬ N = N + 1 + 1 + 1 + 1 := by omega
    have q1 : ¬ N + 1 = N + 1 + 1 + 1 + 1 := by omega
    have q2 : ¬ N + 1 + 1 + 1 = N + 1 + 1 + 1 + 1 := by omega
    have hkp : Keep (· = N + 1 + 1 + 1 + 1) W (W.setCell ⟨N + 1 + 1 + 1 + 1, 4, none⟩ (.int .u64 72057594037927936)) := (Keep.refl (· = N + 1 + 1 + 1 + 1) W).setCell (p := ⟨N + 1 + 1 + 1 + 1, 4, none⟩) (.inr rfl) _
    have HBX : Hid (Box (W.setCell ⟨N + 1 + 1 + 1 + 1, 4, none⟩ (.int .u64 72057594037927936)) (N + 1 + 1 + 1 + 1) 26 (X.cells ⟨some ⟨N + 1 + 1 + 1, 0, none⟩, 1, [dI N 1 1], none, 0, [], 0, 0, 72057594037927936⟩)) := Lib.hid (HBS.out.edit.set 4 (.int .u64 72057594037927936))
    have hkeys := HBS.out.keys.keep hkp q0 q1
    have hrow := HBS.out.row.keep hkp q2
    have HX : Hid (X.Ok (W.setCell ⟨N + 1 + 1 + 1 + 1, 4, none⟩ (.int .u64 72057594037927936)) (W.setCell ⟨N + 1 + 1 + 1 + 1, 4, none⟩ (.int .u64 72057594037927936)).heap.size ⟨some ⟨N + 1 + 1 + 1, 0, none⟩, 1, [dI N 1 1], none, 0, [], 0, 0, 72057594037927936⟩) := Lib.hid (one_ok hrow (dI_ok hkeys (by decide) (by decide)).low (.inl rfl) (Nat.le_refl _) (by decide) (fun _ h => by cases h) (by decide) (by decide) (by decide))
    have HBE := Lib.hid (HBS.out.be.setCell (p := ⟨N + 1 + 1 + 1 + 1, 4, none⟩) (by have := HBS.out.ge; show w.heap.size ≤ N + 1 + 1 + 1 + 1; omega) (.int .u64 72057594037927936))
    have HRI := Lib.hid h2'
    have hss := set_set W (N + 1 + 1 + 1 + 1) 4 (.int .u64 72057594037927935) (.int .u64 72057594037927936) _ _ HBS.out.edit
    clear hkp hkeys hrow q0 q1 q2 h2'
    go_upto_region 33 with fail
    clear p z
    try rw [hss]
    clear hss HBS
    generalize W.setCell ⟨N + 1 + 1 + 1 + 1, 4, none⟩ (.int .u64 72057594037927936) = V at *
    obtain ⟨k0, k1, k2, k3, k4⟩ := box_look HBX.out
    have HR := Lib.hid (oright_any ⟨some ⟨N + 1 + 1 + 1, 0, none⟩, 1, [dI N 1 1], none, 0, [], 0, 0, 72057594037927936⟩ V.heap.size V HX.out (Nat.le_refl _))
    by_cases hm : more ≤ 0
    · have dm : decide (more ≤ 0) = true := decide_eq_true hm
      have HRT := HRI.out
      rw [dm] at HRT
      rw [HRT] at HR
      have HRR := Lib.hid HRT
      clear HRT hm
      go_wp2_with fail
      refine HR.out.mono ?_
      rintro e V2 ⟨rfl, hb2⟩
      have HB2 := Lib.hid (HBE.out.trans (hb2.mono HBE.out.size))
      have HBY := Lib.hid (obytes_any ⟨some ⟨N + 1 + 1 + 1, 0, none⟩, 1, [dI N 1 1], none, 0, [], 0, 0, 72057594037927936⟩ V2.heap.size V2 (HX.out.next hb2) (Nat.le_refl _))
      rw [bytesE_yes HRR.out] at HBY
      have hpos := encE_pos (X.e ⟨some ⟨N + 1 + 1 + 1, 0, none⟩, 1, [dI N 1 1], none, 0, [], 0, 0, 72057594037927936⟩)
      generalize encE (X.e ⟨some ⟨N + 1 + 1 + 1, 0, none⟩, 1, [dI N 1 1], none, 0, [], 0, 0, 72057594037927936⟩) = P at *
      clear k0 k1 k2 k3 k4
      obtain ⟨k0, k1, k2, k3, k4⟩ := box_look (HBX.out.below hb2 HBX.out.lt)
      clear hb2 HR
      have dp : decide ((0 : Int) < (P.length : Int)) = true := decide_eq_true (by omega)
      have dp2 : decide (0 < P.length) = true := decide_eq_true (by omega)
      go_wp2_with fail
      refine HBY.out.mono ?_
      intro e V3 hm
      obtain ⟨A3, c3, rfl, -, -, -, hb3⟩ := hm.parts
      have HB3 := Lib.hid (HB2.out.trans (hb3.mono HB2.out.size))
      clear hm hb3 HBY
      go_wp2_with fail
      go_ret
      exact ⟨rfl, HB3.out⟩
    · have dm : decide (more ≤ 0) = false := decide_eq_false hm
      have HRT := HRI.out
      rw [dm] at HRT
      rw [HRT] at HR
      have HRR := Lib.hid HRT
      clear HRT hm
      go_wp2_with fail
      refine HR.out.mono ?_
      rintro e V2 ⟨rfl, hb2⟩
      have HB2 := Lib.hid (HBE.out.trans (hb2.mono HBE.out.size))
      have HBY := Lib.hid (obytes_any ⟨some ⟨N + 1 + 1 + 1, 0, none⟩, 1, [dI N 1 1], none, 0, [], 0, 0, 72057594037927936⟩ V2.heap.size V2 (HX.out.next hb2) (Nat.le_refl _))
      rw [bytesE_no HRR.out] at HBY
      clear k0 k1 k2 k3 k4
      obtain ⟨k0, k1, k2, k3, k4⟩ := box_look (HBX.out.below hb2 HBX.out.lt)
      clear hb2 HR
      go_wp2_with fail
      refine HBY.out.mono ?_
      intro e V3 hm
      obtain ⟨A3, c3, rfl, -, -, -, hb3⟩ := hm.parts
      have HB3 := Lib.hid (HB2.out.trans (hb3.mono HB2.out.size))
      clear hm hb3 HBY
      go_wp2_with fail
      go_ret
      exact ⟨rfl, HB3.out⟩
  · have dpos : decide (0 < more) = false := decide_eq_false hpos
    have h2' : right (X.e ⟨some ⟨N + 1 + 1 + 1, 0, none⟩, 1, [dI N 1 1], none, 0, [], 0, 0, 72057594037927935⟩) = decide (more ≤ 0) := by
      rw [show decide (more ≤ 0) = true from decide_eq_true (by omega)]
      show right ⟨[⟨1, 1, 1, [97], [98], 1⟩], [], 0, 0, 72057594037927935⟩ = true
      decide +kernel
    clear hpos
    have z : W.frozen? ⟨N + 1 + 1 + 1 + 1, 4, none⟩ = false := HBS.out.edit.free 4
    have p : W.cell? ⟨N + 1 + 1 + 1 + 1, 4, none⟩ = (xI N).cells[4]? := HBS.out.edit.cell 4
    have q0 : ¬ N = N + 1 + 1 + 1 + 1 := by omega
    have q1 : ¬ N + 1 = N + 1 + 1 + 1 + 1 := by omega
    have q2 : ¬ N + 1 + 1 + 1 = N + 1 + 1 + 1 + 1 := by omega
    have hkp : Keep (· = N + 1 + 1 + 1 + 1) W (W.setCell ⟨N + 1 + 1 + 1 + 1, 4, none⟩ (.int .u64 72057594037927935)) := (Keep.refl (· = N + 1 + 1 + 1 + 1) W).setCell (p := ⟨N + 1 + 1 + 1 + 1, 4, none⟩) (.inr rfl) _
    have HBX : Hid (Box (W.setCell ⟨N + 1 + 1 + 1 + 1, 4, none⟩ (.int .u64 72057594037927935)) (N + 1 + 1 + 1 + 1) 26 (X.cells ⟨some ⟨N + 1 + 1 + 1, 0, none⟩, 1, [dI N 1 1], none, 0, [], 0, 0, 72057594037927935⟩)) := Lib.hid (HBS.out.edit.set 4 (.int .u64 72057594037927935))
    have hkeys := HBS.out.keys.keep hkp q0 q1
    have hrow := HBS.out.row.keep hkp q2
    have HX : Hid (X.Ok (W.setCell ⟨N + 1 + 1 + 1 + 1, 4, none⟩ (.int .u64 72057594037927935)) (W.setCell ⟨N + 1 + 1 + 1 + 1, 4, none⟩ (.int .u64 72057594037927935)).heap.size ⟨some ⟨N + 1 + 1 + 1, 0, none⟩, 1, [dI N 1 1], none, 0, [], 0, 0, 72057594037927935⟩) := Lib.hid (one_ok hrow (dI_ok hkeys (by decide) (by decide)).low (.inl rfl) (Nat.le_refl _) (by decide) (fun _ h => by cases h) (by decide) (by decide) (by decide))
    have HBE := Lib.hid (HBS.out.be.setCell (p := ⟨N + 1 + 1 + 1 + 1, 4, none⟩) (by have := HBS.out.ge; show w.heap.size ≤ N + 1 + 1 + 1 + 1; omega) (.int .u64 72057594037927935))
    have HRI := Lib.hid h2'
    have hss := set_set W (N + 1 + 1 + 1 + 1) 4 (.int .u64 72057594037927935) (.int .u64 72057594037927935) _ _ HBS.out.edit
    clear hkp hkeys hrow q0 q1 q2 h2'
    go_upto_region 33 with fail
    clear p z
    try rw [hss]
    clear hss HBS
    generalize W.setCell ⟨N + 1 + 1 + 1 + 1, 4, none⟩ (.int .u64 72057594037927935) = V at *
    obtain ⟨k0, k1, k2, k3, k4⟩ := box_look HBX.out
    have HR := Lib.hid (oright_any ⟨some ⟨N + 1 + 1 + 1, 0, none⟩, 1, [dI N 1 1], none, 0, [], 0, 0, 72057594037927935⟩ V.heap.size V HX.out (Nat.le_refl _))
    by_cases hm : more ≤ 0
    · have dm : decide (more ≤ 0) = true := decide_eq_true hm
      have HRT := HRI.out
      rw [dm] at HRT
      rw [HRT] at HR
      have HRR := Lib.hid HRT
      clear HRT hm
      go_wp2_with fail
      refine HR.out.mono ?_
      rintro e V2 ⟨rfl, hb2⟩
      have HB2 := Lib.hid (HBE.out.trans (hb2.mono HBE.out.size))
      have HBY := Lib.hid (obytes_any ⟨some ⟨N + 1 + 1 + 1, 0, none⟩, 1, [dI N 1 1], none, 0, [], 0, 0, 72057594037927935⟩ V2.heap.size V2 (HX.out.next hb2) (Nat.le_refl _))
      rw [bytesE_yes HRR.out] at HBY
      have hpos := encE_pos (X.e ⟨some ⟨N + 1 + 1 + 1, 0, none⟩, 1, [dI N 1 1], none, 0, [], 0, 0, 72057594037927935⟩)
      generalize encE (X.e ⟨some ⟨N + 1 + 1 + 1, 0, none⟩, 1, [dI N 1 1], none, 0, [], 0, 0, 72057594037927935⟩) = P at *
      clear k0 k1 k2 k3 k4
      obtain ⟨k0, k1, k2, k3, k4⟩ := box_look (HBX.out.below hb2 HBX.out.lt)
      clear hb2 HR
      have dp : decide ((0 : Int) < (P.length : Int)) = true := decide_eq_true (by omega)
      have dp2 : decide (0 < P.length) = true := decide_eq_true (by omega)
      go_wp2_with fail
      refine HBY.out.mono ?_
      intro e V3 hm
      obtain ⟨A3, c3, rfl, -, -, -, hb3⟩ := hm.parts
      have HB3 := Lib.hid (HB2.out.trans (hb3.mono HB2.out.size))
      clear hm hb3 HBY
      go_wp2_with fail
      go_ret
      exact ⟨rfl, HB3.out⟩
    · have dm : decide (more ≤ 0) = false := decide_eq_false hm
      have HRT := HRI.out
      rw [dm] at HRT
      rw [HRT] at HR
      have HRR := Lib.hid HRT
      clear HRT hm
      go_wp2_with fail
      refine HR.out.mono ?_
      rintro e V2 ⟨rfl, hb2⟩
      have HB2 := Lib.hid (HBE.out.trans (hb2.mono HBE.out.size))
      have HBY := Lib.hid (obytes_any ⟨some ⟨N + 1 + 1 + 1, 0, none⟩, 1, [dI N 1 1], none, 0, [], 0, 0, 72057594037927935⟩ V2.heap.size V2 (HX.out.next hb2) (Nat.le_refl _))
      rw [bytesE_no HRR.out] at HBY
      clear k0 k1 k2 k3 k4
      obtain ⟨k0, k1, k2, k3, k4⟩ := box_look (HBX.out.below hb2 HBX.out.lt)
      clear hb2 HR
      go_wp2_with fail
      refine HBY.out.mono ?_
      intro e V3 hm
      obtain ⟨A3, c3, rfl, -, -, -, hb3⟩ := hm.parts
      have HB3 := Lib.hid (HB2.out.trans (hb3.mono HB2.out.size))
      clear hm hb3 HBY
      go_wp2_with fail
      go_ret
      exact ⟨rfl, HB3.out⟩

theorem right6 (N : Nat) (more : Int) (h1 : -1 ≤ more) (h2 : more ≤ 1) : right (X.e ⟨some ⟨N + 1 + 1 + 1, 0, none⟩, 1, [dI N (1099511627776 + more) 1], none, 0, [], 0, 0, 0⟩) = decide (more ≤ 0) := by
  show right ⟨[⟨(1099511627776 + more), 1, 1, [97], [98], 1⟩], [], 0, 0, 0⟩ = decide (more ≤ 0)
  have hc : more = -1 ∨ more = 0 ∨ more = 1 := by omega
  rcases hc with rfl | rfl | rfl <;> decide +kernel
set_option maxRecDepth 100000 in
set_option maxHeartbeats 6400000 in
theorem walk6 (more : Int) (w : World) (h1 : -1 ≤ more) (h2 : more ≤ 1) : Calls Try.prog 6 #[.int .i64 6, .int .i64 more] w (Yes w) := by
  have d1 : decide (more < -1) = false := decide_eq_false (by omega)
  have d2 : decide (1 < more) = false := decide_eq_false (by omega)
  go_enter Try.func6, Try.ntmps6
  go_wp2_with fail
  refine (alive_any _).mono ?_
  rintro e W1 ⟨rfl, hb1⟩
  have HBS := Lib.hid (base_mk hb1)
  clear hb1
  have kc := fun (W : World) (C : Array Value) (n c : Nat) => Lib.run_convert_bytes_const (P := Try.prog) W 29 5 C n c Try.underlying29 Try.underlying5
  have k2 := Joins.run_convert_bytes_const_at (P := Try.prog) (W1.alloc (.cells #[.int .u8 97] 5 (1, 2))) 29 5 #[.int .u8 98] 1 1 (W1.heap.size + 1) (by simp) Try.underlying29 Try.underlying5
  go_upto_region 6 with fail
  clear kc k2
  generalize hN : W1.heap.size = N at *
  generalize (((((W1.alloc obA).alloc obB).alloc (obR N)).alloc (obR N)).alloc (obE N)) = W at *
  clear hN
  have z : W.frozen? ⟨N + 1 + 1 + 1, 0, none⟩ = false := HBS.out.row.free 0
  have p : W.cell? ⟨N + 1 + 1 + 1, 0, none⟩ = some (.int .i64 1) := HBS.out.row.cell 0
  have pe : W.cell? ⟨N + 1 + 1 + 1 + 1, 0, none⟩ = some (.slice (some ⟨N + 1 + 1 + 1, 0, none⟩) 1 1) := HBS.out.edit.cell 0
  have q0 : ¬ N = N + 1 + 1 + 1 := by omega
  have q1 : ¬ N + 1 = N + 1 + 1 + 1 := by omega
  have q2 : ¬ N + 1 + 1 + 1 + 1 = N + 1 + 1 + 1 := by omega
  have hkp : Keep (· = N + 1 + 1 + 1) W (W.setCell ⟨N + 1 + 1 + 1, 0, none⟩ (.int .i64 (1099511627776 + more))) := (Keep.refl (· = N + 1 + 1 + 1) W).setCell (p := ⟨N + 1 + 1 + 1, 0, none⟩) (.inr rfl) _
  have HBX : Hid (Box (W.setCell ⟨N + 1 + 1 + 1, 0, none⟩ (.int .i64 (1099511627776 + more))) (N + 1 + 1 + 1 + 1) 26 (X.cells ⟨some ⟨N + 1 + 1 + 1, 0, none⟩, 1, [dI N (1099511627776 + more) 1], none, 0, [], 0, 0, 0⟩)) := Lib.hid (HBS.out.edit.keep hkp q2)
  have hkeys := HBS.out.keys.keep hkp q0 q1
  have hrow : Box (W.setCell ⟨N + 1 + 1 + 1, 0, none⟩ (.int .i64 (1099511627776 + more))) (N + 1 + 1 + 1) 41 (dI N (1099511627776 + more) 1).cells := HBS.out.row.set 0 _
  have HX : Hid (X.Ok (W.setCell ⟨N + 1 + 1 + 1, 0, none⟩ (.int .i64 (1099511627776 + more))) (W.setCell ⟨N + 1 + 1 + 1, 0, none⟩ (.int .i64 (1099511627776 + more))).heap.size ⟨some ⟨N + 1 + 1 + 1, 0, none⟩, 1, [dI N (1099511627776 + more) 1], none, 0, [], 0, 0, 0⟩) := Lib.hid (one_ok hrow (dI_ok hkeys (WalkArith.wf_i64 (by omega)) (WalkArith.wf_i64 (by omega))).low (.inl rfl) (Nat.le_refl _) (by decide) (fun _ h => by cases h) (by decide) (by decide) (by decide))
  have HBE := Lib.hid (HBS.out.be.setCell (p := ⟨N + 1 + 1 + 1, 0, none⟩) (by have := HBS.out.ge; show w.heap.size ≤ N + 1 + 1 + 1; omega) (.int .i64 (1099511627776 + more)))
  have HRI := Lib.hid (right6 N more h1 h2)
  clear hkp hkeys hrow q0 q1 q2 HBS
  go_upto_region 33 with fail
  clear p z pe
  generalize W.setCell ⟨N + 1 + 1 + 1, 0, none⟩ (.int .i64 (1099511627776 + more)) = V at *
  obtain ⟨k0, k1, k2, k3, k4⟩ := box_look HBX.out
  have HR := Lib.hid (oright_any ⟨some ⟨N + 1 + 1 + 1, 0, none⟩, 1, [dI N (1099511627776 + more) 1], none, 0, [], 0, 0, 0⟩ V.heap.size V HX.out (Nat.le_refl _))
  by_cases hm : more ≤ 0
  · have dm : decide (more ≤ 0) = true := decide_eq_true hm
    have HRT := HRI.out
    rw [dm] at HRT
    rw [HRT] at HR
    have HRR := Lib.hid HRT
    clear HRT hm
    go_wp2_with fail
    refine HR.out.mono ?_
    rintro e V2 ⟨rfl, hb2⟩
    have HB2 := Lib.hid (HBE.out.trans (hb2.mono HBE.out.size))
    have HBY := Lib.hid (obytes_any ⟨some ⟨N + 1 + 1 + 1, 0, none⟩, 1, [dI N (1099511627776 + more) 1], none, 0, [], 0, 0, 0⟩ V2.heap.size V2 (HX.out.next hb2) (Nat.le_refl _))
    rw [bytesE_yes HRR.out] at HBY
    have hpos := encE_pos (X.e ⟨some ⟨N + 1 + 1 + 1, 0, none⟩, 1, [dI N (1099511627776 + more) 1], none, 0, [], 0, 0, 0⟩)
    generalize encE (X.e ⟨some ⟨N + 1 + 1 + 1, 0, none⟩, 1, [dI N (1099511627776 + more) 1], none, 0, [], 0, 0, 0⟩) = P at *
    clear k0 k1 k2 k3 k4
    obtain ⟨k0, k1, k2, k3, k4⟩ := box_look (HBX.out.below hb2 HBX.out.lt)
    clear hb2 HR
    have dp : decide ((0 : Int) < (P.length : Int)) = true := decide_eq_true (by omega)
    have dp2 : decide (0 < P.length) = true := decide_eq_true (by omega)
    go_wp2_with fail
    refine HBY.out.mono ?_
    intro e V3 hm
    obtain ⟨A3, c3, rfl, -, -, -, hb3⟩ := hm.parts
    have HB3 := Lib.hid (HB2.out.trans (hb3.mono HB2.out.size))
    clear hm hb3 HBY
    go_wp2_with fail
    go_ret
    exact ⟨rfl, HB3.out⟩
  · have dm : decide (more ≤ 0) = false := decide_eq_false hm
    have HRT := HRI.out
    rw [dm] at HRT
    rw [HRT] at HR
    have HRR := Lib.hid HRT
    clear HRT hm
    go_wp2_with fail
    refine HR.out.mono ?_
    rintro e V2 ⟨rfl, hb2⟩
    have HB2 := Lib.hid (HBE.out.trans (hb2.mono HBE.out.size))
    have HBY := Lib.hid (obytes_any ⟨some ⟨N + 1 + 1 + 1, 0, none⟩, 1, [dI N (1099511627776 + more) 1], none, 0, [], 0, 0, 0⟩ V2.heap.size V2 (HX.out.next hb2) (Nat.le_refl _))
    rw [bytesE_no HRR.out] at HBY
    clear k0 k1 k2 k3 k4
    obtain ⟨k0, k1, k2, k3, k4⟩ := box_look (HBX.out.below hb2 HBX.out.lt)
    clear hb2 HR
    go_wp2_with fail
    refine HBY.out.mono ?_
    intro e V3 hm
    obtain ⟨A3, c3, rfl, -, -, -, hb3⟩ := hm.parts
    have HB3 := Lib.hid (HB2.out.trans (hb3.mono HB2.out.size))
    clear hm hb3 HBY
    go_wp2_with fail
    go_ret
    exact ⟨rfl, HB3.out⟩

theorem right7 (N M : Nat) (more : Int) (h1 : -1 ≤ more) (h2 : more ≤ 1) : right (X.e ⟨some ⟨N + 1 + 1 + 1, 0, none⟩, 1, [dI N 1 1], some ⟨M, 0, none⟩, 1, [1099511627776 + more], 0, 0, 0⟩) = decide (more ≤ 0) := by
  show right ⟨[⟨1, 1, 1, [97], [98], 1⟩], [1099511627776 + more], 0, 0, 0⟩ = decide (more ≤ 0)
  have hc : more = -1 ∨ more = 0 ∨ more = 1 := by omega
  rcases hc with rfl | rfl | rfl <;> decide +kernel
set_option maxRecDepth 100000 in
set_option maxHeartbeats 6400000 in
theorem walk7 (more : Int) (w : World) (h1 : -1 ≤ more) (h2 : more ≤ 1) : Calls Try.prog 6 #[.int .i64 7, .int .i64 more] w (Yes w) := by
  have d1 : decide (more < -1) = false := decide_eq_false (by omega)
  have d2 : decide (1 < more) = false := decide_eq_false (by omega)
  go_enter Try.func6, Try.ntmps6
  go_wp2_with fail
  refine (alive_any _).mono ?_
  rintro e W1 ⟨rfl, hb1⟩
  have HBS := Lib.hid (base_mk hb1)
  clear hb1
  have kc := fun (W : World) (C : Array Value) (n c : Nat) => Lib.run_convert_bytes_const (P := Try.prog) W 29 5 C n c Try.underlying29 Try.underlying5
  have k2 := Joins.run_convert_bytes_const_at (P := Try.prog) (W1.alloc (.cells #[.int .u8 97] 5 (1, 2))) 29 5 #[.int .u8 98] 1 1 (W1.heap.size + 1) (by simp) Try.underlying29 Try.underlying5
  go_upto_region 6 with fail
  clear kc k2
  generalize hN : W1.heap.size = N at *
  generalize (((((W1.alloc obA).alloc obB).alloc (obR N)).alloc (obR N)).alloc (obE N)) = W at *
  clear hN
  have hM1 : N + 5 = W.heap.size := HBS.out.size.symm
  have hbx := HBS.out.edit.alloc (.cells #[.int .i64 (1099511627776 + more)] 3)
  have hrw := HBS.out.row.alloc (.cells #[.int .i64 (1099511627776 + more)] 3)
  have hky : Keys (W.alloc (.cells #[.int .i64 (1099511627776 + more)] 3)) N := HBS.out.keys.same (Below.heap_alloc _ _ _ (by omega)) (Below.heap_alloc _ _ _ (by omega))
  have hnew := Box.new W 3 [.int .i64 (1099511627776 + more)]
  have hbe := HBS.out.be.alloc HBS.out.be.size (.cells #[.int .i64 (1099511627776 + more)] 3)
  have hsz : (W.alloc (.cells #[.int .i64 (1099511627776 + more)] 3)).heap.size = W.heap.size + 1 := by simp
  have z := hbx.free 1
  have p : (W.alloc (.cells #[.int .i64 (1099511627776 + more)] 3)).cell? ⟨N + 1 + 1 + 1 + 1, 1, none⟩ = some (.slice none 0 0) := hbx.cell 1
  have q0 : ¬ N = N + 1 + 1 + 1 + 1 := by omega
  have q1 : ¬ N + 1 = N + 1 + 1 + 1 + 1 := by omega
  have q2 : ¬ N + 1 + 1 + 1 = N + 1 + 1 + 1 + 1 := by omega
  have q3 : ¬ W.heap.size = N + 1 + 1 + 1 + 1 := by omega
  have hkp : Keep (· = N + 1 + 1 + 1 + 1) (W.alloc (.cells #[.int .i64 (1099511627776 + more)] 3)) ((W.alloc (.cells #[.int .i64 (1099511627776 + more)] 3)).setCell ⟨N + 1 + 1 + 1 + 1, 1, none⟩ (.slice (some ⟨W.heap.size, 0, none⟩) 1 1)) := (Keep.refl (· = N + 1 + 1 + 1 + 1) _).setCell (p := ⟨N + 1 + 1 + 1 + 1, 1, none⟩) (.inr rfl) _
  have HBX : Hid (Box ((W.alloc (.cells #[.int .i64 (1099511627776 + more)] 3)).setCell ⟨N + 1 + 1 + 1 + 1, 1, none⟩ (.slice (some ⟨W.heap.size, 0, none⟩) 1 1)) (N + 1 + 1 + 1 + 1) 26 (X.cells ⟨some ⟨N + 1 + 1 + 1, 0, none⟩, 1, [dI N 1 1], some ⟨W.heap.size, 0, none⟩, 1, [1099511627776 + more], 0, 0, 0⟩)) := Lib.hid (hbx.set 1 _)
  have hkeys := hky.keep hkp q0 q1
  have hrow := hrw.keep hkp q2
  have hnw := hnew.keep hkp q3
  have HX : Hid (X.Ok ((W.alloc (.cells #[.int .i64 (1099511627776 + more)] 3)).setCell ⟨N + 1 + 1 + 1 + 1, 1, none⟩ (.slice (some ⟨W.heap.size, 0, none⟩) 1 1)) ((W.alloc (.cells #[.int .i64 (1099511627776 + more)] 3)).setCell ⟨N + 1 + 1 + 1 + 1, 1, none⟩ (.slice (some ⟨W.heap.size, 0, none⟩) 1 1)).heap.size ⟨some ⟨N + 1 + 1 + 1, 0, none⟩, 1, [dI N 1 1], some ⟨W.heap.size, 0, none⟩, 1, [1099511627776 + more], 0, 0, 0⟩) := Lib.hid (one_ok hrow (dI_ok hkeys (by decide) (by decide)).low (by have := lies_block (B := ((W.alloc (.cells #[.int .i64 (1099511627776 + more)] 3)).setCell ⟨N + 1 + 1 + 1 + 1, 1, none⟩ (.slice (some ⟨W.heap.size, 0, none⟩) 1 1)).heap.size) hnw hnw.lt; simpa using this) (Nat.le_refl _) (by decide) (fun z hz => by rw [List.mem_singleton.1 hz]; exact WalkArith.wf_i64 (by omega)) (by decide) (by decide) (by decide))
  have HBE := Lib.hid (hbe.setCell (p := ⟨N + 1 + 1 + 1 + 1, 1, none⟩) (by have := HBS.out.ge; show w.heap.size ≤ N + 1 + 1 + 1 + 1; omega) (.slice (some ⟨W.heap.size, 0, none⟩) 1 1))
  have HRI := Lib.hid (right7 N W.heap.size more h1 h2)
  clear hkp hkeys hrow q0 q1 q2 q3 hbx hrw hky hnew hbe hsz hM1 hnw HBS
  go_upto_region 33 with fail
  clear p z
  generalize (W.alloc (.cells #[.int .i64 (1099511627776 + more)] 3)).setCell ⟨N + 1 + 1 + 1 + 1, 1, none⟩ (.slice (some ⟨W.heap.size, 0, none⟩) 1 1) = V at *
  obtain ⟨k0, k1, k2, k3, k4⟩ := box_look HBX.out
  have HR := Lib.hid (oright_any ⟨some ⟨N + 1 + 1 + 1, 0, none⟩, 1, [dI N 1 1], some ⟨W.heap.size, 0, none⟩, 1, [1099511627776 + more], 0, 0, 0⟩ V.heap.size V HX.out (Nat.le_refl _))
  by_cases hm : more ≤ 0
  · have dm : decide (more ≤ 0) = true := decide_eq_true hm
    have HRT := HRI.out
    rw [dm] at HRT
    rw [HRT] at HR
    have HRR := Lib.hid HRT
    clear HRT hm
    go_wp2_with fail
    refine HR.out.mono ?_
    rintro e V2 ⟨rfl, hb2⟩
    have HB2 := Lib.hid (HBE.out.trans (hb2.mono HBE.out.size))
    have HBY := Lib.hid (obytes_any ⟨some ⟨N + 1 + 1 + 1, 0, none⟩, 1, [dI N 1 1], some ⟨W.heap.size, 0, none⟩, 1, [1099511627776 + more], 0, 0, 0⟩ V2.heap.size V2 (HX.out.next hb2) (Nat.le_refl _))
    rw [bytesE_yes HRR.out] at HBY
    have hpos := encE_pos (X.e ⟨some ⟨N + 1 + 1 + 1, 0, none⟩, 1, [dI N 1 1], some ⟨W.heap.size, 0, none⟩, 1, [1099511627776 + more], 0, 0, 0⟩)
    generalize encE (X.e ⟨some ⟨N + 1 + 1 + 1, 0, none⟩, 1, [dI N 1 1], some ⟨W.heap.size, 0, none⟩, 1, [1099511627776 + more], 0, 0, 0⟩) = P at *
    clear k0 k1 k2 k3 k4
    obtain ⟨k0, k1, k2, k3, k4⟩ := box_look (HBX.out.below hb2 HBX.out.lt)
    clear hb2 HR
    have dp : decide ((0 : Int) < (P.length : Int)) = true := decide_eq_true (by omega)
    have dp2 : decide (0 < P.length) = true := decide_eq_true (by omega)
    go_wp2_with fail
    refine HBY.out.mono ?_
    intro e V3 hm
    obtain ⟨A3, c3, rfl, -, -, -, hb3⟩ := hm.parts
    have HB3 := Lib.hid (HB2.out.trans (hb3.mono HB2.out.size))
    clear hm hb3 HBY
    go_wp2_with fail
    go_ret
    exact ⟨rfl, HB3.out⟩
  · have dm : decide (more ≤ 0) = false := decide_eq_false hm
    have HRT := HRI.out
    rw [dm] at HRT
    rw [HRT] at HR
    have HRR := Lib.hid HRT
    clear HRT hm
    go_wp2_with fail
    refine HR.out.mono ?_
    rintro e V2 ⟨rfl, hb2⟩
    have HB2 := Lib.hid (HBE.out.trans (hb2.mono HBE.out.size))
    have HBY := Lib.hid (obytes_any ⟨some ⟨N + 1 + 1 + 1, 0, none⟩, 1, [dI N 1 1], some ⟨W.heap.size, 0, none⟩, 1, [1099511627776 + more], 0, 0, 0⟩ V2.heap.size V2 (HX.out.next hb2) (Nat.le_refl _))
    rw [bytesE_no HRR.out] at HBY
    clear k0 k1 k2 k3 k4
    obtain ⟨k0, k1, k2, k3, k4⟩ := box_look (HBX.out.below hb2 HBX.out.lt)
    clear hb2 HR
    go_wp2_with fail
    refine HBY.out.mono ?_
    intro e V3 hm
    obtain ⟨A3, c3, rfl, -, -, -, hb3⟩ := hm.parts
    have HB3 := Lib.hid (HB2.out.trans (hb3.mono HB2.out.size))
    clear hm hb3 HBY
    go_wp2_with fail
    go_ret
    exact ⟨rfl, HB3.out⟩

set_option maxRecDepth 100000 in
set_option maxHeartbeats 1600000 in
theorem walk_no (a0 a1 : Int) (w : World) (h : a0 < 0 ∨ 7 < a0 ∨ a1 < -1 ∨ 1 < a1) : Calls Try.prog 6 #[.int .i64 a0, .int .i64 a1] w (Yes w) := by
  go_enter Try.func6, Try.ntmps6
  go_wp2_with fail
  refine (alive_any _).mono ?_
  rintro e W1 ⟨rfl, hb1⟩
  have HB1 := Lib.hid hb1
  clear hb1
  by_cases c1 : a0 < 0
  · have d1 : decide (a0 < 0) = true := decide_eq_true c1
    clear h c1
    go_wp2_with fail
    go_ret
    exact ⟨rfl, HB1.out⟩
  · have d1 : decide (a0 < 0) = false := decide_eq_false c1
    by_cases c2 : 7 < a0
    · have d2 : decide (7 < a0) = true := decide_eq_true c2
      clear h c1 c2
      go_wp2_with fail
      go_ret
      exact ⟨rfl, HB1.out⟩
    · have d2 : decide (7 < a0) = false := decide_eq_false c2
      by_cases c3 : a1 < -1
      · have d3 : decide (a1 < -1) = true := decide_eq_true c3
        clear h c1 c2 c3
        go_wp2_with fail
        go_ret
        exact ⟨rfl, HB1.out⟩
      · have d3 : decide (a1 < -1) = false := decide_eq_false c3
        have d4 : decide (1 < a1) = true := decide_eq_true (by omega)
        clear h c1 c2 c3
        go_wp2_with fail
        go_ret
        exact ⟨rfl, HB1.out⟩

set_option maxRecDepth 100000 in
theorem lifted (os : Os) (started : os.Started) (H : Type) (enc : TypeId × Value → H) :
    ReturnsInHanded {} Try.checked os 6 .any (Rows.editLimitsSpec.pre6 enc Try.prog Try.f6 Rows.editLimitsRow.domain false) (Rows.editLimitsSpec.post enc Try.prog Try.f6 false true false false) := by
  refine lift_true (C := Try.checked) own started (by kernel_rfl) Try.func6
    (ChangeSpec.witness6 (enc := enc) (C := Try.checked) false ⟨#[], #[.int .i64 0, .int .i64 0], []⟩ 8 (by kernel_rfl) (by kernel_rfl) (by kernel_rfl) (by kernel_rfl))
    (by kernel_rfl) (by kernel_rfl) (by kernel_rfl) Try.underlying4 rfl ?_ ?_
  · intro ds hds
    match ds, hds with
    | [d1, d2], _ => exact ⟨rfl, rfl, rfl⟩
  · intro W base args ds p hval0 hA0 hlt _
    have hval : ∀ (j : Nat) t v, Try.f6.params[j]? = some t → args[j]? = some v → Value.okWide Try.prog W .any base t v := hval0
    have hA : DataW.TrodAll enc Try.prog W 0 (fun _ => true) true Try.f6.params.toList args.toList ds p := hA0
    rw [Try.params6] at hA hval
    obtain ⟨v0, vs0, d0, ds0, p0, q0, hargs, rfl, rfl, h0, r0⟩ := trodAll_cons hA
    obtain ⟨v1, vs1, d1, ds1, p1, q1, rfl, rfl, rfl, h1, r1⟩ := trodAll_cons r0
    obtain ⟨rfl, rfl, rfl⟩ := trodAll_nil r1
    obtain rfl : args = #[v0, v1] := by cases args; simp_all
    obtain ⟨a0, rfl, rfl, rfl, w0⟩ := open_int Try.underlying3 (hval 0 _ v0 rfl rfl) h0
    have b0 := i64_of w0
    obtain ⟨a1, rfl, rfl, rfl, w1⟩ := open_int Try.underlying3 (hval 1 _ v1 rfl rfl) h1
    have b1 := i64_of w1
    by_cases h : a0 < 0 ∨ 7 < a0 ∨ a1 < -1 ∨ 1 < a1
    · exact walk_no a0 a1 W h
    · have h1 : -1 ≤ a1 := by omega
      have h2 : a1 ≤ 1 := by omega
      have hc : a0 = 0 ∨ a0 = 1 ∨ a0 = 2 ∨ a0 = 3 ∨ a0 = 4 ∨ a0 = 5 ∨ a0 = 6 ∨ a0 = 7 := by omega
      rcases hc with rfl | rfl | rfl | rfl | rfl | rfl | rfl | rfl
      · exact walk0 a1 W h1 h2
      · exact walk1 a1 W h1 h2
      · exact walk2 a1 W h1 h2
      · exact walk3 a1 W h1 h2
      · exact walk4 a1 W h1 h2
      · exact walk5 a1 W h1 h2
      · exact walk6 a1 W h1 h2
      · exact walk7 a1 W h1 h2

theorem over : Rows.editLimitsRow.holds Try.pinned (OpenSpec.ofChange Rows.editLimitsSpec) :=
  OpenClaim.holds_of_wide 6 Try.f6 rfl rfl rfl rfl rfl rfl rfl ⟨rfl, rfl, rfl, rfl, rfl⟩ rfl rfl rfl rfl rfl (by kernel_rfl) Try.func6 (by kernel_rfl)
    (of_decide_eq_true (by kernel_rfl)) (by unfold Func.isWrapper; first | (rw [if_pos (by decide +kernel)]; kernel_rfl) | (rw [if_neg (by decide +kernel)]; exact ⟨rfl, rfl⟩))
    (fun os started H enc _ => lifted os started H enc)

theorem proved : Rows.EditLimitsSaid :=
  over
#print axioms proved
end Go.Proofs.Ythhmjjmjicmhdaa.editLimits
