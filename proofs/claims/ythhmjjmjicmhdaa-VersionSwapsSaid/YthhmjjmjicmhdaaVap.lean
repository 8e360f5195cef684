/- The document's own Apply. -/
import Derived.Test.YthhmjjmjicmhdaaVj2
import Derived.Test.YthhmjjmjicmhdaaVmm
namespace Go.Proofs.Ythhmjjmjicmhdaa.Ve
set_option linter.unusedVariables false
set_option linter.unusedSimpArgs false
open Go.RowKit Lift Ik Ed
/-- What Apply has: version and edit in their boxes, the result, the empty version. -/
structure AS (w wr : World) (y : Y) (x : X) : Prop where
  bv : Box wr w.heap.size 44 y.cells
  bx : Box wr (w.heap.size + 1) 26 [.slice x.addA x.add.length x.addC, .slice x.dropA x.drop.length x.dropC, .int .i64 x.next, .int .i64 x.log, .int .u64 (x.seq : Int)]
  res : Box wr (w.heap.size + 1 + 1) 44 zeroV
  non : Box wr (w.heap.size + 1 + 1 + 1) 44 zeroV
  oy : y.Ok wr w.heap.size
  ox : x.Ok wr w.heap.size
  be : Below w.heap.size w wr
  size : w.heap.size + 4 ≤ wr.heap.size
theorem AS.below {w wr w' : World} {y : Y} {x : X} (h : AS w wr y x) (hb : Below wr.heap.size wr w') : AS w w' y x :=
  ⟨h.bv.below hb h.bv.lt, h.bx.below hb h.bx.lt, h.res.below hb h.res.lt, h.non.below hb h.non.lt, h.oy.below (hb.mono h.be.size), h.ox.below (hb.mono h.be.size), h.be.trans (hb.mono h.be.size), Nat.le_trans h.size hb.size⟩
/-- What Apply tells. -/
def Told (w : World) (r : Nat × V) (e : Ending) (w' : World) : Prop := ∃ z : Y, e = .returned (.tuple #[z.v, .int .i64 (r.1 : Int)]) ∧ z.t = r.2 ∧ z.Ok w' w'.heap.size ∧ Below w.heap.size w w'
theorem ok_ac {B : Nat} {w w1 : World} {C : Nat} {z : Y} (ha : Ac B w (.slice z.a z.runs.length z.c) z.runs) (h : z.Ok w1 C) : z.Ok w w.heap.size := by
  obtain ⟨_, _, e1, hc1, hm1, hl1⟩ := own_parts ha.own
  injection e1 with ea _ ec
  rw [← ea] at hl1
  rw [← ec] at hc1 hm1
  exact ⟨⟨hl1, hc1, hm1, fun d hd => (ha.ok d hd).later (fun _ _ => rfl) fun k hf => hf.2.1⟩, h.wn, h.wl, h.sq⟩
theorem ZV_ok (w : World) (B : Nat) : ZV.Ok w B := ⟨Runs.zero _ _, by decide, by decide, by decide⟩
theorem told_zero {w wr : World} {y : Y} {x : X} {er : Nat} {r : Nat × V} (h : AS w wr y x) (hr : r = (er, noV)) (cs : Array Value) : Told w r (.returned (.tuple #[ZV.v, .int .i64 (er : Int)])) (wr.setRow (w.heap.size + 1 + 1) cs) := by
  subst hr
  exact ⟨ZV, rfl, rfl, ZV_ok _ _, h.be.trans ((keep_setRow wr (w.heap.size + 1 + 1) cs).below h.be.size fun k hk => by omega)⟩
set_option maxRecDepth 100000 in
set_option maxHeartbeats 25600000 in
theorem rapply_any (y : Y) (x : X) (w : World) (hy : y.Ok w w.heap.size) (hx : x.Ok w w.heap.size) : Calls Try.prog 25 #[y.v, x.v] w (Told w (applyV y.t x.e)) := by
  have HA0 : Hid (AS w ((((w.alloc y.box).alloc (.cells #[.slice x.addA x.add.length x.addC, .slice x.dropA x.drop.length x.dropC, .int .i64 x.next, .int .i64 x.log, .int .u64 (x.seq : Int)] 26)).alloc (.cells zeroV.toArray 44)).alloc (.cells zeroV.toArray 44)) y x) := Lib.hid (by
    have hb0 : Below w.heap.size w ((((w.alloc y.box).alloc (.cells #[.slice x.addA x.add.length x.addC, .slice x.dropA x.drop.length x.dropC, .int .i64 x.next, .int .i64 x.log, .int .u64 (x.seq : Int)] 26)).alloc (.cells zeroV.toArray 44)).alloc (.cells zeroV.toArray 44)) := (Joins.below_alloc3 _ _ _ _).alloc (by simp; omega) _
    obtain ⟨W1, hW1⟩ : ∃ W, W = w.alloc y.box := ⟨_, rfl⟩
    obtain ⟨W2, hW2⟩ : ∃ W, W = W1.alloc (.cells #[.slice x.addA x.add.length x.addC, .slice x.dropA x.drop.length x.dropC, .int .i64 x.next, .int .i64 x.log, .int .u64 (x.seq : Int)] 26) := ⟨_, rfl⟩
    obtain ⟨W3, hW3⟩ : ∃ W, W = W2.alloc (.cells zeroV.toArray 44) := ⟨_, rfl⟩
    rw [← hW1, ← hW2, ← hW3] at hb0 ⊢
    have s1 : W1.heap.size = w.heap.size + 1 := by rw [hW1]; simp
    have s2 : W2.heap.size = w.heap.size + 1 + 1 := by rw [hW2]; simp [s1]
    have s3 : W3.heap.size = w.heap.size + 1 + 1 + 1 := by rw [hW3]; simp [s2]
    have a1 : Box W1 w.heap.size 44 y.cells := by rw [hW1]; exact Box.new w _ _
    have a2 : Box W2 (w.heap.size + 1) 26 [.slice x.addA x.add.length x.addC, .slice x.dropA x.drop.length x.dropC, .int .i64 x.next, .int .i64 x.log, .int .u64 (x.seq : Int)] := by rw [hW2, ← s1]; exact Box.new W1 _ _
    have a3 : Box W3 (w.heap.size + 1 + 1) 44 zeroV := by rw [hW3, ← s2]; exact Box.new W2 _ _
    have b1 : Box W2 w.heap.size 44 y.cells := by rw [hW2]; exact a1.alloc _
    have b2 : Box W3 w.heap.size 44 y.cells := by rw [hW3]; exact b1.alloc _
    have c2 : Box W3 (w.heap.size + 1) 26 [.slice x.addA x.add.length x.addC, .slice x.dropA x.drop.length x.dropC, .int .i64 x.next, .int .i64 x.log, .int .u64 (x.seq : Int)] := by rw [hW3]; exact a2.alloc _
    exact ⟨b2.alloc _, c2.alloc _, a3.alloc _, by rw [← s3]; exact Box.new W3 _ zeroV, hy.below hb0, hx.below hb0, hb0, by simp [s3]⟩)
  have hn1 := i64_of hy.wn
  have hn2 := i64_of hy.wl
  have hn3 := hy.sq
  have hn4 := i64_of hx.wn
  have hn5 := i64_of hx.wl
  have hn6 := hx.sq
  have hdw := Lib.hid hx.dw
  have hb7 := Nat.le_trans hy.runs.len hy.runs.cap
  have hb8 := Nat.le_trans hx.add.len hx.add.cap
  have hb9 := Nat.le_trans hx.dc hx.dm
  unfold maxLen at hb7 hb8 hb9
  clear hy hx
  go_enter Try.func25, Try.ntmps25
  go_upto_region 2 with fail
  generalize ((((w.alloc (.cells #[.slice y.a y.runs.length y.c, .int .i64 y.next, .int .i64 y.log, .int .u64 (y.seq : Int)] 44)).alloc (.cells #[.slice x.addA x.add.length x.addC, .slice x.dropA x.drop.length x.dropC, .int .i64 x.next, .int .i64 x.log, .int .u64 (x.seq : Int)] 26)).alloc (.cells #[.slice none 0 0, .int .i64 0, .int .i64 0, .int .u64 0] 44)).alloc (.cells #[.slice none 0 0, .int .i64 0, .int .i64 0, .int .u64 0] 44)) = W0 at *
  have HRV := Lib.hid (rrightv_any y w.heap.size W0 HA0.out.oy HA0.out.be.size)
  have HBV0 := Lib.hid HA0.out.bv
  obtain ⟨b1, hb1⟩ : ∃ b, b = rightV y.t := ⟨_, rfl⟩
  rw [← hb1] at HRV
  have HB1 := Lib.hid hb1
  clear hb1
  go_wp2_with (refine wpList_load_row rfl _ _ rfl w.heap.size rfl _ y.cells.toArray (0, 0) _ HBV0.out Try.underlying44 rfl (by kernel_rfl) ?_)
  refine HRV.out.mono ?_
  rintro e W1 ⟨rfl, hw1⟩
  have HA1 := Lib.hid (HA0.out.below hw1)
  clear hw1 HRV HA0 HBV0
  rcases b1
  · have HT : Hid (applyV y.t x.e = (1, noV)) := Lib.hid (apply_arg (.inl HB1.out.symm))
    have HN := Lib.hid HA1.out.non
    have HZ := Lib.hid HA1.out.res
    go_wp2_with (first | (refine wpList_load_row rfl _ _ rfl (w.heap.size + 1 + 1 + 1) rfl _ #[.slice none 0 0, .int .i64 0, .int .i64 0, .int .u64 0] (0, 0) _ HN.out Try.underlying44 rfl (by kernel_rfl) ?_) | (refine wpList_store_row rfl _ _ _ rfl (w.heap.size + 1 + 1) #[.slice none 0 0, .int .i64 0, .int .i64 0, .int .u64 0] rfl rfl _ zeroV.toArray HZ.out (by kernel_rfl) rfl (by kernel_rfl) ?_))
    have hrz : Box (W1.setRow (w.heap.size + 1 + 1) #[.slice none 0 0, .int .i64 0, .int .i64 0, .int .u64 0]) (w.heap.size + 1 + 1) 44 zeroV := setRow_heap _ _ _ _ _ _ HZ.out
    refine bodyPost_ret (results_box rfl Try.underlying44 (by kernel_rfl) _ rfl hrz) rfl ?_
    exact told_zero HA1.out HT.out _
  have HRE := Lib.hid (rright_any x w.heap.size W1 HA1.out.ox HA1.out.be.size)
  obtain ⟨b2, hb2⟩ : ∃ b, b = right x.e := ⟨_, rfl⟩
  rw [← hb2] at HRE
  have HB2 := Lib.hid hb2
  clear hb2
  have k0 : W1.cell? ⟨w.heap.size + 1, 0, none⟩ = some (.slice x.addA x.add.length x.addC) := HA1.out.bx.cell 0
  have k1 : W1.cell? ⟨w.heap.size + 1, 1, none⟩ = some (.slice x.dropA x.drop.length x.dropC) := HA1.out.bx.cell 1
  have k2 : W1.cell? ⟨w.heap.size + 1, 2, none⟩ = some (.int .i64 x.next) := HA1.out.bx.cell 2
  have k3 : W1.cell? ⟨w.heap.size + 1, 3, none⟩ = some (.int .i64 x.log) := HA1.out.bx.cell 3
  have k4 : W1.cell? ⟨w.heap.size + 1, 4, none⟩ = some (.int .u64 (x.seq : Int)) := HA1.out.bx.cell 4
  go_wp2_with fail
  refine HRE.out.mono ?_
  rintro e W2 ⟨rfl, hw2⟩
  have HA2 := Lib.hid (HA1.out.below hw2)
  clear hw2 HRE HA1 k0 k1 k2 k3 k4
  rcases b2
  · have HT : Hid (applyV y.t x.e = (1, noV)) := Lib.hid (apply_arg (.inr HB2.out.symm))
    have HN := Lib.hid HA2.out.non
    have HZ := Lib.hid HA2.out.res
    go_wp2_with (first | (refine wpList_load_row rfl _ _ rfl (w.heap.size + 1 + 1 + 1) rfl _ #[.slice none 0 0, .int .i64 0, .int .i64 0, .int .u64 0] (0, 0) _ HN.out Try.underlying44 rfl (by kernel_rfl) ?_) | (refine wpList_store_row rfl _ _ _ rfl (w.heap.size + 1 + 1) #[.slice none 0 0, .int .i64 0, .int .i64 0, .int .u64 0] rfl rfl _ zeroV.toArray HZ.out (by kernel_rfl) rfl (by kernel_rfl) ?_))
    have hrz : Box (W2.setRow (w.heap.size + 1 + 1) #[.slice none 0 0, .int .i64 0, .int .i64 0, .int .u64 0]) (w.heap.size + 1 + 1) 44 zeroV := setRow_heap _ _ _ _ _ _ HZ.out
    refine bodyPost_ret (results_box rfl Try.underlying44 (by kernel_rfl) _ rfl hrz) rfl ?_
    exact told_zero HA2.out HT.out _
  have hlY : y.t.runs.length = y.runs.length := by unfold Y.t; simp
  have hlA : x.e.add.length = x.add.length := by unfold X.e; simp
  have hY := rightV_parts HB1.out.symm
  have hX := right_parts HB2.out.symm
  have fY : y.runs.length ≤ 1000 := by rw [← hlY]; exact hY.1
  have fA : x.add.length ≤ 100 := by rw [← hlA]; exact hX.1
  have fD : x.drop.length ≤ 100 := hX.2.1
  clear hY hX
  obtain ⟨v0, v1, v2, v3⟩ := look HA2.out.bv
  have k0 : W2.cell? ⟨w.heap.size + 1, 0, none⟩ = some (.slice x.addA x.add.length x.addC) := HA2.out.bx.cell 0
  have k1 : W2.cell? ⟨w.heap.size + 1, 1, none⟩ = some (.slice x.dropA x.drop.length x.dropC) := HA2.out.bx.cell 1
  have k2 : W2.cell? ⟨w.heap.size + 1, 2, none⟩ = some (.int .i64 x.next) := HA2.out.bx.cell 2
  have k3 : W2.cell? ⟨w.heap.size + 1, 3, none⟩ = some (.int .i64 x.log) := HA2.out.bx.cell 3
  have k4 : W2.cell? ⟨w.heap.size + 1, 4, none⟩ = some (.int .u64 (x.seq : Int)) := HA2.out.bx.cell 4
  go_wp2_with fail
  go_loopw [7, 8, 9] (fun lv hv i wr => ∃ (k lo : Nat) (hi : Int) (ps : List Nat), k ≤ x.drop.length ∧ lv = .int .i64 (lo : Int) ∧ hv = .int .i64 hi ∧ i = .int .i64 (k : Int) ∧ Hid (AS w wr y x) ∧ Hid (lo = lows ps y.t.runs.length ∧ hi = highs ps ∧ spots y.t.runs (x.drop.take k) = some ps)) (fun _ _ i _ => x.drop.length + 1 - (intOf i).toNat)
  case atStart => exact ⟨0, y.runs.length, -1, [], Nat.zero_le _, rfl, rfl, rfl, HA2, Lib.hid ⟨hlY.symm, rfl, rfl⟩⟩
  case round =>
    obtain ⟨k, lo, hi, ps, hk, rfl, rfl, rfl, HA3, HPS⟩ := hrel
    clear v0 v1 v2 v3 k0 k1 k2 k3 k4
    have blo : lo ≤ 1000 := by rw [HPS.out.1]; exact Nat.le_trans (lows_le _ _) (by rw [hlY]; exact fY)
    have bhi : -1 ≤ hi ∧ hi < 1001 := by
      have hp := (spots_len HPS.out.2.2).2
      have := highs_bounds (n := 1001) fun p h => by have := hp p h; omega
      rw [HPS.out.2.1]; exact ⟨this.1, by have := this.2; omega⟩
    obtain ⟨bh1, bh2⟩ := bhi
    obtain ⟨v0, v1, v2, v3⟩ := look HA3.out.bv
    have k0 : wr.cell? ⟨w.heap.size + 1, 0, none⟩ = some (.slice x.addA x.add.length x.addC) := HA3.out.bx.cell 0
    have k1 : wr.cell? ⟨w.heap.size + 1, 1, none⟩ = some (.slice x.dropA x.drop.length x.dropC) := HA3.out.bx.cell 1
    have k2 : wr.cell? ⟨w.heap.size + 1, 2, none⟩ = some (.int .i64 x.next) := HA3.out.bx.cell 2
    have k3 : wr.cell? ⟨w.heap.size + 1, 3, none⟩ = some (.int .i64 x.log) := HA3.out.bx.cell 3
    have k4 : wr.cell? ⟨w.heap.size + 1, 4, none⟩ = some (.int .u64 (x.seq : Int)) := HA3.out.bx.cell 4
    by_cases hlt : k < x.drop.length
    · obtain ⟨z, hz⟩ : ∃ z, x.drop[k]? = some z := ⟨_, List.getElem?_eq_getElem hlt⟩
      obtain ⟨ad, hA, -, hcc⟩ := HA3.out.ox.dl.place (by rw [List.length_map]; omega)
      have hc1 : wr.cell? (ad.add k) = some (.int .i64 z) := hcc k _ (by rw [List.getElem?_map, hz]; rfl)
      have HK : Hid (x.drop.take (k + 1) = x.drop.take k ++ [z]) := Lib.hid (by rw [List.take_add_one, hz]; rfl)
      rw [hA] at k1
      have HPL : Hid (∀ m, Calls Try.prog 60 #[.slice y.a y.runs.length y.c, .int .i64 z] (wr.drewN m) fun e w' => e = .returned (.int .i64 (spotI y.t.runs z)) ∧ wr.drewN m = w') := Lib.hid fun m => place_any (B := w.heap.size) (HA3.out.oy.below ((Joins.below_draws _ wr m).mono HA3.out.be.size)).runs z
      obtain ⟨q, hq⟩ : ∃ q, q = spotI y.t.runs z := ⟨_, rfl⟩
      rw [← hq] at HPL
      have HQ := Lib.hid hq
      clear hcc hz hA hq
      go_upto_region 9 with fail
      go_quiet (first | (go_at_call 60; refine Calls.quiet_of_same ((HPL.out _).mono fun e w' hh => ⟨hh.1, hh.2.symm⟩)))
      have HA4 := Lib.hid (HA3.out.below (Joins.below_draws _ wr nq))
      generalize hW4 : wr.drewN nq = W4 at HA4 ⊢
      clear hW4 v0 v1 v2 v3 k0 k1 k2 k3 k4 hc1 HPL HA3
      rcases hs : spot y.t.runs z with _ | p
      · obtain rfl : q = -1 := by rw [HQ.out]; exact spotI_none hs
        have HT : Hid (applyV y.t x.e = (8, noV)) := Lib.hid (apply_none HB1.out.symm HB2.out.symm (by
          have h1 : spots y.t.runs (x.drop.take (k + 1)) = none := by rw [HK.out, spots_snoc, HPS.out.2.2, hs]; rfl
          have h2 := spots_none_mono (gs := x.drop.drop (k + 1)) h1
          rw [List.take_append_drop] at h2
          exact h2))
        clear hs
        have HN := Lib.hid HA4.out.non
        have HZ := Lib.hid HA4.out.res
        go_wp2_with (first | (refine wpList_load_row rfl _ _ rfl (w.heap.size + 1 + 1 + 1) rfl _ #[.slice none 0 0, .int .i64 0, .int .i64 0, .int .u64 0] (0, 0) _ HN.out Try.underlying44 rfl (by kernel_rfl) ?_) | (refine wpList_store_row rfl _ _ _ rfl (w.heap.size + 1 + 1) #[.slice none 0 0, .int .i64 0, .int .i64 0, .int .u64 0] rfl rfl _ zeroV.toArray HZ.out (by kernel_rfl) rfl (by kernel_rfl) ?_))
        have hrz : Box (W4.setRow (w.heap.size + 1 + 1) #[.slice none 0 0, .int .i64 0, .int .i64 0, .int .u64 0]) (w.heap.size + 1 + 1) 44 zeroV := setRow_heap _ _ _ _ _ _ HZ.out
        refine bodyPost_ret (results_box rfl Try.underlying44 (by kernel_rfl) _ rfl hrz) rfl ?_
        exact told_zero HA4.out HT.out _
      · obtain rfl : q = (p : Int) := by rw [HQ.out]; exact spotI_nat hs
        have bp := (spot_lt hs).1
        rw [hlY] at bp
        have HS : Hid (lows (ps ++ [p]) y.t.runs.length = min lo p ∧ highs (ps ++ [p]) = max hi (p : Int) ∧ spots y.t.runs (x.drop.take (k + 1)) = some (ps ++ [p])) := Lib.hid ⟨by rw [lows_snoc, HPS.out.1], by rw [highs_snoc, HPS.out.2.1], by rw [HK.out, spots_snoc, HPS.out.2.2, hs]; rfl⟩
        clear hs
        have t0 : decide ((p : Int) < 0) = false := decide_eq_false (by omega)
        by_cases h1 : p < lo
        · have t1 : decide ((p : Int) < (lo : Int)) = true := decide_eq_true (by omega)
          have s1 : decide (p < lo) = true := decide_eq_true h1
          by_cases h2 : hi < (p : Int)
          · have t2 : decide (hi < (p : Int)) = true := decide_eq_true h2
            go_wp2_with fail
            go_roundw
            case rel => exact ⟨k + 1, p, (p : Int), ps ++ [p], by omega, rfl, rfl, by go_num, HA4, Lib.hid ⟨by rw [HS.out.1]; omega, by rw [HS.out.2.1]; omega, HS.out.2.2⟩⟩
            case measure => simp [intOf]; omega
          · have t2 : decide (hi < (p : Int)) = false := decide_eq_false h2
            go_wp2_with fail
            go_roundw
            case rel => exact ⟨k + 1, p, hi, ps ++ [p], by omega, rfl, rfl, by go_num, HA4, Lib.hid ⟨by rw [HS.out.1]; omega, by rw [HS.out.2.1]; omega, HS.out.2.2⟩⟩
            case measure => simp [intOf]; omega
        · have t1 : decide ((p : Int) < (lo : Int)) = false := decide_eq_false (by omega)
          have s1 : decide (p < lo) = false := decide_eq_false h1
          by_cases h2 : hi < (p : Int)
          · have t2 : decide (hi < (p : Int)) = true := decide_eq_true h2
            go_wp2_with fail
            go_roundw
            case rel => exact ⟨k + 1, lo, (p : Int), ps ++ [p], by omega, rfl, rfl, by go_num, HA4, Lib.hid ⟨by rw [HS.out.1]; omega, by rw [HS.out.2.1]; omega, HS.out.2.2⟩⟩
            case measure => simp [intOf]; omega
          · have t2 : decide (hi < (p : Int)) = false := decide_eq_false h2
            go_wp2_with fail
            go_roundw
            case rel => exact ⟨k + 1, lo, hi, ps ++ [p], by omega, rfl, rfl, by go_num, HA4, Lib.hid ⟨by rw [HS.out.1]; omega, by rw [HS.out.2.1]; omega, HS.out.2.2⟩⟩
            case measure => simp [intOf]; omega
    · obtain rfl : k = x.drop.length := by omega
      have hps : spots y.t.runs x.e.drop = some ps := by have := HPS.out.2.2; rw [List.take_length] at this; exact this
      have HSP := Lib.hid hps
      have HLO := Lib.hid HPS.out.1
      have HHI := Lib.hid HPS.out.2.1
      clear hps HPS
      go_wp2_with fail
      go_loopw [11] (fun i wq => ∃ k : Nat, k ≤ x.add.length ∧ i = .int .i64 (k : Int) ∧ Hid (AS w wq y x) ∧ Hid (∀ r, r ∈ x.e.add.take k → (spot y.t.runs r.file).isSome = true → r.file ∈ x.drop)) (fun i _ => x.add.length + 1 - (intOf i).toNat)
      case atStart => exact ⟨0, Nat.zero_le _, rfl, HA3, Lib.hid fun r hr => by simp at hr⟩
      case round =>
        obtain ⟨k, hk, rfl, HA5, HAL⟩ := hrel
        clear v0 v1 v2 v3 k0 k1 k2 k3 k4
        obtain ⟨v0, v1, v2, v3⟩ := look HA5.out.bv
        have k0 : wr.cell? ⟨w.heap.size + 1, 0, none⟩ = some (.slice x.addA x.add.length x.addC) := HA5.out.bx.cell 0
        have k1 : wr.cell? ⟨w.heap.size + 1, 1, none⟩ = some (.slice x.dropA x.drop.length x.dropC) := HA5.out.bx.cell 1
        have k2 : wr.cell? ⟨w.heap.size + 1, 2, none⟩ = some (.int .i64 x.next) := HA5.out.bx.cell 2
        have k3 : wr.cell? ⟨w.heap.size + 1, 3, none⟩ = some (.int .i64 x.log) := HA5.out.bx.cell 3
        have k4 : wr.cell? ⟨w.heap.size + 1, 4, none⟩ = some (.int .u64 (x.seq : Int)) := HA5.out.bx.cell 4
        by_cases hlt : k < x.add.length
        · obtain ⟨d, hd⟩ : ∃ d, x.add[k]? = some d := ⟨_, List.getElem?_eq_getElem hlt⟩
          obtain ⟨ad, p, hA, -, hpp, q0, -⟩ := HA5.out.ox.add.place hd
          rw [hA] at k0
          have HD : Hid (x.e.add[k]? = some d.ru) := Lib.hid (by unfold X.e; rw [List.getElem?_map, hd]; rfl)
          have HPL : Hid (∀ m, Calls Try.prog 60 #[.slice y.a y.runs.length y.c, .int .i64 d.file] (wr.drewN m) fun e w' => e = .returned (.int .i64 (spotI y.t.runs d.file)) ∧ wr.drewN m = w') := Lib.hid fun m => place_any (B := w.heap.size) (HA5.out.oy.below ((Joins.below_draws _ wr m).mono HA5.out.be.size)).runs d.file
          have HHA : Hid (∀ m, Calls Try.prog 61 #[.slice x.dropA x.drop.length x.dropC, .int .i64 d.file] (wr.drewN m) fun e w' => e = .returned (.bool (decide (d.file ∈ x.drop))) ∧ ∃ m', w' = (wr.drewN m).drewN m') := Lib.hid fun m => has_any x.drop d.file x.dropA x.dropC w.heap.size _ (HA5.out.ox.below ((Joins.below_draws _ wr m).mono HA5.out.be.size)).dl (by omega)
          obtain ⟨q, hq⟩ : ∃ q, q = spotI y.t.runs d.file := ⟨_, rfl⟩
          obtain ⟨b, hb⟩ : ∃ b, b = decide (d.file ∈ x.drop) := ⟨_, rfl⟩
          rw [← hq] at HPL
          rw [← hb] at HHA
          have HQ := Lib.hid hq
          have HB := Lib.hid hb
          clear hd hA hq hb
          go_upto_region 19 with fail
          by_cases hq0 : 0 ≤ q
          · have t0 : decide (0 ≤ q) = true := decide_eq_true hq0
            have HQ0 := Lib.hid hq0
            clear hq0
            go_quiet (first | (go_at_call 60; refine Calls.quiet_of_same ((HPL.out _).mono fun e w' hh => ⟨hh.1, hh.2.symm⟩)) | (go_at_call 61; refine Calls.quiet_of (HHA.out _)))
            have HA6 := Lib.hid (HA5.out.below (Joins.below_draws _ wr nq))
            generalize hW6 : wr.drewN nq = W6 at HA6 ⊢
            clear hW6 v0 v1 v2 v3 k0 k1 k2 k3 k4 HPL HHA HA5 q0 hpp
            rcases b
            · have HT : Hid (applyV y.t x.e = (9, noV)) := Lib.hid (by
                rw [apply_some HB1.out.symm HB2.out.symm HSP.out, if_pos]
                refine twice_true (List.mem_of_getElem? HD.out) ?_ (of_decide_eq_false HB.out.symm)
                have h0 := HQ0.out
                rw [HQ.out] at h0
                show (spot y.t.runs d.file).isSome = true
                cases hs : spot y.t.runs d.file with
                | none => rw [spotI_none hs] at h0; omega
                | some p => rfl)
              have HN := Lib.hid HA6.out.non
              have HZ := Lib.hid HA6.out.res
              go_wp2_with (first | (refine wpList_load_row rfl _ _ rfl (w.heap.size + 1 + 1 + 1) rfl _ #[.slice none 0 0, .int .i64 0, .int .i64 0, .int .u64 0] (0, 0) _ HN.out Try.underlying44 rfl (by kernel_rfl) ?_) | (refine wpList_store_row rfl _ _ _ rfl (w.heap.size + 1 + 1) #[.slice none 0 0, .int .i64 0, .int .i64 0, .int .u64 0] rfl rfl _ zeroV.toArray HZ.out (by kernel_rfl) rfl (by kernel_rfl) ?_))
              have hrz : Box (W6.setRow (w.heap.size + 1 + 1) #[.slice none 0 0, .int .i64 0, .int .i64 0, .int .u64 0]) (w.heap.size + 1 + 1) 44 zeroV := setRow_heap _ _ _ _ _ _ HZ.out
              refine bodyPost_ret (results_box rfl Try.underlying44 (by kernel_rfl) _ rfl hrz) rfl ?_
              exact told_zero HA6.out HT.out _
            · go_wp2_with fail
              go_roundw
              case rel => exact ⟨k + 1, by omega, by go_num, HA6, Lib.hid fun r hr => by
                rw [List.take_add_one, HD.out] at hr
                rcases List.mem_append.1 hr with h | h
                · exact HAL.out r h
                · have e : r = d.ru := by simpa using h
                  subst e
                  exact fun _ => of_decide_eq_true HB.out.symm⟩
              case measure => simp [intOf]; omega
          · have t0 : decide (0 ≤ q) = false := decide_eq_false hq0
            have HQ0 := Lib.hid hq0
            clear hq0
            go_quiet (first | (go_at_call 60; refine Calls.quiet_of_same ((HPL.out _).mono fun e w' hh => ⟨hh.1, hh.2.symm⟩)))
            have HA6 := Lib.hid (HA5.out.below (Joins.below_draws _ wr nq))
            generalize hW6 : wr.drewN nq = W6 at HA6 ⊢
            clear hW6 v0 v1 v2 v3 k0 k1 k2 k3 k4 HPL HHA HA5 q0 hpp
            go_wp2_with fail
            go_roundw
            case rel => exact ⟨k + 1, by omega, by go_num, HA6, Lib.hid fun r hr => by
              rw [List.take_add_one, HD.out] at hr
              rcases List.mem_append.1 hr with h | h
              · exact HAL.out r h
              · have e : r = d.ru := by simpa using h
                subst e
                intro hs
                have h0 := HQ0.out
                rw [HQ.out] at h0
                obtain ⟨p, hp⟩ := Option.isSome_iff_exists.1 hs
                rw [spotI_nat (show spot y.t.runs d.file = some p from hp)] at h0
                omega⟩
            case measure => simp [intOf]; omega
        · obtain rfl : k = x.add.length := by omega
          have hal : twice y.t x.e = false := twice_false.2 fun r hr hs => HAL.out r (by rw [← hlA, List.take_length]; exact hr) hs
          have HTW := Lib.hid hal
          clear hal HAL
          go_upto_if 84 with fail
          go_cut [7, 8] (fun lv hv wx => lv = .int .i64 ((low y.t x.e ps : Nat) : Int) ∧ hv = .int .i64 (high x.e ps) ∧ wr = wx)
          case first =>
            by_cases h0 : x.drop.length = 0
            · have t0 : ((x.drop.length : Int) == 0) = true := by rw [beq_iff_eq]; omega
              have s0 : (x.drop.length == 0) = true := by rw [beq_iff_eq]; omega
              have h1 : x.e.drop = [] := List.length_eq_zero_iff.1 h0
              have HE : Hid (low y.t x.e ps = 0 ∧ high x.e ps = -1) := Lib.hid ⟨by unfold low; rw [if_pos h1], by unfold high; rw [if_pos h1]⟩
              clear h1
              go_wp2_with fail
              go_meet
              exact ⟨by rw [HE.out.1]; rfl, by rw [HE.out.2], rfl⟩
            · have t0 : ((x.drop.length : Int) == 0) = false := by rw [beq_eq_false_iff_ne]; omega
              have s0 : (x.drop.length == 0) = false := by rw [beq_eq_false_iff_ne]; omega
              have HE : Hid (low y.t x.e ps = lo ∧ high x.e ps = hi) := Lib.hid (by
                have h1 : ¬ x.e.drop = [] := fun h => h0 (List.length_eq_zero_iff.2 h)
                exact ⟨by unfold low; rw [if_neg h1, HLO.out], by unfold high; rw [if_neg h1, HHI.out]⟩)
              clear h0
              go_wp2_with fail
              go_meet
              exact ⟨by rw [HE.out.1], by rw [HE.out.2], rfl⟩
          case rest =>
          obtain ⟨rfl, rfl, hwc⟩ := hcut
          subst hwc
          have hps := spots_len HSP.out
          have hlow : low y.t x.e ps ≤ y.runs.length := by rw [← hlY]; exact low_le
          have hhig : -1 ≤ high x.e ps ∧ high x.e ps < (y.runs.length : Int) := by
            rcases high_bounds (e := x.e) hps.2 with h | h
            · rw [← hlY]; exact h
            · rw [h.2]; exact ⟨by omega, by omega⟩
          have HAP := Lib.hid (apply_some HB1.out.symm HB2.out.symm HSP.out)
          obtain ⟨low, hlo⟩ : ∃ l, l = Ve.low y.t x.e ps := ⟨_, rfl⟩
          obtain ⟨hig, hhi⟩ : ∃ l, l = Ve.high x.e ps := ⟨_, rfl⟩
          rw [← hlo] at HAP hlow ⊢
          rw [← hhi] at HAP hhig ⊢
          obtain ⟨hg1, hg2⟩ := hhig
          clear hps hlo hhi HLO HHI blo bh1 bh2 HSP
          by_cases h3 : 1000 < (y.runs.length : Int) - (x.drop.length : Int) + (x.add.length : Int)
          · have t3 : decide (1000 < (y.runs.length : Int) - (x.drop.length : Int) + (x.add.length : Int)) = true := decide_eq_true h3
            have HT : Hid (applyV y.t x.e = (3, noV)) := Lib.hid (by rw [HAP.out, if_neg (by rw [HTW.out]; simp), hlY, hlA, show x.e.drop.length = x.drop.length from rfl, if_pos h3])
            clear h3
            have HN := Lib.hid HA5.out.non
            have HZ := Lib.hid HA5.out.res
            go_wp2_with (first | (refine wpList_load_row rfl _ _ rfl (w.heap.size + 1 + 1 + 1) rfl _ #[.slice none 0 0, .int .i64 0, .int .i64 0, .int .u64 0] (0, 0) _ HN.out Try.underlying44 rfl (by kernel_rfl) ?_) | (refine wpList_store_row rfl _ _ _ rfl (w.heap.size + 1 + 1) #[.slice none 0 0, .int .i64 0, .int .i64 0, .int .u64 0] rfl rfl _ zeroV.toArray HZ.out (by kernel_rfl) rfl (by kernel_rfl) ?_))
            have hrz : Box (wr.setRow (w.heap.size + 1 + 1) #[.slice none 0 0, .int .i64 0, .int .i64 0, .int .u64 0]) (w.heap.size + 1 + 1) 44 zeroV := setRow_heap _ _ _ _ _ _ HZ.out
            refine bodyPost_ret (results_box rfl Try.underlying44 (by kernel_rfl) _ rfl hrz) rfl ?_
            exact told_zero HA5.out HT.out _
          · have t3 : decide (1000 < (y.runs.length : Int) - (x.drop.length : Int) + (x.add.length : Int)) = false := decide_eq_false h3
            by_cases h4 : hig - (low : Int) + 1 = (x.drop.length : Int)
            · have t4 : ((hig - (low : Int) + 1) != (x.drop.length : Int)) = false := by rw [bne_eq_false_iff_eq]; exact h4
              have HAP2 : Hid (applyV y.t x.e = if back y.t x.e = true ∨ rightV (joinV y.t x.e low hig) = false then (10, noV) else (0, joinV y.t x.e low hig)) := Lib.hid (by rw [HAP.out, if_neg (by rw [HTW.out]; simp), hlY, hlA, show x.e.drop.length = x.drop.length from rfl, if_neg h3, if_neg (fun h => h h4)])
              clear h3 h4 HAP
              go_upto_region 28 with fail
              have HJN := Lib.hid (rjoin_any y x low hig wr (HA5.out.oy.up HA5.out.be.size) (HA5.out.ox.up HA5.out.be.size) hlow hg1 hg2 fY fA (fun d hd => by
                have key : okR d.ru = true := by
                  rcases List.mem_append.1 hd with h | h
                  · have := (rightV_parts HB1.out.symm).2.2.2.2.2.1 d.ru (List.mem_map_of_mem h)
                    unfold okV at this
                    exact (Bool.and_eq_true _ _ ▸ this).1
                  · exact (right_parts HB2.out.symm).2.2.2.2.2.2.2.1 d.ru (List.mem_map_of_mem h)
                unfold okR at key
                simp only [Bool.and_eq_true, decide_eq_true_eq] at key
                have h1 := key.2.2.2.1.2
                have h2 := key.2.2.2.2.1.2
                change d.first.length ≤ 256 at h1
                change d.last.length ≤ 256 at h2
                exact ⟨by omega, by omega⟩))
              have HBV5 := Lib.hid HA5.out.bv
              have HBX5 := Lib.hid HA5.out.bx
              clear hlow hg1 hg2 t4
              go_wp2_with (first | (refine wpList_load_row rfl _ _ rfl w.heap.size rfl _ y.cells.toArray (0, 0) _ HBV5.out Try.underlying44 rfl (by kernel_rfl) ?_) | (refine wpList_load_row rfl _ _ rfl (w.heap.size + 1) rfl _ #[.slice x.addA x.add.length x.addC, .slice x.dropA x.drop.length x.dropC, .int .i64 x.next, .int .i64 x.log, .int .u64 (x.seq : Int)] (0, 0) _ HBX5.out Try.underlying26 rfl (by kernel_rfl) ?_))
              refine HJN.out.mono ?_
              rintro e W7 ⟨z, rfl, hzt, hzo, hza, hw7⟩
              go_upto_region 29 with fail
              have ha7 := HA5.out.below hw7
              have hal7 := Joins.below_alloc1 W7 z.box
              have HA8 := Lib.hid (ha7.below hal7)
              have HZB : Hid (Box (W7.alloc z.box) W7.heap.size 44 z.cells) := Lib.hid (Box.new W7 44 z.cells)
              have HZO := Lib.hid (hzo.below hal7)
              have HZA := Lib.hid (hza.below hal7)
              have HZT := Lib.hid hzt
              have HSZ := Lib.hid (show w.heap.size + 4 ≤ wr.heap.size from HA5.out.size)
              have hg8 : W7.heap.size ≤ (W7.alloc z.box).heap.size := hal7.size
              have HRZ := Lib.hid (rrightv_any z W7.heap.size (W7.alloc z.box) HZO.out hg8)
              have HG8 := Lib.hid hg8
              obtain ⟨b3, hb3⟩ : ∃ b, b = rightV z.t := ⟨_, rfl⟩
              rw [← hb3] at HRZ
              have HB3 := Lib.hid hb3
              clear hb3 ha7 hal7 hzo hza hzt hg8 hw7 HJN HA5 HBV5 HBX5 v0 v1 v2 v3 k0 k1 k2 k3 k4
              generalize hW8 : W7.alloc z.box = W8 at *
              generalize hgg : W7.heap.size = g at *
              clear hW8 hgg
              obtain ⟨v0, v1, v2, v3⟩ := look HA8.out.bv
              have k0 : W8.cell? ⟨w.heap.size + 1, 0, none⟩ = some (.slice x.addA x.add.length x.addC) := HA8.out.bx.cell 0
              have k1 : W8.cell? ⟨w.heap.size + 1, 1, none⟩ = some (.slice x.dropA x.drop.length x.dropC) := HA8.out.bx.cell 1
              have k2 : W8.cell? ⟨w.heap.size + 1, 2, none⟩ = some (.int .i64 x.next) := HA8.out.bx.cell 2
              have k3 : W8.cell? ⟨w.heap.size + 1, 3, none⟩ = some (.int .i64 x.log) := HA8.out.bx.cell 3
              have k4 : W8.cell? ⟨w.heap.size + 1, 4, none⟩ = some (.int .u64 (x.seq : Int)) := HA8.out.bx.cell 4
              obtain ⟨z0, z1, z2, z3⟩ := look HZB.out
              go_cut [150] (fun v wx => v = .bool (back y.t x.e || !b3) ∧ Below W8.heap.size W8 wx)
              case first =>
                by_cases a0 : x.next = 0
                · have n0 : (x.next != 0) = false := by rw [bne_eq_false_iff_eq]; omega
                  by_cases a1 : x.log = 0
                  · have n1 : (x.log != 0) = false := by rw [bne_eq_false_iff_eq]; omega
                    by_cases a2 : x.seq = 0
                    · have n2 : ((x.seq : Int) != 0) = false := by rw [bne_eq_false_iff_eq]; omega
                      have s2 : (x.seq != 0) = false := by rw [bne_eq_false_iff_eq]; exact a2
                      have HBK : Hid (back y.t x.e = false) := Lib.hid (by
                        cases hb : back y.t x.e
                        · rfl
                        · unfold back at hb
                          simp only [Bool.or_eq_true, decide_eq_true_eq] at hb
                          have e1 : x.e.next = x.next := rfl
                          have e2 : x.e.log = x.log := rfl
                          have e3 : x.e.seq = x.seq := rfl
                          have e4 : y.t.next = y.next := rfl
                          have e5 : y.t.log = y.log := rfl
                          have e6 : y.t.seq = y.seq := rfl
                          rw [e1, e2, e3, e4, e5, e6] at hb
                          omega)
                      clear a0 a1 a2
                      go_wp2_with fail
                      refine HRZ.out.mono ?_
                      rintro e W9 ⟨rfl, hw9⟩
                      have HW9 := Lib.hid hw9
                      clear hw9
                      go_wp2_with fail
                      go_meet
                      exact ⟨by rw [HBK.out]; cases b3 <;> rfl, HW9.out⟩
                    · have n2 : ((x.seq : Int) != 0) = true := by rw [bne_iff_ne]; omega
                      have s2 : (x.seq != 0) = true := by rw [bne_iff_ne]; exact a2
                      by_cases l2 : x.seq < y.seq
                      · have m2 : decide ((x.seq : Int) < (y.seq : Int)) = true := decide_eq_true (by omega)
                        have r2 : decide (x.seq < y.seq) = true := decide_eq_true l2
                        have HBK : Hid (back y.t x.e = true) := Lib.hid (by unfold back; simp only [Bool.or_eq_true, decide_eq_true_eq]; exact .inr (.inr ⟨a2, l2⟩))
                        clear a0 a1 a2 l2
                        go_wp2_with fail
                        go_meet
                        exact ⟨by rw [HBK.out]; rfl, Below.refl _ _⟩
                      · have m2 : decide ((x.seq : Int) < (y.seq : Int)) = false := decide_eq_false (by omega)
                        have r2 : decide (x.seq < y.seq) = false := decide_eq_false l2
                        have HBK : Hid (back y.t x.e = false) := Lib.hid (by
                          cases hb : back y.t x.e
                          · rfl
                          · unfold back at hb
                            simp only [Bool.or_eq_true, decide_eq_true_eq] at hb
                            have e1 : x.e.next = x.next := rfl
                            have e2 : x.e.log = x.log := rfl
                            have e3 : x.e.seq = x.seq := rfl
                            have e4 : y.t.next = y.next := rfl
                            have e5 : y.t.log = y.log := rfl
                            have e6 : y.t.seq = y.seq := rfl
                            rw [e1, e2, e3, e4, e5, e6] at hb
                            omega)
                        clear a0 a1 a2 l2
                        go_wp2_with fail
                        refine HRZ.out.mono ?_
                        rintro e W9 ⟨rfl, hw9⟩
                        have HW9 := Lib.hid hw9
                        clear hw9
                        go_wp2_with fail
                        go_meet
                        exact ⟨by rw [HBK.out]; cases b3 <;> rfl, HW9.out⟩
                  · have n1 : (x.log != 0) = true := by rw [bne_iff_ne]; omega
                    by_cases l1 : x.log < y.log
                    · have m1 : decide (x.log < y.log) = true := decide_eq_true (by omega)
                      have HBK : Hid (back y.t x.e = true) := Lib.hid (by unfold back; simp only [Bool.or_eq_true, decide_eq_true_eq]; exact .inr (.inl ⟨a1, l1⟩))
                      clear a0 a1 l1
                      go_wp2_with fail
                      go_meet
                      exact ⟨by rw [HBK.out]; rfl, Below.refl _ _⟩
                    · have m1 : decide (x.log < y.log) = false := decide_eq_false (by omega)
                      by_cases a2 : x.seq = 0
                      · have n2 : ((x.seq : Int) != 0) = false := by rw [bne_eq_false_iff_eq]; omega
                        have s2 : (x.seq != 0) = false := by rw [bne_eq_false_iff_eq]; exact a2
                        have HBK : Hid (back y.t x.e = false) := Lib.hid (by
                          cases hb : back y.t x.e
                          · rfl
                          · unfold back at hb
                            simp only [Bool.or_eq_true, decide_eq_true_eq] at hb
                            have e1 : x.e.next = x.next := rfl
                            have e2 : x.e.log = x.log := rfl
                            have e3 : x.e.seq = x.seq := rfl
                            have e4 : y.t.next = y.next := rfl
                            have e5 : y.t.log = y.log := rfl
                            have e6 : y.t.seq = y.seq := rfl
                            rw [e1, e2, e3, e4, e5, e6] at hb
                            omega)
                        clear a0 a1 l1 a2
                        go_wp2_with fail
                        refine HRZ.out.mono ?_
                        rintro e W9 ⟨rfl, hw9⟩
                        have HW9 := Lib.hid hw9
                        clear hw9
                        go_wp2_with fail
                        go_meet
                        exact ⟨by rw [HBK.out]; cases b3 <;> rfl, HW9.out⟩
                      · have n2 : ((x.seq : Int) != 0) = true := by rw [bne_iff_ne]; omega
                        have s2 : (x.seq != 0) = true := by rw [bne_iff_ne]; exact a2
                        by_cases l2 : x.seq < y.seq
                        · have m2 : decide ((x.seq : Int) < (y.seq : Int)) = true := decide_eq_true (by omega)
                          have r2 : decide (x.seq < y.seq) = true := decide_eq_true l2
                          have HBK : Hid (back y.t x.e = true) := Lib.hid (by unfold back; simp only [Bool.or_eq_true, decide_eq_true_eq]; exact .inr (.inr ⟨a2, l2⟩))
                          clear a0 a1 l1 a2 l2
                          go_wp2_with fail
                          go_meet
                          exact ⟨by rw [HBK.out]; rfl, Below.refl _ _⟩
                        · have m2 : decide ((x.seq : Int) < (y.seq : Int)) = false := decide_eq_false (by omega)
                          have r2 : decide (x.seq < y.seq) = false := decide_eq_false l2
                          have HBK : Hid (back y.t x.e = false) := Lib.hid (by
                            cases hb : back y.t x.e
                            · rfl
                            · unfold back at hb
                              simp only [Bool.or_eq_true, decide_eq_true_eq] at hb
                              have e1 : x.e.next = x.next := rfl
                              have e2 : x.e.log = x.log := rfl
                              have e3 : x.e.seq = x.seq := rfl
                              have e4 : y.t.next = y.next := rfl
                              have e5 : y.t.log = y.log := rfl
                              have e6 : y.t.seq = y.seq := rfl
                              rw [e1, e2, e3, e4, e5, e6] at hb
                              omega)
                          clear a0 a1 l1 a2 l2
                          go_wp2_with fail
                          refine HRZ.out.mono ?_
                          rintro e W9 ⟨rfl, hw9⟩
                          have HW9 := Lib.hid hw9
                          clear hw9
                          go_wp2_with fail
                          go_meet
                          exact ⟨by rw [HBK.out]; cases b3 <;> rfl, HW9.out⟩
                · have n0 : (x.next != 0) = true := by rw [bne_iff_ne]; omega
                  by_cases l0 : x.next < y.next
                  · have m0 : decide (x.next < y.next) = true := decide_eq_true (by omega)
                    have HBK : Hid (back y.t x.e = true) := Lib.hid (by unfold back; simp only [Bool.or_eq_true, decide_eq_true_eq]; exact .inl ⟨a0, l0⟩)
                    clear a0 l0
                    go_wp2_with fail
                    go_meet
                    exact ⟨by rw [HBK.out]; rfl, Below.refl _ _⟩
                  · have m0 : decide (x.next < y.next) = false := decide_eq_false (by omega)
                    by_cases a1 : x.log = 0
                    · have n1 : (x.log != 0) = false := by rw [bne_eq_false_iff_eq]; omega
                      by_cases a2 : x.seq = 0
                      · have n2 : ((x.seq : Int) != 0) = false := by rw [bne_eq_false_iff_eq]; omega
                        have s2 : (x.seq != 0) = false := by rw [bne_eq_false_iff_eq]; exact a2
                        have HBK : Hid (back y.t x.e = false) := Lib.hid (by
                          cases hb : back y.t x.e
                          · rfl
                          · unfold back at hb
                            simp only [Bool.or_eq_true, decide_eq_true_eq] at hb
                            have e1 : x.e.next = x.next := rfl
                            have e2 : x.e.log = x.log := rfl
                            have e3 : x.e.seq = x.seq := rfl
                            have e4 : y.t.next = y.next := rfl
                            have e5 : y.t.log = y.log := rfl
                            have e6 : y.t.seq = y.seq := rfl
                            rw [e1, e2, e3, e4, e5, e6] at hb
                            omega)
                        clear a0 l0 a1 a2
                        go_wp2_with fail
                        refine HRZ.out.mono ?_
                        rintro e W9 ⟨rfl, hw9⟩
                        have HW9 := Lib.hid hw9
                        clear hw9
                        go_wp2_with fail
                        go_meet
                        exact ⟨by rw [HBK.out]; cases b3 <;> rfl, HW9.out⟩
                      · have n2 : ((x.seq : Int) != 0) = true := by rw [bne_iff_ne]; omega
                        have s2 : (x.seq != 0) = true := by rw [bne_iff_ne]; exact a2
                        by_cases l2 : x.seq < y.seq
                        · have m2 : decide ((x.seq : Int) < (y.seq : Int)) = true := decide_eq_true (by omega)
                          have r2 : decide (x.seq < y.seq) = true := decide_eq_true l2
                          have HBK : Hid (back y.t x.e = true) := Lib.hid (by unfold back; simp only [Bool.or_eq_true, decide_eq_true_eq]; exact .inr (.inr ⟨a2, l2⟩))
                          clear a0 l0 a1 a2 l2
                          go_wp2_with fail
                          go_meet
                          exact ⟨by rw [HBK.out]; rfl, Below.refl _ _⟩
                        · have m2 : decide ((x.seq : Int) < (y.seq : Int)) = false := decide_eq_false (by omega)
                          have r2 : decide (x.seq < y.seq) = false := decide_eq_false l2
                          have HBK : Hid (back y.t x.e = false) := Lib.hid (by
                            cases hb : back y.t x.e
                            · rfl
                            · unfold back at hb
                              simp only [Bool.or_eq_true, decide_eq_true_eq] at hb
                              have e1 : x.e.next = x.next := rfl
                              have e2 : x.e.log = x.log := rfl
                              have e3 : x.e.seq = x.seq := rfl
                              have e4 : y.t.next = y.next := rfl
                              have e5 : y.t.log = y.log := rfl
                              have e6 : y.t.seq = y.seq := rfl
                              rw [e1, e2, e3, e4, e5, e6] at hb
                              omega)
                          clear a0 l0 a1 a2 l2
                          go_wp2_with fail
                          refine HRZ.out.mono ?_
                          rintro e W9 ⟨rfl, hw9⟩
                          have HW9 := Lib.hid hw9
                          clear hw9
                          go_wp2_with fail
                          go_meet
                          exact ⟨by rw [HBK.out]; cases b3 <;> rfl, HW9.out⟩
                    · have n1 : (x.log != 0) = true := by rw [bne_iff_ne]; omega
                      by_cases l1 : x.log < y.log
                      · have m1 : decide (x.log < y.log) = true := decide_eq_true (by omega)
                        have HBK : Hid (back y.t x.e = true) := Lib.hid (by unfold back; simp only [Bool.or_eq_true, decide_eq_true_eq]; exact .inr (.inl ⟨a1, l1⟩))
                        clear a0 l0 a1 l1
                        go_wp2_with fail
                        go_meet
                        exact ⟨by rw [HBK.out]; rfl, Below.refl _ _⟩
                      · have m1 : decide (x.log < y.log) = false := decide_eq_false (by omega)
                        by_cases a2 : x.seq = 0
                        · have n2 : ((x.seq : Int) != 0) = false := by rw [bne_eq_false_iff_eq]; omega
                          have s2 : (x.seq != 0) = false := by rw [bne_eq_false_iff_eq]; exact a2
                          have HBK : Hid (back y.t x.e = false) := Lib.hid (by
                            cases hb : back y.t x.e
                            · rfl
                            · unfold back at hb
                              simp only [Bool.or_eq_true, decide_eq_true_eq] at hb
                              have e1 : x.e.next = x.next := rfl
                              have e2 : x.e.log = x.log := rfl
                              have e3 : x.e.seq = x.seq := rfl
                              have e4 : y.t.next = y.next := rfl
                              have e5 : y.t.log = y.log := rfl
                              have e6 : y.t.seq = y.seq := rfl
                              rw [e1, e2, e3, e4, e5, e6] at hb
                              omega)
                          clear a0 l0 a1 l1 a2
                          go_wp2_with fail
                          refine HRZ.out.mono ?_
                          rintro e W9 ⟨rfl, hw9⟩
                          have HW9 := Lib.hid hw9
                          clear hw9
                          go_wp2_with fail
                          go_meet
                          exact ⟨by rw [HBK.out]; cases b3 <;> rfl, HW9.out⟩
                        · have n2 : ((x.seq : Int) != 0) = true := by rw [bne_iff_ne]; omega
                          have s2 : (x.seq != 0) = true := by rw [bne_iff_ne]; exact a2
                          by_cases l2 : x.seq < y.seq
                          · have m2 : decide ((x.seq : Int) < (y.seq : Int)) = true := decide_eq_true (by omega)
                            have r2 : decide (x.seq < y.seq) = true := decide_eq_true l2
                            have HBK : Hid (back y.t x.e = true) := Lib.hid (by unfold back; simp only [Bool.or_eq_true, decide_eq_true_eq]; exact .inr (.inr ⟨a2, l2⟩))
                            clear a0 l0 a1 l1 a2 l2
                            go_wp2_with fail
                            go_meet
                            exact ⟨by rw [HBK.out]; rfl, Below.refl _ _⟩
                          · have m2 : decide ((x.seq : Int) < (y.seq : Int)) = false := decide_eq_false (by omega)
                            have r2 : decide (x.seq < y.seq) = false := decide_eq_false l2
                            have HBK : Hid (back y.t x.e = false) := Lib.hid (by
                              cases hb : back y.t x.e
                              · rfl
                              · unfold back at hb
                                simp only [Bool.or_eq_true, decide_eq_true_eq] at hb
                                have e1 : x.e.next = x.next := rfl
                                have e2 : x.e.log = x.log := rfl
                                have e3 : x.e.seq = x.seq := rfl
                                have e4 : y.t.next = y.next := rfl
                                have e5 : y.t.log = y.log := rfl
                                have e6 : y.t.seq = y.seq := rfl
                                rw [e1, e2, e3, e4, e5, e6] at hb
                                omega)
                            clear a0 l0 a1 l1 a2 l2
                            go_wp2_with fail
                            refine HRZ.out.mono ?_
                            rintro e W9 ⟨rfl, hw9⟩
                            have HW9 := Lib.hid hw9
                            clear hw9
                            go_wp2_with fail
                            go_meet
                            exact ⟨by rw [HBK.out]; cases b3 <;> rfl, HW9.out⟩
              case rest =>
              obtain ⟨rfl, hw9⟩ := hcut
              have HA9 := Lib.hid (HA8.out.below hw9)
              have HZB9 := Lib.hid (HZB.out.below hw9 HZB.out.lt)
              have HZA9 := Lib.hid (HZA.out.below hw9)
              clear hw9 HA8 HZB HZA v0 v1 v2 v3 k0 k1 k2 k3 k4 z0 z1 z2 z3 HRZ
              rcases hbb : (back y.t x.e || !b3) with _ | _
              · have HT : Hid (applyV y.t x.e = (0, joinV y.t x.e low hig)) := Lib.hid (by
                  rw [HAP2.out, if_neg]
                  rw [← HZT.out, ← HB3.out]
                  rw [Bool.or_eq_false_iff] at hbb
                  rw [hbb.1]
                  intro h
                  rcases h with h | h
                  · cases h
                  · rw [h] at hbb; exact absurd hbb.2 (by decide))
                clear hbb
                have HZ := Lib.hid HA9.out.res
                go_wp2_with (first | (refine wpList_load_row rfl _ _ rfl g rfl _ #[.slice z.a z.runs.length z.c, .int .i64 z.next, .int .i64 z.log, .int .u64 (z.seq : Int)] (0, 0) _ HZB9.out Try.underlying44 rfl (by kernel_rfl) ?_) | (refine wpList_store_row rfl _ _ _ rfl (w.heap.size + 1 + 1) #[.slice z.a z.runs.length z.c, .int .i64 z.next, .int .i64 z.log, .int .u64 (z.seq : Int)] rfl rfl _ zeroV.toArray HZ.out (by kernel_rfl) rfl (by kernel_rfl) ?_))
                have hrz : Box (wc.setRow (w.heap.size + 1 + 1) #[.slice z.a z.runs.length z.c, .int .i64 z.next, .int .i64 z.log, .int .u64 (z.seq : Int)]) (w.heap.size + 1 + 1) 44 z.cells := setRow_heap _ _ _ _ _ _ HZ.out
                refine bodyPost_ret (results_box rfl Try.underlying44 (by kernel_rfl) _ rfl hrz) rfl ?_
                rw [HT.out]
                have hk := keep_setRow wc (w.heap.size + 1 + 1) #[.slice z.a z.runs.length z.c, .int .i64 z.next, .int .i64 z.log, .int .u64 (z.seq : Int)]
                exact ⟨z, rfl, HZT.out, ok_ac (HZA9.out.low hk fun k hk => by have := HSZ.out; omega) HZO.out, HA9.out.be.trans (hk.below HA9.out.be.size fun k hk => by omega)⟩
              · have HT : Hid (applyV y.t x.e = (10, noV)) := Lib.hid (by
                  rw [HAP2.out, if_pos]
                  rw [← HZT.out, ← HB3.out]
                  rw [Bool.or_eq_true] at hbb
                  rcases hbb with h | h
                  · exact .inl h
                  · right; cases b3
                    · rfl
                    · cases h)
                clear hbb
                have HN := Lib.hid HA9.out.non
                have HZ := Lib.hid HA9.out.res
                go_wp2_with (first | (refine wpList_load_row rfl _ _ rfl (w.heap.size + 1 + 1 + 1) rfl _ #[.slice none 0 0, .int .i64 0, .int .i64 0, .int .u64 0] (0, 0) _ HN.out Try.underlying44 rfl (by kernel_rfl) ?_) | (refine wpList_store_row rfl _ _ _ rfl (w.heap.size + 1 + 1) #[.slice none 0 0, .int .i64 0, .int .i64 0, .int .u64 0] rfl rfl _ zeroV.toArray HZ.out (by kernel_rfl) rfl (by kernel_rfl) ?_))
                have hrz : Box (wc.setRow (w.heap.size + 1 + 1) #[.slice none 0 0, .int .i64 0, .int .i64 0, .int .u64 0]) (w.heap.size + 1 + 1) 44 zeroV := setRow_heap _ _ _ _ _ _ HZ.out
                refine bodyPost_ret (results_box rfl Try.underlying44 (by kernel_rfl) _ rfl hrz) rfl ?_
                exact told_zero HA9.out HT.out _
            · have t4 : ((hig - (low : Int) + 1) != (x.drop.length : Int)) = true := by rw [bne_iff_ne]; exact h4
              have HT : Hid (applyV y.t x.e = (10, noV)) := Lib.hid (by rw [HAP.out, if_neg (by rw [HTW.out]; simp), hlY, hlA, show x.e.drop.length = x.drop.length from rfl, if_neg h3, if_pos h4])
              clear h3 h4
              have HN := Lib.hid HA5.out.non
              have HZ := Lib.hid HA5.out.res
              go_wp2_with (first | (refine wpList_load_row rfl _ _ rfl (w.heap.size + 1 + 1 + 1) rfl _ #[.slice none 0 0, .int .i64 0, .int .i64 0, .int .u64 0] (0, 0) _ HN.out Try.underlying44 rfl (by kernel_rfl) ?_) | (refine wpList_store_row rfl _ _ _ rfl (w.heap.size + 1 + 1) #[.slice none 0 0, .int .i64 0, .int .i64 0, .int .u64 0] rfl rfl _ zeroV.toArray HZ.out (by kernel_rfl) rfl (by kernel_rfl) ?_))
              have hrz : Box (wr.setRow (w.heap.size + 1 + 1) #[.slice none 0 0, .int .i64 0, .int .i64 0, .int .u64 0]) (w.heap.size + 1 + 1) 44 zeroV := setRow_heap _ _ _ _ _ _ HZ.out
              refine bodyPost_ret (results_box rfl Try.underlying44 (by kernel_rfl) _ rfl hrz) rfl ?_
              exact told_zero HA5.out HT.out _
end Go.Proofs.Ythhmjjmjicmhdaa.Ve
