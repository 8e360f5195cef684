/- Proved: for any version and any edit, VersionApplies of butterylaw17 answers true (Apply, Right and Live of package version agree with the definition), and its arguments read as before. Conditions: none beyond what the given row states. -/
import Derived.Test.YthhmjjmjicmhdaaVlw
import Derived.Test.YthhmjjmjicmhdaaVli2
namespace Go.Proofs.Ythhmjjmjicmhdaa.versionApplies
set_option linter.unusedVariables false
set_option linter.unusedSimpArgs false
open Go.ChangeShapes Go.WideShapes Go.ChangeAt Go.RowKit Lift Ed Ve Ik

theorem own : ownKnob Try.prog.godebug = none := by kernel_rfl

set_option maxRecDepth 100000 in
set_option maxHeartbeats 12800000 in
theorem walk (y : Y) (x : X) (w : World) (hy : y.Ok w w.heap.size) (hx : x.Ok w w.heap.size) : Calls Try.prog 7 #[y.v, x.v] w (Yes w) := by
  have HY := Lib.hid hy
  have HX := Lib.hid hx
  have hb0 := Joins.below_alloc2 w y.box x.box
  have b0 : Box ((w.alloc y.box).alloc x.box) w.heap.size 44 y.cells := (Box.new w 44 y.cells).alloc _
  have b1 : Box ((w.alloc y.box).alloc x.box) (w.heap.size + 1) 26 [.slice x.addA x.add.length x.addC, .slice x.dropA x.drop.length x.dropC, .int .i64 x.next, .int .i64 x.log, .int .u64 (x.seq : Int)] := by
    have h := Box.new (w.alloc y.box) 26 x.cells
    simp only [World.alloc, Array.size_push] at h
    exact h
  clear hy hx
  go_enter Try.func7, Try.ntmps7
  go_wp2_with fail
  refine (valive_any _).mono ?_
  rintro e W1 ⟨rfl, hb1⟩
  have HB1 := Lib.hid (hb0.trans (hb1.mono hb0.size))
  have HY1 := Lib.hid (HY.out.next HB1.out)
  have HX1 := Lib.hid (HX.out.next HB1.out)
  have BV1 := Lib.hid (b0.below hb1 b0.lt)
  have BE1 := Lib.hid (b1.below hb1 b1.lt)
  have HG := Lib.hid (bigv_any y W1 HY1.out)
  clear hb0 b0 b1 hb1
  go_wp2_with (first | (refine wpList_load_row rfl _ _ rfl w.heap.size rfl _ y.cells.toArray (0, 0) _ BV1.out Try.underlying44 rfl (by kernel_rfl) ?_) | (refine wpList_load_row rfl _ _ rfl (w.heap.size + 1) rfl _ #[.slice x.addA x.add.length x.addC, .slice x.dropA x.drop.length x.dropC, .int .i64 x.next, .int .i64 x.log, .int .u64 (x.seq : Int)] (0, 0) _ BE1.out Try.underlying26 rfl (by kernel_rfl) ?_))
  refine HG.out.mono ?_
  rintro e W2 ⟨rfl, hb2⟩
  have HB2 := Lib.hid (HB1.out.trans (hb2.mono HB1.out.size))
  have HY2 := Lib.hid (HY1.out.next hb2)
  have HX2 := Lib.hid (HX1.out.next hb2)
  have BV2 := Lib.hid (BV1.out.below hb2 BV1.out.lt)
  have BE2 := Lib.hid (BE1.out.below hb2 BE1.out.lt)
  obtain ⟨big, hbig⟩ : ∃ b, b = bigV y := ⟨_, rfl⟩
  rw [← hbig]
  have HBIG := Lib.hid hbig
  clear hb2 HB1 HY1 HX1 BV1 BE1 HG hbig
  rcases big with _ | _
  case true =>
    go_wp2_with fail
    go_ret
    exact ⟨rfl, HB2.out⟩
  case false =>
  have HG2 := Lib.hid (Ed.big_any x W2 HX2.out)
  obtain ⟨k0, k1, k2, k3, k4⟩ := box_look BE2.out
  go_wp2_with fail
  refine HG2.out.mono ?_
  rintro e W3 ⟨rfl, hb3⟩
  have HB3 := Lib.hid (HB2.out.trans (hb3.mono HB2.out.size))
  have HY3 := Lib.hid (HY2.out.next hb3)
  have HX3 := Lib.hid (HX2.out.next hb3)
  have BV3 := Lib.hid (BV2.out.below hb3 BV2.out.lt)
  have BE3 := Lib.hid (BE2.out.below hb3 BE2.out.lt)
  obtain ⟨big, hbig⟩ : ∃ b, b = bigX x := ⟨_, rfl⟩
  rw [← hbig]
  clear hb3 HB2 HY2 HX2 BV2 BE2 HG2 hbig k0 k1 k2 k3 k4
  rcases big with _ | _
  case true =>
    go_wp2_with fail
    go_ret
    exact ⟨rfl, HB3.out⟩
  case false =>
  have hfew := (bigv_parts HBIG.out.symm).2
  have HA := Lib.hid (vapply_any y x W3 HY3.out HX3.out)
  go_wp2_with (first | (refine wpList_load_row rfl _ _ rfl w.heap.size rfl _ y.cells.toArray (0, 0) _ BV3.out Try.underlying44 rfl (by kernel_rfl) ?_) | (refine wpList_load_row rfl _ _ rfl (w.heap.size + 1) rfl _ #[.slice x.addA x.add.length x.addC, .slice x.dropA x.drop.length x.dropC, .int .i64 x.next, .int .i64 x.log, .int .u64 (x.seq : Int)] (0, 0) _ BE3.out Try.underlying26 rfl (by kernel_rfl) ?_))
  refine HA.out.mono ?_
  rintro e W4 ⟨a, rfl, hat, hao, hb4⟩
  have hba := Joins.below_alloc1 W4 a.box
  have h5 := hb4.trans (hba.mono hb4.size)
  have HB5 := Lib.hid (HB3.out.trans (h5.mono HB3.out.size))
  have HY5 := Lib.hid (HY3.out.next h5)
  have HX5 := Lib.hid (HX3.out.next h5)
  have BV5 := Lib.hid (BV3.out.below h5 BV3.out.lt)
  have BE5 := Lib.hid (BE3.out.below h5 BE3.out.lt)
  have BA5 := Lib.hid (Box.new W4 44 a.cells)
  have HA5 := Lib.hid (hao.next hba)
  have HAT := Lib.hid hat
  clear hat hao hb4 hba h5 HB3 HY3 HX3 BV3 BE3 HA
  go_upto_region 6 with fail
  generalize hW5 : W4.alloc a.box = W5 at *
  generalize hg : W4.heap.size = g at *
  clear hW5 hg
  have HR := Lib.hid (rapply_any y x W5 HY5.out HX5.out)
  go_wp2_with (first | (refine wpList_load_row rfl _ _ rfl w.heap.size rfl _ y.cells.toArray (0, 0) _ BV5.out Try.underlying44 rfl (by kernel_rfl) ?_) | (refine wpList_load_row rfl _ _ rfl (w.heap.size + 1) rfl _ #[.slice x.addA x.add.length x.addC, .slice x.dropA x.drop.length x.dropC, .int .i64 x.next, .int .i64 x.log, .int .u64 (x.seq : Int)] (0, 0) _ BE5.out Try.underlying26 rfl (by kernel_rfl) ?_))
  refine HR.out.mono ?_
  rintro e W7 ⟨b, rfl, hbt, hbo, hb7⟩
  have hba := Joins.below_alloc1 W7 b.box
  have h6 := hb7.trans (hba.mono hb7.size)
  have H6 := Lib.hid (HB5.out.trans (h6.mono HB5.out.size))
  have HV6 := Lib.hid (HY5.out.next h6)
  have BV := Lib.hid (BV5.out.below h6 BV5.out.lt)
  have BX := Lib.hid (BA5.out.below h6 BA5.out.lt)
  have BY := Lib.hid (Box.new W7 44 b.cells)
  have HX6 := Lib.hid (HA5.out.next h6)
  have HY6 := Lib.hid (hbo.next hba)
  have HE : Hid (a.t = b.t) := Lib.hid (HAT.out.trans hbt.symm)
  have HSM : Hid (a.runs.length ≤ 1000000) := Lib.hid (by
    have h1 := congrArg (fun v : V => v.runs.length) HAT.out
    have h2 : a.t.runs.length = a.runs.length := by unfold Y.t; simp
    have h3 := apply_few y.t x.e
    change a.t.runs.length = (applyV y.t x.e).2.runs.length at h1
    omega)
  obtain ⟨er, her⟩ : ∃ er, er = (applyV y.t x.e).1 := ⟨_, rfl⟩
  rw [← her]
  have HER := Lib.hid her
  obtain ⟨rb, hrb⟩ : ∃ b, b = rightV y.t := ⟨_, rfl⟩
  have HRB := Lib.hid hrb
  obtain ⟨Z, hZ⟩ : ∃ Z, Z = liveV y.t := ⟨_, rfl⟩
  have HZ := Lib.hid hZ
  have HZL : Hid (Z.length ≤ 1000000) := Lib.hid (by
    rw [hZ]; exact Nat.le_trans (live_len _) (by unfold fileL Y.t; rw [List.length_append, List.length_map, List.length_map]; split <;> simp <;> omega))
  clear hbt hbo hb7 hba h6 her hrb hZ HB5 HY5 HX5 BV5 BE5 BA5 HA5 HR
  go_upto_region 7 with fail
  generalize hW6 : W7.alloc b.box = W6 at *
  generalize hg7 : W7.heap.size = g7 at *
  clear hW6 hg7
  have e1 : (rb == rb) = true := by simp
  have e2 : ((er : Int) == (er : Int)) = true := by simp
  by_cases h0 : er = 0
  · have HAR : Hid (rightV a.t = true) := Lib.hid (by rw [HAT.out]; exact apply_right (by rw [← HER.out]; exact h0))
    subst h0
    refine wp_region_held_drew (S := fun w' => Hid (Below W6.heap.size W6 w')) (by kernel_rfl) (Lib.hid (Below.refl _ _).drew) (fun hS => ?_)
    have HBV0 : Hid (Below W6.heap.size W6 W6.drew) := Lib.hid (Below.refl _ _).drew
    refine wpAnyH_take (i := 0) (v := ?_) rfl (by kernel_rfl) (by kernel_rfl) (by kernel_rfl) (fun _ _ _ h => h) (Or.inl ⟨by rfl, ?_⟩) hS ?_
    rotate_left
    · intro w hw
      have q := load_box (BX.out.below hw.out BX.out.lt)
      obtain ⟨k0, k1, k2, k3⟩ := Ve.look (BX.out.below hw.out BX.out.lt)
      go_simp
      try with_reducible rfl
    try simp only [Act.put, List.getElem_toArray, List.getElem_cons_succ, List.getElem_cons_zero, List.setIfInBounds_toArray, List.set_cons_zero, List.set_cons_succ]
    refine wpAnyH_take (i := 1) (v := ?_) rfl (by kernel_rfl) (by kernel_rfl) (by kernel_rfl) (fun _ _ _ h => h) (Or.inl ⟨by rfl, ?_⟩) hS ?_
    rotate_left
    · intro w hw
      have q := load_box (BY.out.below hw.out BY.out.lt)
      obtain ⟨k0, k1, k2, k3⟩ := Ve.look (BY.out.below hw.out BY.out.lt)
      go_simp
      try with_reducible rfl
    try simp only [Act.put, List.getElem_toArray, List.getElem_cons_succ, List.getElem_cons_zero, List.setIfInBounds_toArray, List.set_cons_zero, List.set_cons_succ]
    have HSE := Lib.hid (same_version (w := W6.drew) (HX6.out.next HBV0.out) (HY6.out.next HBV0.out) HE.out HSM.out)
    refine wpAnyH_ready (rs := [2]) (by kernel_rfl) (by simp) ?_
    refine (AllReadyH.cons rfl (fun K hK => ?_) AllReadyH.nil)
    go_simp
    refine (HSE.out).mono ?_
    rintro e V1 ⟨rfl, hb⟩
    have HBV1 : Hid (Below W6.heap.size W6 V1) := Lib.hid (HBV0.out.trans (hb.mono HBV0.out.size))
    refine hK.out _ _ HBV1 (fun hS => ?_)
    clear hK K hb
    try simp only [Act.put, List.getElem_toArray, List.getElem_cons_succ, List.getElem_cons_zero, List.setIfInBounds_toArray, List.set_cons_zero, List.set_cons_succ]
    refine wpAnyH_take (i := 3) (v := ?_) rfl (by kernel_rfl) (by kernel_rfl) (by kernel_rfl) (fun _ _ _ h => h) (Or.inl ⟨by rfl, ?_⟩) hS ?_
    rotate_left
    · intro w hw
      go_simp
      try with_reducible rfl
    try simp only [Act.put, List.getElem_toArray, List.getElem_cons_succ, List.getElem_cons_zero, List.setIfInBounds_toArray, List.set_cons_zero, List.set_cons_succ]
    refine wpAnyH_take (i := 4) (v := ?_) rfl (by kernel_rfl) (by kernel_rfl) (by kernel_rfl) (fun _ _ _ h => h) (Or.inl ⟨by rfl, ?_⟩) hS ?_
    rotate_left
    · intro w hw
      go_simp
      try with_reducible rfl
    try simp only [Act.put, List.getElem_toArray, List.getElem_cons_succ, List.getElem_cons_zero, List.setIfInBounds_toArray, List.set_cons_zero, List.set_cons_succ]
    refine wpAnyH_take (i := 6) (v := ?_) rfl (by kernel_rfl) (by kernel_rfl) (by kernel_rfl) (fun _ _ _ h => h) (Or.inl ⟨by rfl, ?_⟩) hS ?_
    rotate_left
    · intro w hw
      go_simp
      try with_reducible rfl
    try simp only [Act.put, List.getElem_toArray, List.getElem_cons_succ, List.getElem_cons_zero, List.setIfInBounds_toArray, List.set_cons_zero, List.set_cons_succ]
    refine wpAnyH_ready (rs := [5]) (by kernel_rfl) (by simp) ?_
    refine (AllReadyH.cons rfl (fun K hK => ?_) AllReadyH.nil)
    go_simp
    refine (vnum_any _ _).mono ?_
    rintro e w' ⟨rfl, rfl⟩
    refine hK.out _ _ HBV1 (fun hS => ?_)
    clear hK K
    try simp only [Act.put, List.getElem_toArray, List.getElem_cons_succ, List.getElem_cons_zero, List.setIfInBounds_toArray, List.set_cons_zero, List.set_cons_succ]
    refine wpAnyH_take (i := 7) (v := ?_) rfl (by kernel_rfl) (by kernel_rfl) (by kernel_rfl) (fun _ _ _ h => h) (Or.inl ⟨by rfl, ?_⟩) hS ?_
    rotate_left
    · intro w hw
      go_simp
      try with_reducible rfl
    try simp only [Act.put, List.getElem_toArray, List.getElem_cons_succ, List.getElem_cons_zero, List.setIfInBounds_toArray, List.set_cons_zero, List.set_cons_succ]
    refine wpAnyH_take (i := 8) (v := ?_) rfl (by kernel_rfl) (by kernel_rfl) (by kernel_rfl) (fun _ _ _ h => h) (Or.inl ⟨by rfl, ?_⟩) hS ?_
    rotate_left
    · intro w hw
      go_simp
      try with_reducible rfl
    try simp only [Act.put, List.getElem_toArray, List.getElem_cons_succ, List.getElem_cons_zero, List.setIfInBounds_toArray, List.set_cons_zero, List.set_cons_succ]
    refine wpAnyH_take (i := 9) (v := ?_) rfl (by kernel_rfl) (by kernel_rfl) (by kernel_rfl) (fun _ _ _ h => h) (Or.inl ⟨by rfl, ?_⟩) hS ?_
    rotate_left
    · intro w hw
      go_simp
      try with_reducible rfl
    try simp only [Act.put, List.getElem_toArray, List.getElem_cons_succ, List.getElem_cons_zero, List.setIfInBounds_toArray, List.set_cons_zero, List.set_cons_succ]
    refine wpAnyH_take (i := 10) (v := ?_) rfl (by kernel_rfl) (by kernel_rfl) (by kernel_rfl) (fun _ _ _ h => h) (Or.inl ⟨by rfl, ?_⟩) hS ?_
    rotate_left
    · intro w hw
      have q := load_box (BV.out.below hw.out BV.out.lt)
      obtain ⟨k0, k1, k2, k3⟩ := Ve.look (BV.out.below hw.out BV.out.lt)
      go_simp
      try with_reducible rfl
    try simp only [Act.put, List.getElem_toArray, List.getElem_cons_succ, List.getElem_cons_zero, List.setIfInBounds_toArray, List.set_cons_zero, List.set_cons_succ]
    refine wpAnyH_take (i := 12) (v := ?_) rfl (by kernel_rfl) (by kernel_rfl) (by kernel_rfl) (fun _ _ _ h => h) (Or.inl ⟨by rfl, ?_⟩) hS ?_
    rotate_left
    · intro w hw
      have q := load_box (BV.out.below hw.out BV.out.lt)
      obtain ⟨k0, k1, k2, k3⟩ := Ve.look (BV.out.below hw.out BV.out.lt)
      go_simp
      try with_reducible rfl
    try simp only [Act.put, List.getElem_toArray, List.getElem_cons_succ, List.getElem_cons_zero, List.setIfInBounds_toArray, List.set_cons_zero, List.set_cons_succ]
    have HR1 := Lib.hid (vright_any y V1.heap.size V1 (HV6.out.next HBV1.out) (Nat.le_refl _))
    rw [← HRB.out] at HR1
    refine wpAnyH_ready (rs := [11]) (by kernel_rfl) (by simp) ?_
    refine (AllReadyH.cons rfl (fun K hK => ?_) AllReadyH.nil)
    go_simp
    refine (HR1.out).mono ?_
    rintro e V2 ⟨rfl, hb⟩
    have HBV2 : Hid (Below W6.heap.size W6 V2) := Lib.hid (HBV1.out.trans (hb.mono HBV1.out.size))
    refine hK.out _ _ HBV2 (fun hS => ?_)
    clear hK K hb
    try simp only [Act.put, List.getElem_toArray, List.getElem_cons_succ, List.getElem_cons_zero, List.setIfInBounds_toArray, List.set_cons_zero, List.set_cons_succ]
    have HR2 := Lib.hid (rrightv_any y V2.heap.size V2 (HV6.out.next HBV2.out) (Nat.le_refl _))
    rw [← HRB.out] at HR2
    refine wpAnyH_ready (rs := [13]) (by kernel_rfl) (by simp) ?_
    refine (AllReadyH.cons rfl (fun K hK => ?_) AllReadyH.nil)
    go_simp
    refine (HR2.out).mono ?_
    rintro e V3 ⟨rfl, hb⟩
    have HBV3 : Hid (Below W6.heap.size W6 V3) := Lib.hid (HBV2.out.trans (hb.mono HBV2.out.size))
    refine hK.out _ _ HBV3 (fun hS => ?_)
    clear hK K hb
    try simp only [Act.put, List.getElem_toArray, List.getElem_cons_succ, List.getElem_cons_zero, List.setIfInBounds_toArray, List.set_cons_zero, List.set_cons_succ]
    refine wpAnyH_take (i := 14) (v := ?_) rfl (by kernel_rfl) (by kernel_rfl) (by kernel_rfl) (fun _ _ _ h => h) (Or.inl ⟨by rfl, ?_⟩) hS ?_
    rotate_left
    · intro w hw
      go_simp
      try with_reducible rfl
    try simp only [Act.put, List.getElem_toArray, List.getElem_cons_succ, List.getElem_cons_zero, List.setIfInBounds_toArray, List.set_cons_zero, List.set_cons_succ]
    refine wpAnyH_take (i := 15) (v := ?_) rfl (by kernel_rfl) (by kernel_rfl) (by kernel_rfl) (fun _ _ _ h => h) (Or.inl ⟨by rfl, ?_⟩) hS ?_
    rotate_left
    · intro w hw
      go_simp
      try with_reducible rfl
    try simp only [Act.put, List.getElem_toArray, List.getElem_cons_succ, List.getElem_cons_zero, List.setIfInBounds_toArray, List.set_cons_zero, List.set_cons_succ]
    refine wpAnyH_take (i := 16) (v := ?_) rfl (by kernel_rfl) (by kernel_rfl) (by kernel_rfl) (fun _ _ _ h => h) (Or.inl ⟨by rfl, ?_⟩) hS ?_
    rotate_left
    · intro w hw
      go_simp
      try with_reducible rfl
    try simp only [Act.put, List.getElem_toArray, List.getElem_cons_succ, List.getElem_cons_zero, List.setIfInBounds_toArray, List.set_cons_zero, List.set_cons_succ]
    refine wpAnyH_take (i := 17) (v := ?_) rfl (by kernel_rfl) (by kernel_rfl) (by kernel_rfl) (fun _ _ _ h => h) (Or.inl ⟨by rfl, ?_⟩) hS ?_
    rotate_left
    · intro w hw
      go_simp
      try with_reducible rfl
    try simp only [Act.put, List.getElem_toArray, List.getElem_cons_succ, List.getElem_cons_zero, List.setIfInBounds_toArray, List.set_cons_zero, List.set_cons_succ]
    refine wpAnyH_take (i := 18) (v := ?_) rfl (by kernel_rfl) (by kernel_rfl) (by kernel_rfl) (fun _ _ _ h => h) (Or.inl ⟨by rfl, ?_⟩) hS ?_
    rotate_left
    · intro w hw
      go_simp
      try with_reducible rfl
    try simp only [Act.put, List.getElem_toArray, List.getElem_cons_succ, List.getElem_cons_zero, List.setIfInBounds_toArray, List.set_cons_zero, List.set_cons_succ]
    refine wpAnyH_take (i := 19) (v := ?_) rfl (by kernel_rfl) (by kernel_rfl) (by kernel_rfl) (fun _ _ _ h => h) (Or.inl ⟨by rfl, ?_⟩) hS ?_
    rotate_left
    · intro w hw
      go_simp
      try with_reducible rfl
    try simp only [Act.put, List.getElem_toArray, List.getElem_cons_succ, List.getElem_cons_zero, List.setIfInBounds_toArray, List.set_cons_zero, List.set_cons_succ]
    refine wpAnyH_take (i := 20) (v := ?_) rfl (by kernel_rfl) (by kernel_rfl) (by kernel_rfl) (fun _ _ _ h => h) (Or.inl ⟨by rfl, ?_⟩) hS ?_
    rotate_left
    · intro w hw
      have q := load_box (BX.out.below hw.out BX.out.lt)
      obtain ⟨k0, k1, k2, k3⟩ := Ve.look (BX.out.below hw.out BX.out.lt)
      go_simp
      try with_reducible rfl
    try simp only [Act.put, List.getElem_toArray, List.getElem_cons_succ, List.getElem_cons_zero, List.setIfInBounds_toArray, List.set_cons_zero, List.set_cons_succ]
    have HR3 := Lib.hid (vright_any a V3.heap.size V3 (HX6.out.next HBV3.out) (Nat.le_refl _))
    rw [HAR.out] at HR3
    refine wpAnyH_ready (rs := [21]) (by kernel_rfl) (by simp) ?_
    refine (AllReadyH.cons rfl (fun K hK => ?_) AllReadyH.nil)
    go_simp
    refine (HR3.out).mono ?_
    rintro e V4 ⟨rfl, hb⟩
    have HBV4 : Hid (Below W6.heap.size W6 V4) := Lib.hid (HBV3.out.trans (hb.mono HBV3.out.size))
    refine hK.out _ _ HBV4 (fun hS => ?_)
    clear hK K hb
    try simp only [Act.put, List.getElem_toArray, List.getElem_cons_succ, List.getElem_cons_zero, List.setIfInBounds_toArray, List.set_cons_zero, List.set_cons_succ]
    refine wpAnyH_take (i := 22) (v := ?_) rfl (by kernel_rfl) (by kernel_rfl) (by kernel_rfl) (fun _ _ _ h => h) (Or.inl ⟨by rfl, ?_⟩) hS ?_
    rotate_left
    · intro w hw
      go_simp
      try with_reducible rfl
    try simp only [Act.put, List.getElem_toArray, List.getElem_cons_succ, List.getElem_cons_zero, List.setIfInBounds_toArray, List.set_cons_zero, List.set_cons_succ]
    refine wpAnyH_take (i := 23) (v := ?_) rfl (by kernel_rfl) (by kernel_rfl) (by kernel_rfl) (fun _ _ _ h => h) (Or.inl ⟨by rfl, ?_⟩) hS ?_
    rotate_left
    · intro w hw
      go_simp
      try with_reducible rfl
    try simp only [Act.put, List.getElem_toArray, List.getElem_cons_succ, List.getElem_cons_zero, List.setIfInBounds_toArray, List.set_cons_zero, List.set_cons_succ]
    refine wpAnyH_take (i := 24) (v := ?_) rfl (by kernel_rfl) (by kernel_rfl) (by kernel_rfl) (fun _ _ _ h => h) (Or.inl ⟨by rfl, ?_⟩) hS ?_
    rotate_left
    · intro w hw
      go_simp
      try with_reducible rfl
    try simp only [Act.put, List.getElem_toArray, List.getElem_cons_succ, List.getElem_cons_zero, List.setIfInBounds_toArray, List.set_cons_zero, List.set_cons_succ]
    refine wpAnyH_take (i := 25) (v := ?_) rfl (by kernel_rfl) (by kernel_rfl) (by kernel_rfl) (fun _ _ _ h => h) (Or.inl ⟨by rfl, ?_⟩) hS ?_
    rotate_left
    · intro w hw
      have q := load_box (BV.out.below hw.out BV.out.lt)
      obtain ⟨k0, k1, k2, k3⟩ := Ve.look (BV.out.below hw.out BV.out.lt)
      go_simp
      try with_reducible rfl
    try simp only [Act.put, List.getElem_toArray, List.getElem_cons_succ, List.getElem_cons_zero, List.setIfInBounds_toArray, List.set_cons_zero, List.set_cons_succ]
    refine wpAnyH_take (i := 27) (v := ?_) rfl (by kernel_rfl) (by kernel_rfl) (by kernel_rfl) (fun _ _ _ h => h) (Or.inl ⟨by rfl, ?_⟩) hS ?_
    rotate_left
    · intro w hw
      have q := load_box (BV.out.below hw.out BV.out.lt)
      obtain ⟨k0, k1, k2, k3⟩ := Ve.look (BV.out.below hw.out BV.out.lt)
      go_simp
      try with_reducible rfl
    try simp only [Act.put, List.getElem_toArray, List.getElem_cons_succ, List.getElem_cons_zero, List.setIfInBounds_toArray, List.set_cons_zero, List.set_cons_succ]
    have HL1 := Lib.hid (vlive_any y V4 (HV6.out.next HBV4.out) (by omega))
    rw [← HZ.out] at HL1
    refine wpAnyH_ready (rs := [26]) (by kernel_rfl) (by simp) ?_
    refine (AllReadyH.cons rfl (fun K hK => ?_) AllReadyH.nil)
    go_simp
    refine HL1.out.mono ?_
    rintro e V5 ⟨A5, c5, rfl, ho5, hb⟩
    have HBV5 : Hid (Below W6.heap.size W6 V5) := Lib.hid (HBV4.out.trans (hb.mono HBV4.out.size))
    have HL5 := Lib.hid (Lies.of_own ho5)
    refine hK.out _ _ HBV5 (fun hS => ?_)
    clear hK K hb ho5
    try simp only [Act.put, List.getElem_toArray, List.getElem_cons_succ, List.getElem_cons_zero, List.setIfInBounds_toArray, List.set_cons_zero, List.set_cons_succ]
    have HL2 := Lib.hid (rlive_any y V5 (HV6.out.next HBV5.out) (by omega))
    rw [← HZ.out] at HL2
    refine wpAnyH_ready (rs := [28]) (by kernel_rfl) (by simp) ?_
    refine (AllReadyH.cons rfl (fun K hK => ?_) AllReadyH.nil)
    go_simp
    refine HL2.out.mono ?_
    rintro e V6 ⟨A6, c6, rfl, ho6, hb⟩
    have HBV6 : Hid (Below W6.heap.size W6 V6) := Lib.hid (HBV5.out.trans (hb.mono HBV5.out.size))
    have HSI := Lib.hid (same_ints (c := c5) (c' := c6) (HL5.out.below hb) (Lies.of_own ho6) HZL.out)
    refine hK.out _ _ HBV6 (fun hS => ?_)
    clear hK K hb ho6
    try simp only [Act.put, List.getElem_toArray, List.getElem_cons_succ, List.getElem_cons_zero, List.setIfInBounds_toArray, List.set_cons_zero, List.set_cons_succ]
    skip
    refine wpAnyH_ready (rs := [29]) (by kernel_rfl) (by simp) ?_
    refine (AllReadyH.cons rfl (fun K hK => ?_) AllReadyH.nil)
    go_simp
    refine (HSI.out).mono ?_
    rintro e V7 ⟨rfl, hb⟩
    have HBV7 : Hid (Below W6.heap.size W6 V7) := Lib.hid (HBV6.out.trans (hb.mono HBV6.out.size))
    refine hK.out _ _ HBV7 (fun hS => ?_)
    clear hK K hb
    try simp only [Act.put, List.getElem_toArray, List.getElem_cons_succ, List.getElem_cons_zero, List.setIfInBounds_toArray, List.set_cons_zero, List.set_cons_succ]
    refine wpAnyH_take (i := 30) (v := ?_) rfl (by kernel_rfl) (by kernel_rfl) (by kernel_rfl) (fun _ _ _ h => h) (Or.inl ⟨by rfl, ?_⟩) hS ?_
    rotate_left
    · intro w hw
      go_simp
      try with_reducible rfl
    try simp only [Act.put, List.getElem_toArray, List.getElem_cons_succ, List.getElem_cons_zero, List.setIfInBounds_toArray, List.set_cons_zero, List.set_cons_succ]
    refine wpAnyH_take (i := 31) (v := ?_) rfl (by kernel_rfl) (by kernel_rfl) (by kernel_rfl) (fun _ _ _ h => h) (Or.inl ⟨by rfl, ?_⟩) hS ?_
    rotate_left
    · intro w hw
      go_simp
      try with_reducible rfl
    try simp only [Act.put, List.getElem_toArray, List.getElem_cons_succ, List.getElem_cons_zero, List.setIfInBounds_toArray, List.set_cons_zero, List.set_cons_succ]
    refine wpAnyH_done (by kernel_rfl) ?_ _
    go_wp2_with fail
    go_ret
    exact ⟨rfl, H6.out.trans (HBV7.out.mono H6.out.size)⟩
  · have t1 : ((er : Int) != 0) = true := by rw [bne_iff_ne]; omega
    clear h0
    refine wp_region_held_drew (S := fun w' => Hid (Below W6.heap.size W6 w')) (by kernel_rfl) (Lib.hid (Below.refl _ _).drew) (fun hS => ?_)
    have HBV0 : Hid (Below W6.heap.size W6 W6.drew) := Lib.hid (Below.refl _ _).drew
    refine wpAnyH_take (i := 0) (v := ?_) rfl (by kernel_rfl) (by kernel_rfl) (by kernel_rfl) (fun _ _ _ h => h) (Or.inl ⟨by rfl, ?_⟩) hS ?_
    rotate_left
    · intro w hw
      have q := load_box (BX.out.below hw.out BX.out.lt)
      obtain ⟨k0, k1, k2, k3⟩ := Ve.look (BX.out.below hw.out BX.out.lt)
      go_simp
      try with_reducible rfl
    try simp only [Act.put, List.getElem_toArray, List.getElem_cons_succ, List.getElem_cons_zero, List.setIfInBounds_toArray, List.set_cons_zero, List.set_cons_succ]
    refine wpAnyH_take (i := 1) (v := ?_) rfl (by kernel_rfl) (by kernel_rfl) (by kernel_rfl) (fun _ _ _ h => h) (Or.inl ⟨by rfl, ?_⟩) hS ?_
    rotate_left
    · intro w hw
      have q := load_box (BY.out.below hw.out BY.out.lt)
      obtain ⟨k0, k1, k2, k3⟩ := Ve.look (BY.out.below hw.out BY.out.lt)
      go_simp
      try with_reducible rfl
    try simp only [Act.put, List.getElem_toArray, List.getElem_cons_succ, List.getElem_cons_zero, List.setIfInBounds_toArray, List.set_cons_zero, List.set_cons_succ]
    have HSE := Lib.hid (same_version (w := W6.drew) (HX6.out.next HBV0.out) (HY6.out.next HBV0.out) HE.out HSM.out)
    refine wpAnyH_ready (rs := [2]) (by kernel_rfl) (by simp) ?_
    refine (AllReadyH.cons rfl (fun K hK => ?_) AllReadyH.nil)
    go_simp
    refine (HSE.out).mono ?_
    rintro e V1 ⟨rfl, hb⟩
    have HBV1 : Hid (Below W6.heap.size W6 V1) := Lib.hid (HBV0.out.trans (hb.mono HBV0.out.size))
    refine hK.out _ _ HBV1 (fun hS => ?_)
    clear hK K hb
    try simp only [Act.put, List.getElem_toArray, List.getElem_cons_succ, List.getElem_cons_zero, List.setIfInBounds_toArray, List.set_cons_zero, List.set_cons_succ]
    refine wpAnyH_take (i := 3) (v := ?_) rfl (by kernel_rfl) (by kernel_rfl) (by kernel_rfl) (fun _ _ _ h => h) (Or.inl ⟨by rfl, ?_⟩) hS ?_
    rotate_left
    · intro w hw
      go_simp
      try with_reducible rfl
    try simp only [Act.put, List.getElem_toArray, List.getElem_cons_succ, List.getElem_cons_zero, List.setIfInBounds_toArray, List.set_cons_zero, List.set_cons_succ]
    refine wpAnyH_take (i := 4) (v := ?_) rfl (by kernel_rfl) (by kernel_rfl) (by kernel_rfl) (fun _ _ _ h => h) (Or.inl ⟨by rfl, ?_⟩) hS ?_
    rotate_left
    · intro w hw
      go_simp
      try with_reducible rfl
    try simp only [Act.put, List.getElem_toArray, List.getElem_cons_succ, List.getElem_cons_zero, List.setIfInBounds_toArray, List.set_cons_zero, List.set_cons_succ]
    refine wpAnyH_take (i := 6) (v := ?_) rfl (by kernel_rfl) (by kernel_rfl) (by kernel_rfl) (fun _ _ _ h => h) (Or.inl ⟨by rfl, ?_⟩) hS ?_
    rotate_left
    · intro w hw
      go_simp
      try with_reducible rfl
    try simp only [Act.put, List.getElem_toArray, List.getElem_cons_succ, List.getElem_cons_zero, List.setIfInBounds_toArray, List.set_cons_zero, List.set_cons_succ]
    refine wpAnyH_ready (rs := [5]) (by kernel_rfl) (by simp) ?_
    refine (AllReadyH.cons rfl (fun K hK => ?_) AllReadyH.nil)
    go_simp
    refine (vnum_any _ _).mono ?_
    rintro e w' ⟨rfl, rfl⟩
    refine hK.out _ _ HBV1 (fun hS => ?_)
    clear hK K
    try simp only [Act.put, List.getElem_toArray, List.getElem_cons_succ, List.getElem_cons_zero, List.setIfInBounds_toArray, List.set_cons_zero, List.set_cons_succ]
    refine wpAnyH_take (i := 7) (v := ?_) rfl (by kernel_rfl) (by kernel_rfl) (by kernel_rfl) (fun _ _ _ h => h) (Or.inl ⟨by rfl, ?_⟩) hS ?_
    rotate_left
    · intro w hw
      go_simp
      try with_reducible rfl
    try simp only [Act.put, List.getElem_toArray, List.getElem_cons_succ, List.getElem_cons_zero, List.setIfInBounds_toArray, List.set_cons_zero, List.set_cons_succ]
    refine wpAnyH_take (i := 8) (v := ?_) rfl (by kernel_rfl) (by kernel_rfl) (by kernel_rfl) (fun _ _ _ h => h) (Or.inl ⟨by rfl, ?_⟩) hS ?_
    rotate_left
    · intro w hw
      go_simp
      try with_reducible rfl
    try simp only [Act.put, List.getElem_toArray, List.getElem_cons_succ, List.getElem_cons_zero, List.setIfInBounds_toArray, List.set_cons_zero, List.set_cons_succ]
    refine wpAnyH_take (i := 9) (v := ?_) rfl (by kernel_rfl) (by kernel_rfl) (by kernel_rfl) (fun _ _ _ h => h) (Or.inl ⟨by rfl, ?_⟩) hS ?_
    rotate_left
    · intro w hw
      go_simp
      try with_reducible rfl
    try simp only [Act.put, List.getElem_toArray, List.getElem_cons_succ, List.getElem_cons_zero, List.setIfInBounds_toArray, List.set_cons_zero, List.set_cons_succ]
    refine wpAnyH_take (i := 10) (v := ?_) rfl (by kernel_rfl) (by kernel_rfl) (by kernel_rfl) (fun _ _ _ h => h) (Or.inl ⟨by rfl, ?_⟩) hS ?_
    rotate_left
    · intro w hw
      have q := load_box (BV.out.below hw.out BV.out.lt)
      obtain ⟨k0, k1, k2, k3⟩ := Ve.look (BV.out.below hw.out BV.out.lt)
      go_simp
      try with_reducible rfl
    try simp only [Act.put, List.getElem_toArray, List.getElem_cons_succ, List.getElem_cons_zero, List.setIfInBounds_toArray, List.set_cons_zero, List.set_cons_succ]
    refine wpAnyH_take (i := 12) (v := ?_) rfl (by kernel_rfl) (by kernel_rfl) (by kernel_rfl) (fun _ _ _ h => h) (Or.inl ⟨by rfl, ?_⟩) hS ?_
    rotate_left
    · intro w hw
      have q := load_box (BV.out.below hw.out BV.out.lt)
      obtain ⟨k0, k1, k2, k3⟩ := Ve.look (BV.out.below hw.out BV.out.lt)
      go_simp
      try with_reducible rfl
    try simp only [Act.put, List.getElem_toArray, List.getElem_cons_succ, List.getElem_cons_zero, List.setIfInBounds_toArray, List.set_cons_zero, List.set_cons_succ]
    have HR1 := Lib.hid (vright_any y V1.heap.size V1 (HV6.out.next HBV1.out) (Nat.le_refl _))
    rw [← HRB.out] at HR1
    refine wpAnyH_ready (rs := [11]) (by kernel_rfl) (by simp) ?_
    refine (AllReadyH.cons rfl (fun K hK => ?_) AllReadyH.nil)
    go_simp
    refine (HR1.out).mono ?_
    rintro e V2 ⟨rfl, hb⟩
    have HBV2 : Hid (Below W6.heap.size W6 V2) := Lib.hid (HBV1.out.trans (hb.mono HBV1.out.size))
    refine hK.out _ _ HBV2 (fun hS => ?_)
    clear hK K hb
    try simp only [Act.put, List.getElem_toArray, List.getElem_cons_succ, List.getElem_cons_zero, List.setIfInBounds_toArray, List.set_cons_zero, List.set_cons_succ]
    have HR2 := Lib.hid (rrightv_any y V2.heap.size V2 (HV6.out.next HBV2.out) (Nat.le_refl _))
    rw [← HRB.out] at HR2
    refine wpAnyH_ready (rs := [13]) (by kernel_rfl) (by simp) ?_
    refine (AllReadyH.cons rfl (fun K hK => ?_) AllReadyH.nil)
    go_simp
    refine (HR2.out).mono ?_
    rintro e V3 ⟨rfl, hb⟩
    have HBV3 : Hid (Below W6.heap.size W6 V3) := Lib.hid (HBV2.out.trans (hb.mono HBV2.out.size))
    refine hK.out _ _ HBV3 (fun hS => ?_)
    clear hK K hb
    try simp only [Act.put, List.getElem_toArray, List.getElem_cons_succ, List.getElem_cons_zero, List.setIfInBounds_toArray, List.set_cons_zero, List.set_cons_succ]
    refine wpAnyH_take (i := 14) (v := ?_) rfl (by kernel_rfl) (by kernel_rfl) (by kernel_rfl) (fun _ _ _ h => h) (Or.inl ⟨by rfl, ?_⟩) hS ?_
    rotate_left
    · intro w hw
      go_simp
      try with_reducible rfl
    try simp only [Act.put, List.getElem_toArray, List.getElem_cons_succ, List.getElem_cons_zero, List.setIfInBounds_toArray, List.set_cons_zero, List.set_cons_succ]
    refine wpAnyH_take (i := 15) (v := ?_) rfl (by kernel_rfl) (by kernel_rfl) (by kernel_rfl) (fun _ _ _ h => h) (Or.inl ⟨by rfl, ?_⟩) hS ?_
    rotate_left
    · intro w hw
      go_simp
      try with_reducible rfl
    try simp only [Act.put, List.getElem_toArray, List.getElem_cons_succ, List.getElem_cons_zero, List.setIfInBounds_toArray, List.set_cons_zero, List.set_cons_succ]
    refine wpAnyH_take (i := 16) (v := ?_) rfl (by kernel_rfl) (by kernel_rfl) (by kernel_rfl) (fun _ _ _ h => h) (Or.inl ⟨by rfl, ?_⟩) hS ?_
    rotate_left
    · intro w hw
      go_simp
      try with_reducible rfl
    try simp only [Act.put, List.getElem_toArray, List.getElem_cons_succ, List.getElem_cons_zero, List.setIfInBounds_toArray, List.set_cons_zero, List.set_cons_succ]
    refine wpAnyH_take (i := 17) (v := ?_) rfl (by kernel_rfl) (by kernel_rfl) (by kernel_rfl) (fun _ _ _ h => h) (Or.inl ⟨by rfl, ?_⟩) hS ?_
    rotate_left
    · intro w hw
      go_simp
      try with_reducible rfl
    try simp only [Act.put, List.getElem_toArray, List.getElem_cons_succ, List.getElem_cons_zero, List.setIfInBounds_toArray, List.set_cons_zero, List.set_cons_succ]
    refine wpAnyH_take (i := 18) (v := ?_) rfl (by kernel_rfl) (by kernel_rfl) (by kernel_rfl) (fun _ _ _ h => h) (Or.inl ⟨by rfl, ?_⟩) hS ?_
    rotate_left
    · intro w hw
      go_simp
      try with_reducible rfl
    try simp only [Act.put, List.getElem_toArray, List.getElem_cons_succ, List.getElem_cons_zero, List.setIfInBounds_toArray, List.set_cons_zero, List.set_cons_succ]
    refine wpAnyH_take (i := 19) (v := ?_) rfl (by kernel_rfl) (by kernel_rfl) (by kernel_rfl) (fun _ _ _ h => h) (Or.inl ⟨by rfl, ?_⟩) hS ?_
    rotate_left
    · intro w hw
      go_simp
      try with_reducible rfl
    try simp only [Act.put, List.getElem_toArray, List.getElem_cons_succ, List.getElem_cons_zero, List.setIfInBounds_toArray, List.set_cons_zero, List.set_cons_succ]
    refine wpAnyH_take (i := 20) (v := undef) rfl (by kernel_rfl) (by kernel_rfl) (by kernel_rfl) (fun _ _ _ h => h) (Or.inr ⟨by rfl, rfl⟩) hS ?_
    try simp only [Act.put, List.getElem_toArray, List.getElem_cons_succ, List.getElem_cons_zero, List.setIfInBounds_toArray, List.set_cons_zero, List.set_cons_succ]
    refine wpAnyH_take (i := 21) (v := undef) rfl (by kernel_rfl) (by kernel_rfl) (by kernel_rfl) (fun _ _ _ h => h) (Or.inr ⟨by rfl, rfl⟩) hS ?_
    try simp only [Act.put, List.getElem_toArray, List.getElem_cons_succ, List.getElem_cons_zero, List.setIfInBounds_toArray, List.set_cons_zero, List.set_cons_succ]
    refine wpAnyH_take (i := 22) (v := ?_) rfl (by kernel_rfl) (by kernel_rfl) (by kernel_rfl) (fun _ _ _ h => h) (Or.inl ⟨by rfl, ?_⟩) hS ?_
    rotate_left
    · intro w hw
      go_simp
      try with_reducible rfl
    try simp only [Act.put, List.getElem_toArray, List.getElem_cons_succ, List.getElem_cons_zero, List.setIfInBounds_toArray, List.set_cons_zero, List.set_cons_succ]
    refine wpAnyH_take (i := 23) (v := ?_) rfl (by kernel_rfl) (by kernel_rfl) (by kernel_rfl) (fun _ _ _ h => h) (Or.inl ⟨by rfl, ?_⟩) hS ?_
    rotate_left
    · intro w hw
      go_simp
      try with_reducible rfl
    try simp only [Act.put, List.getElem_toArray, List.getElem_cons_succ, List.getElem_cons_zero, List.setIfInBounds_toArray, List.set_cons_zero, List.set_cons_succ]
    refine wpAnyH_take (i := 24) (v := ?_) rfl (by kernel_rfl) (by kernel_rfl) (by kernel_rfl) (fun _ _ _ h => h) (Or.inl ⟨by rfl, ?_⟩) hS ?_
    rotate_left
    · intro w hw
      go_simp
      try with_reducible rfl
    try simp only [Act.put, List.getElem_toArray, List.getElem_cons_succ, List.getElem_cons_zero, List.setIfInBounds_toArray, List.set_cons_zero, List.set_cons_succ]
    refine wpAnyH_take (i := 25) (v := ?_) rfl (by kernel_rfl) (by kernel_rfl) (by kernel_rfl) (fun _ _ _ h => h) (Or.inl ⟨by rfl, ?_⟩) hS ?_
    rotate_left
    · intro w hw
      have q := load_box (BV.out.below hw.out BV.out.lt)
      obtain ⟨k0, k1, k2, k3⟩ := Ve.look (BV.out.below hw.out BV.out.lt)
      go_simp
      try with_reducible rfl
    try simp only [Act.put, List.getElem_toArray, List.getElem_cons_succ, List.getElem_cons_zero, List.setIfInBounds_toArray, List.set_cons_zero, List.set_cons_succ]
    refine wpAnyH_take (i := 27) (v := ?_) rfl (by kernel_rfl) (by kernel_rfl) (by kernel_rfl) (fun _ _ _ h => h) (Or.inl ⟨by rfl, ?_⟩) hS ?_
    rotate_left
    · intro w hw
      have q := load_box (BV.out.below hw.out BV.out.lt)
      obtain ⟨k0, k1, k2, k3⟩ := Ve.look (BV.out.below hw.out BV.out.lt)
      go_simp
      try with_reducible rfl
    try simp only [Act.put, List.getElem_toArray, List.getElem_cons_succ, List.getElem_cons_zero, List.setIfInBounds_toArray, List.set_cons_zero, List.set_cons_succ]
    have HL1 := Lib.hid (vlive_any y V3 (HV6.out.next HBV3.out) (by omega))
    rw [← HZ.out] at HL1
    refine wpAnyH_ready (rs := [26]) (by kernel_rfl) (by simp) ?_
    refine (AllReadyH.cons rfl (fun K hK => ?_) AllReadyH.nil)
    go_simp
    refine HL1.out.mono ?_
    rintro e V5 ⟨A5, c5, rfl, ho5, hb⟩
    have HBV5 : Hid (Below W6.heap.size W6 V5) := Lib.hid (HBV3.out.trans (hb.mono HBV3.out.size))
    have HL5 := Lib.hid (Lies.of_own ho5)
    refine hK.out _ _ HBV5 (fun hS => ?_)
    clear hK K hb ho5
    try simp only [Act.put, List.getElem_toArray, List.getElem_cons_succ, List.getElem_cons_zero, List.setIfInBounds_toArray, List.set_cons_zero, List.set_cons_succ]
    have HL2 := Lib.hid (rlive_any y V5 (HV6.out.next HBV5.out) (by omega))
    rw [← HZ.out] at HL2
    refine wpAnyH_ready (rs := [28]) (by kernel_rfl) (by simp) ?_
    refine (AllReadyH.cons rfl (fun K hK => ?_) AllReadyH.nil)
    go_simp
    refine HL2.out.mono ?_
    rintro e V6 ⟨A6, c6, rfl, ho6, hb⟩
    have HBV6 : Hid (Below W6.heap.size W6 V6) := Lib.hid (HBV5.out.trans (hb.mono HBV5.out.size))
    have HSI := Lib.hid (same_ints (c := c5) (c' := c6) (HL5.out.below hb) (Lies.of_own ho6) HZL.out)
    refine hK.out _ _ HBV6 (fun hS => ?_)
    clear hK K hb ho6
    try simp only [Act.put, List.getElem_toArray, List.getElem_cons_succ, List.getElem_cons_zero, List.setIfInBounds_toArray, List.set_cons_zero, List.set_cons_succ]
    skip
    refine wpAnyH_ready (rs := [29]) (by kernel_rfl) (by simp) ?_
    refine (AllReadyH.cons rfl (fun K hK => ?_) AllReadyH.nil)
    go_simp
    refine (HSI.out).mono ?_
    rintro e V7 ⟨rfl, hb⟩
    have HBV7 : Hid (Below W6.heap.size W6 V7) := Lib.hid (HBV6.out.trans (hb.mono HBV6.out.size))
    refine hK.out _ _ HBV7 (fun hS => ?_)
    clear hK K hb
    try simp only [Act.put, List.getElem_toArray, List.getElem_cons_succ, List.getElem_cons_zero, List.setIfInBounds_toArray, List.set_cons_zero, List.set_cons_succ]
    refine wpAnyH_take (i := 30) (v := ?_) rfl (by kernel_rfl) (by kernel_rfl) (by kernel_rfl) (fun _ _ _ h => h) (Or.inl ⟨by rfl, ?_⟩) hS ?_
    rotate_left
    · intro w hw
      go_simp
      try with_reducible rfl
    try simp only [Act.put, List.getElem_toArray, List.getElem_cons_succ, List.getElem_cons_zero, List.setIfInBounds_toArray, List.set_cons_zero, List.set_cons_succ]
    refine wpAnyH_take (i := 31) (v := ?_) rfl (by kernel_rfl) (by kernel_rfl) (by kernel_rfl) (fun _ _ _ h => h) (Or.inl ⟨by rfl, ?_⟩) hS ?_
    rotate_left
    · intro w hw
      go_simp
      try with_reducible rfl
    try simp only [Act.put, List.getElem_toArray, List.getElem_cons_succ, List.getElem_cons_zero, List.setIfInBounds_toArray, List.set_cons_zero, List.set_cons_succ]
    refine wpAnyH_done (by kernel_rfl) ?_ _
    go_wp2_with fail
    go_ret
    exact ⟨rfl, H6.out.trans (HBV7.out.mono H6.out.size)⟩

set_option maxRecDepth 100000 in
theorem lifted (os : Os) (started : os.Started) (H : Type) (enc : TypeId × Value → H) :
    ReturnsInHanded {} Try.checked os 7 .any (Rows.versionAppliesSpec.pre6 enc Try.prog Try.f7 Rows.versionAppliesRow.domain false) (Rows.versionAppliesSpec.post enc Try.prog Try.f7 false true false false) := by
  refine lift_true (C := Try.checked) own started (by kernel_rfl) Try.func7
    (ChangeSpec.witness6 (enc := enc) (C := Try.checked) false ⟨#[], #[.agg #[.slice none 0 0, .int .i64 0, .int .i64 0, .int .u64 0], .agg #[.slice none 0 0, .slice none 0 0, .int .i64 0, .int .i64 0, .int .u64 0]], []⟩ 8 (by kernel_rfl) (by kernel_rfl) (by kernel_rfl) (by kernel_rfl))
    (by kernel_rfl) (by kernel_rfl) (by kernel_rfl) Try.underlying4 rfl ?_ ?_
  · intro ds hds
    match ds, hds with
    | [d1, d2], _ => exact ⟨rfl, rfl, rfl⟩
  · intro W base args ds p hval0 hA0 hlt _
    have hval : ∀ (j : Nat) t v, Try.f7.params[j]? = some t → args[j]? = some v → Value.okWide Try.prog W .any base t v := hval0
    have hA : DataW.TrodAll enc Try.prog W 0 (fun _ => true) true Try.f7.params.toList args.toList ds p := hA0
    rw [Try.params7] at hA hval
    obtain ⟨v0, vs0, d0, ds0, p0, q0, hargs, rfl, rfl, h0, r0⟩ := trodAll_cons hA
    obtain ⟨v1, vs1, d1, ds1, p1, q1, rfl, rfl, rfl, h1, r1⟩ := trodAll_cons r0
    obtain ⟨rfl, rfl, rfl⟩ := trodAll_nil r1
    obtain rfl : args = #[v0, v1] := by cases args; simp_all
    obtain ⟨Y0, rfl, hY0⟩ := Ve.open_version (hval 0 _ v0 rfl rfl) h0 (fun x hx => hlt x (by simp [hx]))
    obtain ⟨X1, rfl, hX1⟩ := Ed.open_edit (hval 1 _ v1 rfl rfl) h1 (fun x hx => hlt x (by simp [hx]))
    exact walk Y0 X1 W hY0 hX1

theorem over : Rows.versionAppliesRow.holds Try.pinned (OpenSpec.ofChange Rows.versionAppliesSpec) :=
  OpenClaim.holds_of_wide 7 Try.f7 rfl rfl rfl rfl rfl rfl rfl ⟨rfl, rfl, rfl, rfl, rfl⟩ rfl rfl rfl rfl rfl (by kernel_rfl) Try.func7 (by kernel_rfl)
    (of_decide_eq_true (by kernel_rfl)) (by unfold Func.isWrapper; first | (rw [if_pos (by decide +kernel)]; kernel_rfl) | (rw [if_neg (by decide +kernel)]; exact ⟨rfl, rfl⟩))
    (fun os started H enc _ => lifted os started H enc)

theorem proved : Rows.VersionAppliesSaid :=
  over
#print axioms proved
end Go.Proofs.Ythhmjjmjicmhdaa.versionApplies
