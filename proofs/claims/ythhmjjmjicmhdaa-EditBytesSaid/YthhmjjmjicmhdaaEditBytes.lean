/- Proved: for any edit, EditBytes of butterylaw16 answers true (Right and Bytes of package edit agree with the definition, and Read inverts Bytes), and its argument reads as before. Conditions: none beyond what the given row states. -/
import Derived.Test.YthhmjjmjicmhdaaElw
namespace Go.Proofs.Ythhmjjmjicmhdaa.editBytes
set_option linter.unusedVariables false
set_option linter.unusedSimpArgs false
open Go.ChangeShapes Go.WideShapes Go.ChangeAt Go.RowKit Lift Ed Ik

theorem own : ownKnob Try.prog.godebug = none := by kernel_rfl

set_option maxRecDepth 100000 in
set_option maxHeartbeats 6400000 in
theorem walk (x : X) (w : World) (hX : x.Ok w w.heap.size) : Calls Try.prog 3 #[x.v] w (Yes w) := by
  have HX := Lib.hid hX
  have hb0 := Joins.below_alloc1 w x.box
  have b0 : Box (w.alloc x.box) w.heap.size 26 x.cells := Box.new w 26 x.cells
  clear hX
  go_enter Try.func3, Try.ntmps3
  go_wp2_with fail
  refine (alive_any _).mono ?_
  rintro e W1 ⟨rfl, hb1⟩
  have HB1 := Lib.hid (hb0.trans (hb1.mono hb0.size))
  have HX1 := Lib.hid (HX.out.next HB1.out)
  have HBX1 := Lib.hid (b0.below hb1 b0.lt)
  obtain ⟨k0, k1, k2, k3, k4⟩ := box_look HBX1.out
  clear hb0 b0 hb1
  go_wp2_with fail
  refine (big_any x W1 HX1.out).mono ?_
  rintro e W2 ⟨rfl, hb2⟩
  have HB2 := Lib.hid (HB1.out.trans (hb2.mono HB1.out.size))
  have HX2 := Lib.hid (HX1.out.next hb2)
  have HBX2 := Lib.hid (HBX1.out.below hb2 HBX1.out.lt)
  clear k0 k1 k2 k3 k4 hb2
  cases hg : bigX x
  · cases hri : right x.e
    · skip
      have HOB := Lib.hid (obytes_any x W2.heap.size W2 HX2.out (Nat.le_refl _))
      obtain ⟨P, hP⟩ : ∃ P, P = bytesE x.e := ⟨_, rfl⟩
      rw [← hP] at HOB
      have HPB := Lib.hid hP.symm
      have hp0 : P = [] := by rw [hP]; exact bytesE_no hri
      have hpl : P.length ≤ 70000 := by rw [hp0]; exact Nat.zero_le _
      have HBY : Hid (Byt P) := Lib.hid (by rw [hp0]; exact byt_nil)
      have e0 : ((P.length : Int) == 0) = true := by rw [hp0]; rfl
      clear hp0
      clear hP
      obtain ⟨k0, k1, k2, k3, k4⟩ := box_look HBX2.out
      go_wp2_with fail
      refine HOB.out.mono ?_
      intro e W3 hm
      obtain ⟨A3, c3, rfl, hc3, hm3, hl3, hb3⟩ := hm.parts
      have HB3 := Lib.hid (HB2.out.trans (hb3.mono HB2.out.size))
      have HX3 := Lib.hid (HX2.out.next hb3)
      have HBX3 := Lib.hid (HBX2.out.below hb3 HBX2.out.lt)
      have HL3 := Lib.hid hl3
      have HC3 := Lib.hid hc3
      have HM3 := Lib.hid hm3
      have HRR := Lib.hid (rright_any x W3.heap.size W3 HX3.out (Nat.le_refl _))
      rw [hri] at HRR
      clear k0 k1 k2 k3 k4 hb3 hl3 hc3 hm3 hm HOB HX2 HBX2
      obtain ⟨k0, k1, k2, k3, k4⟩ := box_look HBX3.out
      go_wp2_with fail
      refine HRR.out.mono ?_
      rintro e W4 ⟨rfl, hb4⟩
      have H4 := Lib.hid (HB3.out.trans (hb4.mono HB3.out.size))
      have HX4 := Lib.hid (HX3.out.next hb4)
      have HBX4 := Lib.hid (HBX3.out.below hb4 HBX3.out.lt)
      have HL4 := Lib.hid (lies_next HL3.out hb4)
      have n1 : ((str P).toList != (str P).toList) = false := by simp
      clear k0 k1 k2 k3 k4 hb4 HX3 HBX3 HL3 HRR
      go_upto_region 7 with fail
      refine wp_region_held_drew (S := fun w' => Hid (Below W4.heap.size W4 w')) (by kernel_rfl) (Lib.hid (Below.refl _ _).drew) (fun hS => ?_)
      have HB4d : Hid (Below W4.heap.size W4 W4.drew) := Lib.hid (Below.refl _ _).drew
      have HRI := Lib.hid (oright_any x W4.drew.heap.size W4.drew (HX4.out.next HB4d.out) (Nat.le_refl _))
      rw [hri] at HRI
      refine wpAnyH_take (i := 0) (v := ?_) rfl (by kernel_rfl) (by kernel_rfl) (by kernel_rfl) (fun _ _ _ h => h) (Or.inl ⟨by rfl, ?_⟩) hS ?_
      rotate_left
      · intro wi hw
        have q := box_load (HBX4.out.below hw.out HBX4.out.lt)
        obtain ⟨k0, k1, k2, k3, k4⟩ := box_look (HBX4.out.below hw.out HBX4.out.lt)
        go_simp
        try with_reducible rfl
      try simp only [Act.put, List.getElem_toArray, List.getElem_cons_succ, List.getElem_cons_zero, List.setIfInBounds_toArray, List.set_cons_zero, List.set_cons_succ]
      refine wpAnyH_take (i := 2) (v := ?_) rfl (by kernel_rfl) (by kernel_rfl) (by kernel_rfl) (fun _ _ _ h => h) (Or.inl ⟨by rfl, ?_⟩) hS ?_
      rotate_left
      · intro wi hw
        go_simp
        try with_reducible rfl
      try simp only [Act.put, List.getElem_toArray, List.getElem_cons_succ, List.getElem_cons_zero, List.setIfInBounds_toArray, List.set_cons_zero, List.set_cons_succ]
      refine wpAnyH_ready (rs := [1]) (by kernel_rfl) (by simp) ?_
      refine (AllReadyH.cons rfl (fun K hK => ?_) AllReadyH.nil)
      go_simp
      refine HRI.out.mono ?_
      rintro e W5 ⟨rfl, hb5⟩
      have HB5 : Hid (Below W4.heap.size W4 W5) := Lib.hid (HB4d.out.trans (hb5.mono HB4d.out.size))
      refine hK.out _ _ HB5 (fun hS => ?_)
      clear hK K hb5 HRI
      try simp only [Act.put, List.getElem_toArray, List.getElem_cons_succ, List.getElem_cons_zero, List.setIfInBounds_toArray, List.set_cons_zero, List.set_cons_succ]
      refine wpAnyH_take (i := 3) (v := ?_) rfl (by kernel_rfl) (by kernel_rfl) (by kernel_rfl) (fun _ _ _ h => h) (Or.inl ⟨by rfl, ?_⟩) hS ?_
      rotate_left
      · intro wi hw
        go_simp
        try with_reducible rfl
      try simp only [Act.put, List.getElem_toArray, List.getElem_cons_succ, List.getElem_cons_zero, List.setIfInBounds_toArray, List.set_cons_zero, List.set_cons_succ]
      refine wpAnyH_take (i := 4) (v := ?_) rfl (by kernel_rfl) (by kernel_rfl) (by kernel_rfl) (fun _ _ _ h => h) (Or.inl ⟨by rfl, ?_⟩) hS ?_
      rotate_left
      · intro wi hw
        go_simp
        try with_reducible rfl
      try simp only [Act.put, List.getElem_toArray, List.getElem_cons_succ, List.getElem_cons_zero, List.setIfInBounds_toArray, List.set_cons_zero, List.set_cons_succ]
      refine wpAnyH_take (i := 5) (v := ?_) rfl (by kernel_rfl) (by kernel_rfl) (by kernel_rfl) (fun _ _ _ h => h) (Or.inl ⟨by rfl, ?_⟩) hS ?_
      rotate_left
      · intro wi hw
        go_simp
        try with_reducible rfl
      try simp only [Act.put, List.getElem_toArray, List.getElem_cons_succ, List.getElem_cons_zero, List.setIfInBounds_toArray, List.set_cons_zero, List.set_cons_succ]
      refine wpAnyH_take (i := 6) (v := ?_) rfl (by kernel_rfl) (by kernel_rfl) (by kernel_rfl) (fun _ _ _ h => h) (Or.inl ⟨by rfl, ?_⟩) hS ?_
      rotate_left
      · intro wi hw
        have s1 := run_str (c := c3) (HL4.out.below hw.out)
        go_simp
        try with_reducible rfl
      try simp only [Act.put, List.getElem_toArray, List.getElem_cons_succ, List.getElem_cons_zero, List.setIfInBounds_toArray, List.set_cons_zero, List.set_cons_succ]
      refine wpAnyH_take (i := 7) (v := ?_) rfl (by kernel_rfl) (by kernel_rfl) (by kernel_rfl) (fun _ _ _ h => h) (Or.inl ⟨by rfl, ?_⟩) hS ?_
      rotate_left
      · intro wi hw
        have q := box_load (HBX4.out.below hw.out HBX4.out.lt)
        obtain ⟨k0, k1, k2, k3, k4⟩ := box_look (HBX4.out.below hw.out HBX4.out.lt)
        go_simp
        try with_reducible rfl
      try simp only [Act.put, List.getElem_toArray, List.getElem_cons_succ, List.getElem_cons_zero, List.setIfInBounds_toArray, List.set_cons_zero, List.set_cons_succ]
      have HEB := Lib.hid (rbytes_any x W5.heap.size W5 (HX4.out.next HB5.out) (Nat.le_refl _))
      rw [HPB.out] at HEB
      refine wpAnyH_ready (rs := [8]) (by kernel_rfl) (by simp) ?_
      refine (AllReadyH.cons rfl (fun K hK => ?_) AllReadyH.nil)
      go_simp
      refine HEB.out.mono ?_
      intro e W6 hm
      obtain ⟨A6, c6, rfl, -, -, hl6, hb6⟩ := hm.parts
      have HB6 := Lib.hid (HB5.out.trans (hb6.mono HB5.out.size))
      have HL6 := Lib.hid hl6
      refine hK.out _ _ HB6 (fun hS => ?_)
      clear hK K hm hb6 hl6
      try simp only [Act.put, List.getElem_toArray, List.getElem_cons_succ, List.getElem_cons_zero, List.setIfInBounds_toArray, List.set_cons_zero, List.set_cons_succ]
      refine wpAnyH_other (S' := fun w' => Hid (Below W6.heap.size W6 w')) (fun w hw => Lib.hid (HB6.out.trans (hw.out.mono HB6.out.size))) _ _ _ _ ?_
      have hS := Lib.hid (Below.refl W6.heap.size W6)
      refine wpAnyH_take (i := 9) (v := ?_) rfl (by kernel_rfl) (by kernel_rfl) (by kernel_rfl) (fun _ _ _ h => h) (Or.inl ⟨by rfl, ?_⟩) hS ?_
      rotate_left
      · intro wi hw
        have s2 := run_str (c := c6) (HL6.out.below hw.out)
        go_simp
        try with_reducible rfl
      try simp only [Act.put, List.getElem_toArray, List.getElem_cons_succ, List.getElem_cons_zero, List.setIfInBounds_toArray, List.set_cons_zero, List.set_cons_succ]
      refine wpAnyH_take (i := 10) (v := ?_) rfl (by kernel_rfl) (by kernel_rfl) (by kernel_rfl) (fun _ _ _ h => h) (Or.inl ⟨by rfl, ?_⟩) hS ?_
      rotate_left
      · intro wi hw
        go_simp
        try with_reducible rfl
      try simp only [Act.put, List.getElem_toArray, List.getElem_cons_succ, List.getElem_cons_zero, List.setIfInBounds_toArray, List.set_cons_zero, List.set_cons_succ]
      refine wpAnyH_take (i := 11) (v := ?_) rfl (by kernel_rfl) (by kernel_rfl) (by kernel_rfl) (fun _ _ _ h => h) (Or.inl ⟨by rfl, ?_⟩) hS ?_
      rotate_left
      · intro wi hw
        go_simp
        try with_reducible rfl
      try simp only [Act.put, List.getElem_toArray, List.getElem_cons_succ, List.getElem_cons_zero, List.setIfInBounds_toArray, List.set_cons_zero, List.set_cons_succ]
      refine wpAnyH_done (by kernel_rfl) ?_ _
      have HRD := Lib.hid (oread_any A3 c3 P W6 (lies_next HL4.out HB6.out) HC3.out HM3.out (by omega) HBY.out)
      have HX6 := Lib.hid (HX4.out.next HB6.out)
      have HBX6 := Lib.hid (HBX4.out.below HB6.out HBX4.out.lt)
      have H6 := Lib.hid (H4.out.trans (HB6.out.mono H4.out.size))
      clear hS
      go_wp2_with fail
      refine HRD.out.mono ?_
      rintro e W7 ⟨y, rfl, hye, hyo, hb7⟩
      have hba := Joins.below_alloc1 W7 y.box
      have H8 := Lib.hid (H6.out.trans ((hb7.trans (hba.mono hb7.size)).mono H6.out.size))
      clear hba hyo hye hb7
      go_wp2_with fail
      go_ret
      exact ⟨rfl, H8.out⟩
    · skip
      have HOB := Lib.hid (obytes_any x W2.heap.size W2 HX2.out (Nat.le_refl _))
      obtain ⟨P, hP⟩ : ∃ P, P = bytesE x.e := ⟨_, rfl⟩
      rw [← hP] at HOB
      have HPB := Lib.hid hP.symm
      have hpl : P.length ≤ 70000 := by rw [hP, bytesE_yes hri]; exact encE_len hri
      have HBY : Hid (Byt P) := Lib.hid (by rw [hP, bytesE_yes hri]; exact encE_byt hri (X.byt HX2.out))
      have HRG : Hid (readE P = (0, x.e)) := Lib.hid (by
        have := read_good hri []
        rw [List.append_nil, if_pos rfl] at this
        rw [hP, bytesE_yes hri]; exact this)
      have HSM : Hid (∀ y : X, y.e = x.e → y.add.length ≤ 1000000 ∧ y.drop.length ≤ 1000000) := Lib.hid (fun y hy => by
        obtain ⟨r1, r2, -⟩ := right_parts hri
        rw [← hy] at r1 r2
        unfold X.e at r1 r2
        simp only [List.length_map] at r1 r2
        exact ⟨by omega, by omega⟩)
      clear hP
      obtain ⟨k0, k1, k2, k3, k4⟩ := box_look HBX2.out
      go_wp2_with fail
      refine HOB.out.mono ?_
      intro e W3 hm
      obtain ⟨A3, c3, rfl, hc3, hm3, hl3, hb3⟩ := hm.parts
      have HB3 := Lib.hid (HB2.out.trans (hb3.mono HB2.out.size))
      have HX3 := Lib.hid (HX2.out.next hb3)
      have HBX3 := Lib.hid (HBX2.out.below hb3 HBX2.out.lt)
      have HL3 := Lib.hid hl3
      have HC3 := Lib.hid hc3
      have HM3 := Lib.hid hm3
      have HRR := Lib.hid (rright_any x W3.heap.size W3 HX3.out (Nat.le_refl _))
      rw [hri] at HRR
      clear k0 k1 k2 k3 k4 hb3 hl3 hc3 hm3 hm HOB HX2 HBX2
      obtain ⟨k0, k1, k2, k3, k4⟩ := box_look HBX3.out
      go_wp2_with fail
      refine HRR.out.mono ?_
      rintro e W4 ⟨rfl, hb4⟩
      have H4 := Lib.hid (HB3.out.trans (hb4.mono HB3.out.size))
      have HX4 := Lib.hid (HX3.out.next hb4)
      have HBX4 := Lib.hid (HBX3.out.below hb4 HBX3.out.lt)
      have HL4 := Lib.hid (lies_next HL3.out hb4)
      have n1 : ((str P).toList != (str P).toList) = false := by simp
      clear k0 k1 k2 k3 k4 hb4 HX3 HBX3 HL3 HRR
      go_upto_region 7 with fail
      refine wp_region_held_drew (S := fun w' => Hid (Below W4.heap.size W4 w')) (by kernel_rfl) (Lib.hid (Below.refl _ _).drew) (fun hS => ?_)
      have HB4d : Hid (Below W4.heap.size W4 W4.drew) := Lib.hid (Below.refl _ _).drew
      have HRI := Lib.hid (oright_any x W4.drew.heap.size W4.drew (HX4.out.next HB4d.out) (Nat.le_refl _))
      rw [hri] at HRI
      refine wpAnyH_take (i := 0) (v := ?_) rfl (by kernel_rfl) (by kernel_rfl) (by kernel_rfl) (fun _ _ _ h => h) (Or.inl ⟨by rfl, ?_⟩) hS ?_
      rotate_left
      · intro wi hw
        have q := box_load (HBX4.out.below hw.out HBX4.out.lt)
        obtain ⟨k0, k1, k2, k3, k4⟩ := box_look (HBX4.out.below hw.out HBX4.out.lt)
        go_simp
        try with_reducible rfl
      try simp only [Act.put, List.getElem_toArray, List.getElem_cons_succ, List.getElem_cons_zero, List.setIfInBounds_toArray, List.set_cons_zero, List.set_cons_succ]
      refine wpAnyH_take (i := 2) (v := ?_) rfl (by kernel_rfl) (by kernel_rfl) (by kernel_rfl) (fun _ _ _ h => h) (Or.inl ⟨by rfl, ?_⟩) hS ?_
      rotate_left
      · intro wi hw
        go_simp
        try with_reducible rfl
      try simp only [Act.put, List.getElem_toArray, List.getElem_cons_succ, List.getElem_cons_zero, List.setIfInBounds_toArray, List.set_cons_zero, List.set_cons_succ]
      refine wpAnyH_ready (rs := [1]) (by kernel_rfl) (by simp) ?_
      refine (AllReadyH.cons rfl (fun K hK => ?_) AllReadyH.nil)
      go_simp
      refine HRI.out.mono ?_
      rintro e W5 ⟨rfl, hb5⟩
      have HB5 : Hid (Below W4.heap.size W4 W5) := Lib.hid (HB4d.out.trans (hb5.mono HB4d.out.size))
      refine hK.out _ _ HB5 (fun hS => ?_)
      clear hK K hb5 HRI
      try simp only [Act.put, List.getElem_toArray, List.getElem_cons_succ, List.getElem_cons_zero, List.setIfInBounds_toArray, List.set_cons_zero, List.set_cons_succ]
      refine wpAnyH_take (i := 3) (v := ?_) rfl (by kernel_rfl) (by kernel_rfl) (by kernel_rfl) (fun _ _ _ h => h) (Or.inl ⟨by rfl, ?_⟩) hS ?_
      rotate_left
      · intro wi hw
        go_simp
        try with_reducible rfl
      try simp only [Act.put, List.getElem_toArray, List.getElem_cons_succ, List.getElem_cons_zero, List.setIfInBounds_toArray, List.set_cons_zero, List.set_cons_succ]
      refine wpAnyH_take (i := 4) (v := ?_) rfl (by kernel_rfl) (by kernel_rfl) (by kernel_rfl) (fun _ _ _ h => h) (Or.inl ⟨by rfl, ?_⟩) hS ?_
      rotate_left
      · intro wi hw
        go_simp
        try with_reducible rfl
      try simp only [Act.put, List.getElem_toArray, List.getElem_cons_succ, List.getElem_cons_zero, List.setIfInBounds_toArray, List.set_cons_zero, List.set_cons_succ]
      refine wpAnyH_take (i := 5) (v := ?_) rfl (by kernel_rfl) (by kernel_rfl) (by kernel_rfl) (fun _ _ _ h => h) (Or.inl ⟨by rfl, ?_⟩) hS ?_
      rotate_left
      · intro wi hw
        go_simp
        try with_reducible rfl
      try simp only [Act.put, List.getElem_toArray, List.getElem_cons_succ, List.getElem_cons_zero, List.setIfInBounds_toArray, List.set_cons_zero, List.set_cons_succ]
      refine wpAnyH_take (i := 6) (v := ?_) rfl (by kernel_rfl) (by kernel_rfl) (by kernel_rfl) (fun _ _ _ h => h) (Or.inl ⟨by rfl, ?_⟩) hS ?_
      rotate_left
      · intro wi hw
        have s1 := run_str (c := c3) (HL4.out.below hw.out)
        go_simp
        try with_reducible rfl
      try simp only [Act.put, List.getElem_toArray, List.getElem_cons_succ, List.getElem_cons_zero, List.setIfInBounds_toArray, List.set_cons_zero, List.set_cons_succ]
      refine wpAnyH_take (i := 7) (v := ?_) rfl (by kernel_rfl) (by kernel_rfl) (by kernel_rfl) (fun _ _ _ h => h) (Or.inl ⟨by rfl, ?_⟩) hS ?_
      rotate_left
      · intro wi hw
        have q := box_load (HBX4.out.below hw.out HBX4.out.lt)
        obtain ⟨k0, k1, k2, k3, k4⟩ := box_look (HBX4.out.below hw.out HBX4.out.lt)
        go_simp
        try with_reducible rfl
      try simp only [Act.put, List.getElem_toArray, List.getElem_cons_succ, List.getElem_cons_zero, List.setIfInBounds_toArray, List.set_cons_zero, List.set_cons_succ]
      have HEB := Lib.hid (rbytes_any x W5.heap.size W5 (HX4.out.next HB5.out) (Nat.le_refl _))
      rw [HPB.out] at HEB
      refine wpAnyH_ready (rs := [8]) (by kernel_rfl) (by simp) ?_
      refine (AllReadyH.cons rfl (fun K hK => ?_) AllReadyH.nil)
      go_simp
      refine HEB.out.mono ?_
      intro e W6 hm
      obtain ⟨A6, c6, rfl, -, -, hl6, hb6⟩ := hm.parts
      have HB6 := Lib.hid (HB5.out.trans (hb6.mono HB5.out.size))
      have HL6 := Lib.hid hl6
      refine hK.out _ _ HB6 (fun hS => ?_)
      clear hK K hm hb6 hl6
      try simp only [Act.put, List.getElem_toArray, List.getElem_cons_succ, List.getElem_cons_zero, List.setIfInBounds_toArray, List.set_cons_zero, List.set_cons_succ]
      refine wpAnyH_other (S' := fun w' => Hid (Below W6.heap.size W6 w')) (fun w hw => Lib.hid (HB6.out.trans (hw.out.mono HB6.out.size))) _ _ _ _ ?_
      have hS := Lib.hid (Below.refl W6.heap.size W6)
      refine wpAnyH_take (i := 9) (v := ?_) rfl (by kernel_rfl) (by kernel_rfl) (by kernel_rfl) (fun _ _ _ h => h) (Or.inl ⟨by rfl, ?_⟩) hS ?_
      rotate_left
      · intro wi hw
        have s2 := run_str (c := c6) (HL6.out.below hw.out)
        go_simp
        try with_reducible rfl
      try simp only [Act.put, List.getElem_toArray, List.getElem_cons_succ, List.getElem_cons_zero, List.setIfInBounds_toArray, List.set_cons_zero, List.set_cons_succ]
      refine wpAnyH_take (i := 10) (v := ?_) rfl (by kernel_rfl) (by kernel_rfl) (by kernel_rfl) (fun _ _ _ h => h) (Or.inl ⟨by rfl, ?_⟩) hS ?_
      rotate_left
      · intro wi hw
        go_simp
        try with_reducible rfl
      try simp only [Act.put, List.getElem_toArray, List.getElem_cons_succ, List.getElem_cons_zero, List.setIfInBounds_toArray, List.set_cons_zero, List.set_cons_succ]
      refine wpAnyH_take (i := 11) (v := ?_) rfl (by kernel_rfl) (by kernel_rfl) (by kernel_rfl) (fun _ _ _ h => h) (Or.inl ⟨by rfl, ?_⟩) hS ?_
      rotate_left
      · intro wi hw
        go_simp
        try with_reducible rfl
      try simp only [Act.put, List.getElem_toArray, List.getElem_cons_succ, List.getElem_cons_zero, List.setIfInBounds_toArray, List.set_cons_zero, List.set_cons_succ]
      refine wpAnyH_done (by kernel_rfl) ?_ _
      have HRD := Lib.hid (oread_any A3 c3 P W6 (lies_next HL4.out HB6.out) HC3.out HM3.out (by omega) HBY.out)
      have HX6 := Lib.hid (HX4.out.next HB6.out)
      have HBX6 := Lib.hid (HBX4.out.below HB6.out HBX4.out.lt)
      have H6 := Lib.hid (H4.out.trans (HB6.out.mono H4.out.size))
      clear hS
      go_wp2_with fail
      refine HRD.out.mono ?_
      rintro e W7 ⟨y, rfl, hye, hyo, hb7⟩
      have hba := Joins.below_alloc1 W7 y.box
      have h67 := hb7.trans (hba.mono hb7.size)
      have hrg := HRG.out
      rw [hrg] at hye ⊢
      have HX8 := Lib.hid (HX6.out.next h67)
      have HY8 := Lib.hid (hyo.next hba)
      have BX : Hid (Box (W7.alloc y.box) w.heap.size 26 x.cells) := Lib.hid (HBX6.out.below h67 HBX6.out.lt)
      have BY : Hid (Box (W7.alloc y.box) W7.heap.size 26 y.cells) := Lib.hid (Box.new W7 26 y.cells)
      have H8 := Lib.hid (H6.out.trans (h67.mono H6.out.size))
      have HSE := Lib.hid (same_edit HY8.out HX8.out hye (HSM.out y hye).1 (HSM.out y hye).2)
      obtain ⟨k0, k1, k2, k3, k4⟩ := box_look BX.out
      obtain ⟨j0, j1, j2, j3, j4⟩ := box_look BY.out
      clear hba h67 hyo hye hb7 hrg
      go_upto_region 10 with fail
      generalize W7.alloc y.box = W8 at *
      go_wp2_with (go_at_call 19; refine (num_any _ _).mono ?_; rintro e w' ⟨rfl, rfl⟩)
      refine HSE.out.mono ?_
      rintro e W9 ⟨rfl, hb9⟩
      have H9 := Lib.hid (H8.out.trans (hb9.mono H8.out.size))
      clear hb9
      go_wp2_with fail
      go_ret
      exact ⟨rfl, H9.out⟩
  · go_wp2_with fail
    go_ret
    exact ⟨rfl, HB2.out⟩

set_option maxRecDepth 100000 in
theorem lifted (os : Os) (started : os.Started) (H : Type) (enc : TypeId × Value → H) :
    ReturnsInHanded {} Try.checked os 3 .any (Rows.editBytesSpec.pre6 enc Try.prog Try.f3 Rows.editBytesRow.domain false) (Rows.editBytesSpec.post enc Try.prog Try.f3 false true false false) := by
  refine lift_true (C := Try.checked) own started (by kernel_rfl) Try.func3
    (ChangeSpec.witness6 (enc := enc) (C := Try.checked) false ⟨#[], #[.agg #[.slice none 0 0, .slice none 0 0, .int .i64 0, .int .i64 0, .int .u64 0]], []⟩ 8 (by kernel_rfl) (by kernel_rfl) (by kernel_rfl) (by kernel_rfl))
    (by kernel_rfl) (by kernel_rfl) (by kernel_rfl) Try.underlying4 rfl ?_ ?_
  · intro ds hds
    match ds, hds with
    | [d1], _ => exact ⟨rfl, rfl, rfl⟩
  · intro W base args ds p hval0 hA0 hlt _
    have hval : ∀ (j : Nat) t v, Try.f3.params[j]? = some t → args[j]? = some v → Value.okWide Try.prog W .any base t v := hval0
    have hA : DataW.TrodAll enc Try.prog W 0 (fun _ => true) true Try.f3.params.toList args.toList ds p := hA0
    rw [Try.params3] at hA hval
    obtain ⟨v0, vs0, d0, ds0, p0, q0, hargs, rfl, rfl, h0, r0⟩ := trodAll_cons hA
    obtain ⟨rfl, rfl, rfl⟩ := trodAll_nil r0
    obtain rfl : args = #[v0] := by cases args; simp_all
    obtain ⟨X0, rfl, hX0⟩ := Ed.open_edit (hval 0 _ v0 rfl rfl) h0 (fun x hx => hlt x (by simp [hx]))
    exact walk X0 W hX0

theorem over : Rows.editBytesRow.holds Try.pinned (OpenSpec.ofChange Rows.editBytesSpec) :=
  OpenClaim.holds_of_wide 3 Try.f3 rfl rfl rfl rfl rfl rfl rfl ⟨rfl, rfl, rfl, rfl, rfl⟩ rfl rfl rfl rfl rfl (by kernel_rfl) Try.func3 (by kernel_rfl)
    (of_decide_eq_true (by kernel_rfl)) (by unfold Func.isWrapper; first | (rw [if_pos (by decide +kernel)]; kernel_rfl) | (rw [if_neg (by decide +kernel)]; exact ⟨rfl, rfl⟩))
    (fun os started H enc _ => lifted os started H enc)

theorem proved : Rows.EditBytesSaid :=
  over
#print axioms proved
end Go.Proofs.Ythhmjjmjicmhdaa.editBytes
