/- The document's own list: Bytes. -/
import Derived.Test.YtmnhklfljfglhaaSref5
import Derived.Deep.RegionHeld3
import Derived.LoopTactic
namespace Go.Proofs.Ytmnhklfljfglhaa.Sk
set_option linter.unusedVariables false
set_option linter.unusedSimpArgs false
open Go.RowKit Lift Ik
section
variable {w w' : World} {g : Nat} {S : Nat → Prop} {R : Row}
theorem bytesR_take {R : Row} {j : Nat} {r : T × Nat} (h : R[j]? = some r) : bytesR (R.take (j + 1)) = bytesR (R.take j) + cost r := by
  unfold bytesR
  rw [List.take_add_one, h]
  simp
set_option maxRecDepth 100000 in
set_option maxHeartbeats 3200000 in
theorem rbytes_any (h : RL w g S R) : Calls Try.prog (58) #[.pointer (some ⟨g, 0, none⟩)] w fun e w' => e = .returned (.int .i64 (bytesR R : Nat)) ∧ Below w.heap.size w w' := by
  obtain ⟨A, c, Ah, ch, Ld, h⟩ := h
  have hld : Ld.length = R.length := by have := congrArg List.length h.told; simpa using this
  have hce := h.ents.len
  have hme := h.ents.cap
  have hch := h.hc
  have hmh := h.hm
  unfold maxLen at hme hmh
  have hl200 : Ld.length ≤ 200 := by rw [hld]; exact h.many
  have HLD := Lib.hid hld
  have H := Lib.hid h
  have HBX := Lib.hid h.box
  have HEN := Lib.hid h.ents
  have HLT := Lib.hid h.lt
  clear h hld
  go_enter (Try.func58), (Try.ntmps58)
  go_wp2_with fail
  go_loopw [3, 4] (fun v i wr => ∃ (j z : Nat), j ≤ Ld.length ∧ v = .int .i64 (z : Int) ∧ i = .int .i64 j ∧ Hid (z = bytesR (R.take j) ∧ Below w.heap.size w wr)) (fun _ i _ => Ld.length + 1 - (intOf i).toNat)
  case atStart => exact ⟨0, 0, by omega, rfl, rfl, Lib.hid ⟨rfl, Below.refl _ _⟩⟩
  case round =>
    obtain ⟨j, z, hj, rfl, rfl, hr⟩ := hrel
    have hb := Lib.hid hr.out.2
    have hw := H.out.same (fun k hk => hb.out.block k (H.out.lt k hk)) hb.out.size
    have b0 := hw.box.cell 0
    simp only [List.getElem?_cons_zero] at b0
    by_cases hlt : j < Ld.length
    · obtain ⟨r, hr0⟩ : ∃ r, R[j]? = some r := ⟨_, List.getElem?_eq_getElem (by rw [← HLD.out]; exact hlt)⟩
      obtain ⟨d, hd⟩ : ∃ d, Ld[j]? = some d := ⟨_, List.getElem?_eq_getElem hlt⟩
      have hdt : d.t = r.1 := by
        have h1 : (Ld.map D.t)[j]? = (R.map (·.1))[j]? := by rw [H.out.told]
        rw [List.getElem?_map, List.getElem?_map, hd, hr0] at h1
        simpa using h1
      have hrm := H.out.okR r (List.mem_of_getElem? hr0)
      obtain ⟨ad, p, hA, -, hpd, -⟩ := HEN.out.place hd
      subst hA
      have hne : ¬ ints (R.map (·.2)) = [] := fun e => by
        have := congrArg List.length e
        simp at this
        rw [this] at hr0
        simp at hr0
      obtain ⟨ah, hAh, -, hcell⟩ := hw.hts.resolve_left hne
      subst hAh
      have q9 := hcell j (.int .i64 ((r.2 : Nat) : Int)) (by simp [ints, hr0])
      have htk := bytesR_take hr0
      have hzb : bytesR (R.take j) ≤ 200 * 4464 := by
        have h1 := bytesR_le (R := R.take j) fun r' hr' => H.out.okR r' (List.mem_of_mem_take hr')
        have h2 : (R.take j).length ≤ 200 := by rw [List.length_take]; have := H.out.many; omega
        have h3 := Nat.mul_le_mul_right 4464 h2
        omega
      rw [← hr.out.1] at htk hzb
      have hsm := okT_parts hrm.1
      have hck : cost r = d.k.key.length + d.val.length + 16 + 8 * r.2 := by
        have e1 : r.1.k = d.k := by rw [← hdt]; rfl
        have e2 : r.1.val = d.val := by rw [← hdt]; rfl
        unfold cost
        rw [e1, e2]
      rw [hck] at htk
      have hk1 : d.k.key.length ≤ 256 ∧ d.val.length ≤ 4096 := by
        have e1 : r.1.k = d.k := by rw [← hdt]; rfl
        have e2 : r.1.val = d.val := by rw [← hdt]; rfl
        rw [e1, e2] at hsm
        omega
      have hr12 := hrm.2
      have HPD := Lib.hid hpd
      have HJD := Lib.hid hd
      have HJC := Lib.hid (show j < Ld.length from hlt)
      have HQ9 := Lib.hid q9
      generalize r.2 = rh at htk hr12 HQ9
      have HTK := Lib.hid htk
      have HWR : Hid (IntKind.i64.wrap ((z : Int) + (d.k.key.length : Int)) = (z : Int) + (d.k.key.length : Int) ∧ IntKind.i64.wrap ((z : Int) + (d.k.key.length : Int) + (d.val.length : Int)) = (z : Int) + (d.k.key.length : Int) + (d.val.length : Int) ∧
          IntKind.i64.wrap ((z : Int) + (d.k.key.length : Int) + (d.val.length : Int) + 16) = (z : Int) + (d.k.key.length : Int) + (d.val.length : Int) + 16 ∧ IntKind.i64.wrap (8 * (rh : Int)) = 8 * (rh : Int) ∧
          IntKind.i64.wrap ((z : Int) + (d.k.key.length : Int) + (d.val.length : Int) + 16 + 8 * (rh : Int)) = (z : Int) + (d.k.key.length : Int) + (d.val.length : Int) + 16 + 8 * (rh : Int)) :=
        Lib.hid ⟨IntWalk.i64_in _ (by omega), IntWalk.i64_in _ (by omega), IntWalk.i64_in _ (by omega), IntWalk.i64_in _ (by omega), IntWalk.i64_in _ (by omega)⟩
      clear hw hr0 hd hdt hrm hpd hne hcell q9 htk hsm hck
      go_wp2_with fail
      refine wp_region_held_drew (S := fun w' => Hid (Below wr.heap.size wr w')) (by kernel_rfl) (Lib.hid (Below.refl _ _).drew) (fun hS => ?_)
      refine wpAnyH_take (i := 0) (v := ?_) rfl (by kernel_rfl) (by kernel_rfl) (by kernel_rfl) (fun _ _ _ h => h) (Or.inl ⟨by rfl, ?_⟩) hS ?_
      rotate_left
      · intro w hw
        go_simp
        try with_reducible rfl
      try simp only [Act.put, List.getElem_toArray, List.getElem_cons_succ, List.getElem_cons_zero, List.setIfInBounds_toArray, List.set_cons_zero, List.set_cons_succ]
      refine wpAnyH_take (i := 1) (v := ?_) rfl (by kernel_rfl) (by kernel_rfl) (by kernel_rfl) (fun _ _ _ h => h) (Or.inl ⟨by rfl, ?_⟩) hS ?_
      rotate_left
      · intro w hw
        go_simp
        try with_reducible rfl
      try simp only [Act.put, List.getElem_toArray, List.getElem_cons_succ, List.getElem_cons_zero, List.setIfInBounds_toArray, List.set_cons_zero, List.set_cons_succ]
      refine wpAnyH_take (i := 2) (v := ?_) rfl (by kernel_rfl) (by kernel_rfl) (by kernel_rfl) (fun _ _ _ h => h) (Or.inl ⟨by rfl, ?_⟩) hS ?_
      rotate_left
      · intro w hw
        go_simp
        try with_reducible rfl
      try simp only [Act.put, List.getElem_toArray, List.getElem_cons_succ, List.getElem_cons_zero, List.setIfInBounds_toArray, List.set_cons_zero, List.set_cons_succ]
      refine wpAnyH_take (i := 3) (v := ?_) rfl (by kernel_rfl) (by kernel_rfl) (by kernel_rfl) (fun _ _ _ h => h) (Or.inl ⟨by rfl, ?_⟩) hS ?_
      rotate_left
      · intro w hw
        go_simp
        try with_reducible rfl
      try simp only [Act.put, List.getElem_toArray, List.getElem_cons_succ, List.getElem_cons_zero, List.setIfInBounds_toArray, List.set_cons_zero, List.set_cons_succ]
      refine wpAnyH_take (i := 4) (v := ?_) rfl (by kernel_rfl) (by kernel_rfl) (by kernel_rfl) (fun _ _ _ h => h) (Or.inl ⟨by rfl, ?_⟩) hS ?_
      rotate_left
      · intro w hw
        have hbx := HBX.out.below (hb.out.trans (hw.out.mono hb.out.size)) HBX.out.lt
        have b0 := hbx.cell 0
        have b1 := hbx.cell 1
        simp only [List.getElem?_cons_zero, List.getElem?_cons_succ] at b0 b1
        clear hbx
        go_simp
        try with_reducible rfl
      try simp only [Act.put, List.getElem_toArray, List.getElem_cons_succ, List.getElem_cons_zero, List.setIfInBounds_toArray, List.set_cons_zero, List.set_cons_succ]
      refine wpAnyH_take (i := 5) (v := ?_) rfl (by kernel_rfl) (by kernel_rfl) (by kernel_rfl) (fun _ _ _ h => h) (Or.inl ⟨by rfl, ?_⟩) hS ?_
      rotate_left
      · intro w hw
        go_simp
        try with_reducible rfl
      try simp only [Act.put, List.getElem_toArray, List.getElem_cons_succ, List.getElem_cons_zero, List.setIfInBounds_toArray, List.set_cons_zero, List.set_cons_succ]
      refine wpAnyH_take (i := 6) (v := ?_) rfl (by kernel_rfl) (by kernel_rfl) (by kernel_rfl) (fun _ _ _ h => h) (Or.inl ⟨by rfl, ?_⟩) hS ?_
      rotate_left
      · intro w hw
        have hpd := HPD.out
        go_simp
        try with_reducible rfl
      try simp only [Act.put, List.getElem_toArray, List.getElem_cons_succ, List.getElem_cons_zero, List.setIfInBounds_toArray, List.set_cons_zero, List.set_cons_succ]
      refine wpAnyH_take (i := 7) (v := ?_) rfl (by kernel_rfl) (by kernel_rfl) (by kernel_rfl) (fun _ _ _ h => h) (Or.inl ⟨by rfl, ?_⟩) hS ?_
      rotate_left
      · intro w hw
        go_simp
        try with_reducible rfl
      try simp only [Act.put, List.getElem_toArray, List.getElem_cons_succ, List.getElem_cons_zero, List.setIfInBounds_toArray, List.set_cons_zero, List.set_cons_succ]
      refine wpAnyH_take (i := 8) (v := ?_) rfl (by kernel_rfl) (by kernel_rfl) (by kernel_rfl) (fun _ _ _ h => h) (Or.inl ⟨by rfl, ?_⟩) hS ?_
      rotate_left
      · intro w hw
        go_simp
        try with_reducible rfl
      try simp only [Act.put, List.getElem_toArray, List.getElem_cons_succ, List.getElem_cons_zero, List.setIfInBounds_toArray, List.set_cons_zero, List.set_cons_succ]
      refine wpAnyH_take (i := 9) (v := ?_) rfl (by kernel_rfl) (by kernel_rfl) (by kernel_rfl) (fun _ _ _ h => h) (Or.inl ⟨by rfl, ?_⟩) hS ?_
      rotate_left
      · intro w hw
        obtain ⟨ad', pi, hA, -, hpi, q0, q1, q2, q3⟩ := (HEN.out.later (w' := w) (R' := fun k => S k ∧ k ≠ g) (fun k hk => (hb.out.trans (hw.out.mono hb.out.size)).block k (HLT.out k hk.1)) fun _ h => h).place HJD.out
        injection hA with hA
        subst hA
        rw [hpi.symm.trans HPD.out] at q0 q1 q2 q3
        clear hpi
        go_simp
        try with_reducible rfl
      try simp only [Act.put, List.getElem_toArray, List.getElem_cons_succ, List.getElem_cons_zero, List.setIfInBounds_toArray, List.set_cons_zero, List.set_cons_succ]
      refine wpAnyH_take (i := 10) (v := ?_) rfl (by kernel_rfl) (by kernel_rfl) (by kernel_rfl) (fun _ _ _ h => h) (Or.inl ⟨by rfl, ?_⟩) hS ?_
      rotate_left
      · intro w hw
        go_simp
        try with_reducible rfl
      try simp only [Act.put, List.getElem_toArray, List.getElem_cons_succ, List.getElem_cons_zero, List.setIfInBounds_toArray, List.set_cons_zero, List.set_cons_succ]
      refine wpAnyH_take (i := 11) (v := ?_) rfl (by kernel_rfl) (by kernel_rfl) (by kernel_rfl) (fun _ _ _ h => h) (Or.inl ⟨by rfl, ?_⟩) hS ?_
      rotate_left
      · intro w hw
        have ew := HWR.out.1
        go_simp
        try with_reducible rfl
      try simp only [Act.put, List.getElem_toArray, List.getElem_cons_succ, List.getElem_cons_zero, List.setIfInBounds_toArray, List.set_cons_zero, List.set_cons_succ]
      refine wpAnyH_take (i := 12) (v := ?_) rfl (by kernel_rfl) (by kernel_rfl) (by kernel_rfl) (fun _ _ _ h => h) (Or.inl ⟨by rfl, ?_⟩) hS ?_
      rotate_left
      · intro w hw
        go_simp
        try with_reducible rfl
      try simp only [Act.put, List.getElem_toArray, List.getElem_cons_succ, List.getElem_cons_zero, List.setIfInBounds_toArray, List.set_cons_zero, List.set_cons_succ]
      refine wpAnyH_take (i := 13) (v := ?_) rfl (by kernel_rfl) (by kernel_rfl) (by kernel_rfl) (fun _ _ _ h => h) (Or.inl ⟨by rfl, ?_⟩) hS ?_
      rotate_left
      · intro w hw
        go_simp
        try with_reducible rfl
      try simp only [Act.put, List.getElem_toArray, List.getElem_cons_succ, List.getElem_cons_zero, List.setIfInBounds_toArray, List.set_cons_zero, List.set_cons_succ]
      refine wpAnyH_take (i := 14) (v := ?_) rfl (by kernel_rfl) (by kernel_rfl) (by kernel_rfl) (fun _ _ _ h => h) (Or.inl ⟨by rfl, ?_⟩) hS ?_
      rotate_left
      · intro w hw
        go_simp
        try with_reducible rfl
      try simp only [Act.put, List.getElem_toArray, List.getElem_cons_succ, List.getElem_cons_zero, List.setIfInBounds_toArray, List.set_cons_zero, List.set_cons_succ]
      refine wpAnyH_take (i := 15) (v := ?_) rfl (by kernel_rfl) (by kernel_rfl) (by kernel_rfl) (fun _ _ _ h => h) (Or.inl ⟨by rfl, ?_⟩) hS ?_
      rotate_left
      · intro w hw
        have hbx := HBX.out.below (hb.out.trans (hw.out.mono hb.out.size)) HBX.out.lt
        have b0 := hbx.cell 0
        have b1 := hbx.cell 1
        simp only [List.getElem?_cons_zero, List.getElem?_cons_succ] at b0 b1
        clear hbx
        go_simp
        try with_reducible rfl
      try simp only [Act.put, List.getElem_toArray, List.getElem_cons_succ, List.getElem_cons_zero, List.setIfInBounds_toArray, List.set_cons_zero, List.set_cons_succ]
      refine wpAnyH_take (i := 16) (v := ?_) rfl (by kernel_rfl) (by kernel_rfl) (by kernel_rfl) (fun _ _ _ h => h) (Or.inl ⟨by rfl, ?_⟩) hS ?_
      rotate_left
      · intro w hw
        go_simp
        try with_reducible rfl
      try simp only [Act.put, List.getElem_toArray, List.getElem_cons_succ, List.getElem_cons_zero, List.setIfInBounds_toArray, List.set_cons_zero, List.set_cons_succ]
      refine wpAnyH_take (i := 17) (v := ?_) rfl (by kernel_rfl) (by kernel_rfl) (by kernel_rfl) (fun _ _ _ h => h) (Or.inl ⟨by rfl, ?_⟩) hS ?_
      rotate_left
      · intro w hw
        have hpd := HPD.out
        go_simp
        try with_reducible rfl
      try simp only [Act.put, List.getElem_toArray, List.getElem_cons_succ, List.getElem_cons_zero, List.setIfInBounds_toArray, List.set_cons_zero, List.set_cons_succ]
      refine wpAnyH_take (i := 18) (v := ?_) rfl (by kernel_rfl) (by kernel_rfl) (by kernel_rfl) (fun _ _ _ h => h) (Or.inl ⟨by rfl, ?_⟩) hS ?_
      rotate_left
      · intro w hw
        go_simp
        try with_reducible rfl
      try simp only [Act.put, List.getElem_toArray, List.getElem_cons_succ, List.getElem_cons_zero, List.setIfInBounds_toArray, List.set_cons_zero, List.set_cons_succ]
      refine wpAnyH_take (i := 19) (v := ?_) rfl (by kernel_rfl) (by kernel_rfl) (by kernel_rfl) (fun _ _ _ h => h) (Or.inl ⟨by rfl, ?_⟩) hS ?_
      rotate_left
      · intro w hw
        obtain ⟨ad', pi, hA, -, hpi, q0, q1, q2, q3⟩ := (HEN.out.later (w' := w) (R' := fun k => S k ∧ k ≠ g) (fun k hk => (hb.out.trans (hw.out.mono hb.out.size)).block k (HLT.out k hk.1)) fun _ h => h).place HJD.out
        injection hA with hA
        subst hA
        rw [hpi.symm.trans HPD.out] at q0 q1 q2 q3
        clear hpi
        go_simp
        try with_reducible rfl
      try simp only [Act.put, List.getElem_toArray, List.getElem_cons_succ, List.getElem_cons_zero, List.setIfInBounds_toArray, List.set_cons_zero, List.set_cons_succ]
      refine wpAnyH_take (i := 20) (v := ?_) rfl (by kernel_rfl) (by kernel_rfl) (by kernel_rfl) (fun _ _ _ h => h) (Or.inl ⟨by rfl, ?_⟩) hS ?_
      rotate_left
      · intro w hw
        go_simp
        try with_reducible rfl
      try simp only [Act.put, List.getElem_toArray, List.getElem_cons_succ, List.getElem_cons_zero, List.setIfInBounds_toArray, List.set_cons_zero, List.set_cons_succ]
      refine wpAnyH_take (i := 21) (v := ?_) rfl (by kernel_rfl) (by kernel_rfl) (by kernel_rfl) (fun _ _ _ h => h) (Or.inl ⟨by rfl, ?_⟩) hS ?_
      rotate_left
      · intro w hw
        have ew := HWR.out.2.1
        go_simp
        try with_reducible rfl
      try simp only [Act.put, List.getElem_toArray, List.getElem_cons_succ, List.getElem_cons_zero, List.setIfInBounds_toArray, List.set_cons_zero, List.set_cons_succ]
      refine wpAnyH_take (i := 22) (v := ?_) rfl (by kernel_rfl) (by kernel_rfl) (by kernel_rfl) (fun _ _ _ h => h) (Or.inl ⟨by rfl, ?_⟩) hS ?_
      rotate_left
      · intro w hw
        have ew := HWR.out.2.2.1
        go_simp
        try with_reducible rfl
      try simp only [Act.put, List.getElem_toArray, List.getElem_cons_succ, List.getElem_cons_zero, List.setIfInBounds_toArray, List.set_cons_zero, List.set_cons_succ]
      refine wpAnyH_take (i := 23) (v := ?_) rfl (by kernel_rfl) (by kernel_rfl) (by kernel_rfl) (fun _ _ _ h => h) (Or.inl ⟨by rfl, ?_⟩) hS ?_
      rotate_left
      · intro w hw
        go_simp
        try with_reducible rfl
      try simp only [Act.put, List.getElem_toArray, List.getElem_cons_succ, List.getElem_cons_zero, List.setIfInBounds_toArray, List.set_cons_zero, List.set_cons_succ]
      refine wpAnyH_take (i := 24) (v := ?_) rfl (by kernel_rfl) (by kernel_rfl) (by kernel_rfl) (fun _ _ _ h => h) (Or.inl ⟨by rfl, ?_⟩) hS ?_
      rotate_left
      · intro w hw
        go_simp
        try with_reducible rfl
      try simp only [Act.put, List.getElem_toArray, List.getElem_cons_succ, List.getElem_cons_zero, List.setIfInBounds_toArray, List.set_cons_zero, List.set_cons_succ]
      refine wpAnyH_take (i := 25) (v := ?_) rfl (by kernel_rfl) (by kernel_rfl) (by kernel_rfl) (fun _ _ _ h => h) (Or.inl ⟨by rfl, ?_⟩) hS ?_
      rotate_left
      · intro w hw
        go_simp
        try with_reducible rfl
      try simp only [Act.put, List.getElem_toArray, List.getElem_cons_succ, List.getElem_cons_zero, List.setIfInBounds_toArray, List.set_cons_zero, List.set_cons_succ]
      refine wpAnyH_take (i := 26) (v := ?_) rfl (by kernel_rfl) (by kernel_rfl) (by kernel_rfl) (fun _ _ _ h => h) (Or.inl ⟨by rfl, ?_⟩) hS ?_
      rotate_left
      · intro w hw
        have hbx := HBX.out.below (hb.out.trans (hw.out.mono hb.out.size)) HBX.out.lt
        have b0 := hbx.cell 0
        have b1 := hbx.cell 1
        simp only [List.getElem?_cons_zero, List.getElem?_cons_succ] at b0 b1
        clear hbx
        go_simp
        try with_reducible rfl
      try simp only [Act.put, List.getElem_toArray, List.getElem_cons_succ, List.getElem_cons_zero, List.setIfInBounds_toArray, List.set_cons_zero, List.set_cons_succ]
      refine wpAnyH_take (i := 27) (v := ?_) rfl (by kernel_rfl) (by kernel_rfl) (by kernel_rfl) (fun _ _ _ h => h) (Or.inl ⟨by rfl, ?_⟩) hS ?_
      rotate_left
      · intro w hw
        go_simp
        try with_reducible rfl
      try simp only [Act.put, List.getElem_toArray, List.getElem_cons_succ, List.getElem_cons_zero, List.setIfInBounds_toArray, List.set_cons_zero, List.set_cons_succ]
      refine wpAnyH_take (i := 28) (v := ?_) rfl (by kernel_rfl) (by kernel_rfl) (by kernel_rfl) (fun _ _ _ h => h) (Or.inl ⟨by rfl, ?_⟩) hS ?_
      rotate_left
      · intro w hw
        have hjc := HJC.out
        go_simp
        try with_reducible rfl
      try simp only [Act.put, List.getElem_toArray, List.getElem_cons_succ, List.getElem_cons_zero, List.setIfInBounds_toArray, List.set_cons_zero, List.set_cons_succ]
      refine wpAnyH_take (i := 29) (v := ?_) rfl (by kernel_rfl) (by kernel_rfl) (by kernel_rfl) (fun _ _ _ h => h) (Or.inl ⟨by rfl, ?_⟩) hS ?_
      rotate_left
      · intro w hw
        have q9 := (hw.out.cell (p := ah.add j) (block_lt_of_cell HQ9.out)).trans HQ9.out
        go_simp
        try with_reducible rfl
      try simp only [Act.put, List.getElem_toArray, List.getElem_cons_succ, List.getElem_cons_zero, List.setIfInBounds_toArray, List.set_cons_zero, List.set_cons_succ]
      refine wpAnyH_take (i := 30) (v := ?_) rfl (by kernel_rfl) (by kernel_rfl) (by kernel_rfl) (fun _ _ _ h => h) (Or.inl ⟨by rfl, ?_⟩) hS ?_
      rotate_left
      · intro w hw
        have ew := HWR.out.2.2.2.1
        go_simp
        try with_reducible rfl
      try simp only [Act.put, List.getElem_toArray, List.getElem_cons_succ, List.getElem_cons_zero, List.setIfInBounds_toArray, List.set_cons_zero, List.set_cons_succ]
      refine wpAnyH_take (i := 31) (v := ?_) rfl (by kernel_rfl) (by kernel_rfl) (by kernel_rfl) (fun _ _ _ h => h) (Or.inl ⟨by rfl, ?_⟩) hS ?_
      rotate_left
      · intro w hw
        have ew := HWR.out.2.2.2.2
        go_simp
        try with_reducible rfl
      try simp only [Act.put, List.getElem_toArray, List.getElem_cons_succ, List.getElem_cons_zero, List.setIfInBounds_toArray, List.set_cons_zero, List.set_cons_succ]
      refine wpAnyH_take (i := 32) (v := ?_) rfl (by kernel_rfl) (by kernel_rfl) (by kernel_rfl) (fun _ _ _ h => h) (Or.inl ⟨by rfl, ?_⟩) hS ?_
      rotate_left
      · intro w hw
        go_simp
        try with_reducible rfl
      try simp only [Act.put, List.getElem_toArray, List.getElem_cons_succ, List.getElem_cons_zero, List.setIfInBounds_toArray, List.set_cons_zero, List.set_cons_succ]
      refine wpAnyH_done (by kernel_rfl) ?_ _
      have HREL : Hid (z + (d.k.key.length + d.val.length + 16 + 8 * rh) = bytesR (R.take (j + 1)) ∧ Below w.heap.size w wr.drew) := Lib.hid ⟨HTK.out.symm, hb.out.trans (hS.out.mono hb.out.size)⟩
      go_wp2_with fail
      go_roundw
      case rel => exact ⟨j + 1, z + (d.k.key.length + d.val.length + 16 + 8 * rh), by omega, by go_num, by go_num, HREL⟩
      case measure => simp [intOf]; omega
    · obtain rfl : j = Ld.length := by omega
      have HE := Lib.hid (show z = bytesR R by rw [hr.out.1, HLD.out, List.take_length])
      clear hr
      go_wp2_with fail
      go_ret
      exact ⟨by rw [← HE.out]; rfl, hb.out⟩
end
end Go.Proofs.Ytmnhklfljfglhaa.Sk
