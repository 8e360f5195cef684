/- Rows of entries that tell the same. -/
import Derived.Test.YtaopbgildkjpcaaSfn2
import Derived.Deep.RegionHeld3
import Derived.LoopTactic
namespace Go.Proofs.Ytaopbgildkjpcaa.Sk
set_option linter.unusedVariables false
set_option linter.unusedSimpArgs false
open Go.RowKit Lift Ik
set_option maxRecDepth 100000 in
set_option maxHeartbeats 3200000 in
theorem same_entries (A1 A2 : Option Addr) (c1 c2 : Nat) (La Lb : List D) (w : World) (h1 : Ents w (· < w.heap.size) A1 c1 La) (h2 : Ents w (· < w.heap.size) A2 c2 Lb) (hs : La.map D.t = Lb.map D.t) (hn : Lb.length ≤ 1000) :
    Calls Try.prog 15 #[.slice A1 La.length c1, .slice A2 Lb.length c2] w fun e w' => e = .returned (.bool true) ∧ Below w.heap.size w w' := by
  have H1 := Lib.hid h1
  have H2 := Lib.hid h2
  have HS := Lib.hid hs
  have hc1 := h1.len
  have hm1 := h1.cap
  have hc2 := h2.len
  have hm2 := h2.cap
  unfold maxLen at hm1 hm2
  have hll : La.length = Lb.length := by have := congrArg List.length hs; simpa using this
  have HLL := Lib.hid hll
  rw [← hll] at hn
  have hne : ((La.length : Int) != (Lb.length : Int)) = false := by rw [hll]; simp
  clear h1 h2 hs hll
  go_enter Try.func15, Try.ntmps15
  go_wp2_with fail
  go_loopw [5] (fun i wr => ∃ j : Nat, j ≤ La.length ∧ i = .int .i64 j ∧ Hid (Below w.heap.size w wr)) (fun i _ => La.length + 1 - (intOf i).toNat)
  case atStart => exact ⟨0, by omega, rfl, Lib.hid (Below.refl _ _)⟩
  case round =>
    obtain ⟨j, hj, rfl, hb⟩ := hrel
    by_cases hlt : j < La.length
    · have hjb : j < Lb.length := by rw [← HLL.out]; exact hlt
      obtain ⟨da, hda⟩ : ∃ d, La[j]? = some d := ⟨_, List.getElem?_eq_getElem hlt⟩
      obtain ⟨db, hdb⟩ : ∃ d, Lb[j]? = some d := ⟨_, List.getElem?_eq_getElem hjb⟩
      have hte : da.t = db.t := by
        have h1 : (La.map D.t)[j]? = (Lb.map D.t)[j]? := by rw [HS.out]
        rw [List.getElem?_map, List.getElem?_map, hda, hdb] at h1
        simpa using h1
      obtain ⟨ad1, p1, hA1, -, hp1, -⟩ := H1.out.place hda
      subst hA1
      obtain ⟨ad2, p2, hA2, -, hp2, -⟩ := H2.out.place hdb
      subst hA2
      have HTE := Lib.hid hte
      have HJB := Lib.hid hjb
      have HDA := Lib.hid hda
      have HDB := Lib.hid hdb
      have HP1 := Lib.hid hp1
      have HP2 := Lib.hid hp2
      have HOA := Lib.hid (H1.out.ok da (List.mem_of_getElem? hda))
      have HOB := Lib.hid (H2.out.ok db (List.mem_of_getElem? hdb))
      clear hte hjb hda hdb hp1 hp2
      go_wp2_with fail
      refine wp_region_held_drew (S := fun w' => Hid (Below wr.heap.size wr w')) (by kernel_rfl) (Lib.hid (Below.refl _ _).drew) (fun hS => ?_)
      refine wpAnyH_take (i := 0) (v := ?_) rfl (by kernel_rfl) (by kernel_rfl) (by kernel_rfl) (fun _ _ _ h => h) (Or.inl ⟨by rfl, ?_⟩) hS ?_
      rotate_left
      · intro w hw
        go_simp
        try with_reducible rfl
      try simp only [Act.put, List.getElem_toArray, List.getElem_cons_succ, List.getElem_cons_zero, List.setIfInBounds_toArray, List.set_cons_zero, List.set_cons_succ]
      refine wpAnyH_take (i := 1) (v := ?_) rfl (by kernel_rfl) (by kernel_rfl) (by kernel_rfl) (fun _ _ _ h => h) (Or.inl ⟨by rfl, ?_⟩) hS ?_
      rotate_left
      · intro w hw
        go_simp
        try with_reducible rfl
      try simp only [Act.put, List.getElem_toArray, List.getElem_cons_succ, List.getElem_cons_zero, List.setIfInBounds_toArray, List.set_cons_zero, List.set_cons_succ]
      refine wpAnyH_take (i := 2) (v := ?_) rfl (by kernel_rfl) (by kernel_rfl) (by kernel_rfl) (fun _ _ _ h => h) (Or.inl ⟨by rfl, ?_⟩) hS ?_
      rotate_left
      · intro w hw
        have hp1 := HP1.out
        go_simp
        try with_reducible rfl
      try simp only [Act.put, List.getElem_toArray, List.getElem_cons_succ, List.getElem_cons_zero, List.setIfInBounds_toArray, List.set_cons_zero, List.set_cons_succ]
      refine wpAnyH_take (i := 3) (v := ?_) rfl (by kernel_rfl) (by kernel_rfl) (by kernel_rfl) (fun _ _ _ h => h) (Or.inl ⟨by rfl, ?_⟩) hS ?_
      rotate_left
      · intro w hw
        obtain ⟨ad', pi, hA, -, hpi, q0, q1, q2, q3⟩ := (H1.out.below (hb.out.trans (hw.out.mono hb.out.size))).place HDA.out
        injection hA with hA
        subst hA
        obtain rfl : pi = p1 := hpi.symm.trans HP1.out
        have hld := D.load q0 q1 q2 q3
        go_simp
        try with_reducible rfl
      try simp only [Act.put, List.getElem_toArray, List.getElem_cons_succ, List.getElem_cons_zero, List.setIfInBounds_toArray, List.set_cons_zero, List.set_cons_succ]
      refine wpAnyH_take (i := 4) (v := ?_) rfl (by kernel_rfl) (by kernel_rfl) (by kernel_rfl) (fun _ _ _ h => h) (Or.inl ⟨by rfl, ?_⟩) hS ?_
      rotate_left
      · intro w hw
        go_simp
        try with_reducible rfl
      try simp only [Act.put, List.getElem_toArray, List.getElem_cons_succ, List.getElem_cons_zero, List.setIfInBounds_toArray, List.set_cons_zero, List.set_cons_succ]
      refine wpAnyH_take (i := 5) (v := ?_) rfl (by kernel_rfl) (by kernel_rfl) (by kernel_rfl) (fun _ _ _ h => h) (Or.inl ⟨by rfl, ?_⟩) hS ?_
      rotate_left
      · intro w hw
        go_simp
        try with_reducible rfl
      try simp only [Act.put, List.getElem_toArray, List.getElem_cons_succ, List.getElem_cons_zero, List.setIfInBounds_toArray, List.set_cons_zero, List.set_cons_succ]
      refine wpAnyH_take (i := 6) (v := ?_) rfl (by kernel_rfl) (by kernel_rfl) (by kernel_rfl) (fun _ _ _ h => h) (Or.inl ⟨by rfl, ?_⟩) hS ?_
      rotate_left
      · intro w hw
        have hp2 := HP2.out
        have hjb := HJB.out
        go_simp
        try with_reducible rfl
      try simp only [Act.put, List.getElem_toArray, List.getElem_cons_succ, List.getElem_cons_zero, List.setIfInBounds_toArray, List.set_cons_zero, List.set_cons_succ]
      refine wpAnyH_take (i := 7) (v := ?_) rfl (by kernel_rfl) (by kernel_rfl) (by kernel_rfl) (fun _ _ _ h => h) (Or.inl ⟨by rfl, ?_⟩) hS ?_
      rotate_left
      · intro w hw
        obtain ⟨ad', pi, hA, -, hpi, q0, q1, q2, q3⟩ := (H2.out.below (hb.out.trans (hw.out.mono hb.out.size))).place HDB.out
        injection hA with hA
        subst hA
        obtain rfl : pi = p2 := hpi.symm.trans HP2.out
        have hld := D.load q0 q1 q2 q3
        go_simp
        try with_reducible rfl
      try simp only [Act.put, List.getElem_toArray, List.getElem_cons_succ, List.getElem_cons_zero, List.setIfInBounds_toArray, List.set_cons_zero, List.set_cons_succ]
      refine wpAnyH_ready (rs := [8]) (by kernel_rfl) (by simp) ?_
      refine AllReadyH.cons rfl (fun K hK => ?_) AllReadyH.nil
      go_simp
      have hb7 := hS.out
      have hb8 := hb.out.trans (hb7.mono hb.out.size)
      refine (same_entry da db _ (HOA.out.next hb8) (HOB.out.next hb8)).mono ?_
      rintro e W8 ⟨rfl, hb9⟩
      rw [sameD_eq HTE.out]
      have HB8 := Lib.hid (hb7.trans (hb9.mono hb7.size))
      clear hb7 hb8 hb9
      go_wp2_with fail
      refine hK.out _ _ HB8 (fun _ => ?_)
      clear hK K hS
      refine wpAnyH_other (S' := fun w' => Hid (Below W8.heap.size W8 w')) (fun w hw => Lib.hid (HB8.out.trans (hw.out.mono HB8.out.size))) _ _ _ _ ?_
      have hS : Hid (Below W8.heap.size W8 W8) := Lib.hid (Below.refl _ _)
      try simp only [Act.put, List.getElem_toArray, List.getElem_cons_succ, List.getElem_cons_zero, List.setIfInBounds_toArray, List.set_cons_zero, List.set_cons_succ]
      refine wpAnyH_take (i := 9) (v := ?_) rfl (by kernel_rfl) (by kernel_rfl) (by kernel_rfl) (fun _ _ _ h => h) (Or.inl ⟨by rfl, ?_⟩) hS ?_
      rotate_left
      · intro w hw
        go_simp
        try with_reducible rfl
      try simp only [Act.put, List.getElem_toArray, List.getElem_cons_succ, List.getElem_cons_zero, List.setIfInBounds_toArray, List.set_cons_zero, List.set_cons_succ]
      refine wpAnyH_done (by kernel_rfl) ?_ _
      have HREL := Lib.hid (hb.out.trans (HB8.out.mono hb.out.size))
      go_wp2_with fail
      go_roundw
      case rel => exact ⟨j + 1, by omega, by go_num, HREL⟩
      case measure => simp [intOf]; omega
    · go_wp2_with fail
      go_ret
      exact ⟨rfl, hb.out⟩
end Go.Proofs.Ytaopbgildkjpcaa.Sk
